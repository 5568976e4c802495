/-
  A deed of layer 5 with both disks (latchkeylaw05.do): both answer the same, and go on to say the same. The conditions: at most 99 deeds ahead of it, its text of at most 1000 bytes.
-/
import Derived.Test.YtpbkpaendhpbfaaPlF
namespace Go.Proofs.Ytpbkpaendhpbfaa
open Go.RowKit

/-- Both disks. -/
structure Bis (w : World) (base Dx Dy : Nat) (A : List CF) (L : Look) (turns clock cnt : Nat) (ro : Nat → Option Nat) (S : Nat → Prop) : Prop where
  x : DkS w base Dx A turns ro
  y : RD w base Dy S L clock cnt
  dj : ∀ i, S i → ro i = none
theorem Bis.box {w : World} {base Dx Dy : Nat} {A : List CF} {L : Look} {turns clock cnt : Nat} {ro : Nat → Option Nat} {S : Nat → Prop} (h : Bis w base Dx Dy A L turns clock cnt ro S) (d : Dd) : Duo (w.alloc (.cells (ddL d) DD)) base Dx Dy A L turns clock cnt ro S w.heap.size d := by
  have k : Below w.heap.size w (w.alloc (.cells (ddL d) DD)) := (Below.refl _ _).alloc (Nat.le_refl _) _
  refine ⟨h.x.fresh k, h.y.fresh k, h.dj, heap_alloc_new w _, fun hs => by have := (h.y.bd _ hs).2; omega, ?_⟩
  cases hr : ro w.heap.size with
  | none => rfl
  | some q => have := (h.x.bd w.heap.size (by rw [hr]; simp)).2; omega
/-- What a deed leaves. -/
def DoPost (w w' : World) (base Dx Dy k : Nat) : Prop :=
  ∃ (A' : List CF) (L' : Look) (turns' clock' cnt' : Nat) (ro' : Nat → Option Nat) (S' : Nat → Prop), Bis w' base Dx Dy A' L' turns' clock' cnt' ro' S' ∧ Ok A' L' turns' clock' cnt' (k + 1) ∧ Below base w w'
theorem Duo.post {w w' : World} {base Dx Dy k b : Nat} {A' : List CF} {L' : Look} {turns' clock' cnt' : Nat} {ro' : Nat → Option Nat} {S' : Nat → Prop} {d : Dd} (h : Duo w' base Dx Dy A' L' turns' clock' cnt' ro' S' b d) (ho : Ok A' L' turns' clock' cnt' (k + 1)) (hb : Below base w w') : DoPost w w' base Dx Dy k := ⟨A', L', turns', clock', cnt', ro', S', ⟨h.x, h.y, h.dj⟩, ho, hb⟩
theorem undrB {w w' : World} {B : Nat} (k : Below B w.drew w') : Below B w w' := ⟨k.os, k.tape, k.output, k.size, k.block⟩
set_option maxHeartbeats 3200000 in
set_option maxRecDepth 100000 in
theorem do_append (w : World) (base Dx Dy : Nat) (A : List CF) (L : Look) (turns clock cnt k : Nat) (ro : Nat → Option Nat) (S : Nat → Prop) (hB : Bis w base Dx Dy A L turns clock cnt ro S) (hO : Ok A L turns clock cnt k) (hk : k ≤ 99) (N : Int) (F T s : ByteArray) (hs : s.size ≤ 1000) :
    Calls Try.prog 9 #[.pointer (some ⟨Dx, 0, none⟩), .pointer (some ⟨Dy, 0, none⟩), .agg #[.int .i64 0, .int .i64 N, .string F, .string T, .string s]] w fun e w' => e = .returned (.bool true) ∧ DoPost w w' base Dx Dy k := by
  have hu := hB.box ⟨0, N, F, T, s⟩
  have hok := hB.x.ok
  have hbl := hB.x.base
  obtain ⟨z, PX, PY, ⟨zi, rfl⟩, hX, hY, hJ⟩ := pair_append (base := base) (Dx := Dx) (Dy := Dy) (b := w.heap.size) (S := S) (d := ⟨0, N, F, T, s⟩) hO hk hok F s hs
  have HU : Hid _ := hu
  have z0 : (w.alloc (.cells #[.int .i64 0, .int .i64 N, .string F, .string T, .string s] DD)).cell? ⟨w.heap.size, 0, none⟩ = some (.int .i64 0) := hu.c0
  have belU : Below base w (w.alloc (.cells #[.int .i64 0, .int .i64 N, .string F, .string T, .string s] DD)) := (Below.refl _ w).alloc hbl _
  clear hB hok hbl hu
  go_enter Try.func9, Try.ntmps9
  go_wp2
  obtain ⟨u, hue⟩ : ∃ u, u = w.alloc (.cells #[.int .i64 0, .int .i64 N, .string F, .string T, .string s] DD) := ⟨_, rfl⟩
  have hu := HU.out
  change Duo (w.alloc (.cells #[.int .i64 0, .int .i64 N, .string F, .string T, .string s] DD)) base Dx Dy A L turns clock cnt ro S w.heap.size _ at hu
  rw [← hue] at hu belU ⊢
  have e2 : u.cell? ⟨w.heap.size, 2, none⟩ = some (.string F) := hu.c2
  have e4 : u.cell? ⟨w.heap.size, 4, none⟩ = some (.string s) := hu.c4
  clear hue HU z0
  refine wp_region_held_drew (S := (fun w' : World => w'.cell? ⟨w.heap.size, 2, none⟩ = some (.string F) ∧ w'.cell? ⟨w.heap.size, 4, none⟩ = some (.string s))) (by kernel_rfl) ?_ (fun hHeld0 => ?_)
  · try dsimp only
    go_keep
  refine tk0 (.pointer (some ⟨Dx, 0, none⟩)) (by kernel_rfl) (by kernel_rfl) (by kernel_rfl) (fun _ _ _ h => h) rfl (fun w hSw => by (try dsimp only at hSw); obtain ⟨q0, q1⟩ := hSw; go_simp) (by assumption) ?_
  try simp only [Act.put, List.setIfInBounds_toArray, List.set_cons_zero, List.set_cons_succ]
  refine tk1 (.pointer (some ⟨w.heap.size, 2, none⟩)) (by kernel_rfl) (by kernel_rfl) (by kernel_rfl) (fun _ _ _ h => h) rfl (fun w hSw => by (try dsimp only at hSw); obtain ⟨q0, q1⟩ := hSw; go_simp) (by assumption) ?_
  try simp only [Act.put, List.setIfInBounds_toArray, List.set_cons_zero, List.set_cons_succ]
  refine tk2 (.string F) (by kernel_rfl) (by kernel_rfl) (by kernel_rfl) (fun _ _ _ h => h) rfl (fun w hSw => by (try dsimp only at hSw); obtain ⟨q0, q1⟩ := hSw; go_simp) (by assumption) ?_
  try simp only [Act.put, List.setIfInBounds_toArray, List.set_cons_zero, List.set_cons_succ]
  refine tk3 (.pointer (some ⟨w.heap.size, 4, none⟩)) (by kernel_rfl) (by kernel_rfl) (by kernel_rfl) (fun _ _ _ h => h) rfl (fun w hSw => by (try dsimp only at hSw); obtain ⟨q0, q1⟩ := hSw; go_simp) (by assumption) ?_
  try simp only [Act.put, List.setIfInBounds_toArray, List.set_cons_zero, List.set_cons_succ]
  refine tk4 (.string s) (by kernel_rfl) (by kernel_rfl) (by kernel_rfl) (fun _ _ _ h => h) rfl (fun w hSw => by (try dsimp only at hSw); obtain ⟨q0, q1⟩ := hSw; go_simp) (by assumption) ?_
  try simp only [Act.put, List.setIfInBounds_toArray, List.set_cons_zero, List.set_cons_succ]
  refine tk6 (.pointer (some ⟨Dy, 0, none⟩)) (by kernel_rfl) (by kernel_rfl) (by kernel_rfl) (fun _ _ _ h => h) rfl (fun w hSw => by (try dsimp only at hSw); obtain ⟨q0, q1⟩ := hSw; go_simp) (by assumption) ?_
  try simp only [Act.put, List.setIfInBounds_toArray, List.set_cons_zero, List.set_cons_succ]
  refine tk7 (.pointer (some ⟨w.heap.size, 2, none⟩)) (by kernel_rfl) (by kernel_rfl) (by kernel_rfl) (fun _ _ _ h => h) rfl (fun w hSw => by (try dsimp only at hSw); obtain ⟨q0, q1⟩ := hSw; go_simp) (by assumption) ?_
  try simp only [Act.put, List.setIfInBounds_toArray, List.set_cons_zero, List.set_cons_succ]
  refine tk8 (.string F) (by kernel_rfl) (by kernel_rfl) (by kernel_rfl) (fun _ _ _ h => h) rfl (fun w hSw => by (try dsimp only at hSw); obtain ⟨q0, q1⟩ := hSw; go_simp) (by assumption) ?_
  try simp only [Act.put, List.setIfInBounds_toArray, List.set_cons_zero, List.set_cons_succ]
  refine tk9 (.pointer (some ⟨w.heap.size, 4, none⟩)) (by kernel_rfl) (by kernel_rfl) (by kernel_rfl) (fun _ _ _ h => h) rfl (fun w hSw => by (try dsimp only at hSw); obtain ⟨q0, q1⟩ := hSw; go_simp) (by assumption) ?_
  try simp only [Act.put, List.setIfInBounds_toArray, List.set_cons_zero, List.set_cons_succ]
  refine tk10 (.string s) (by kernel_rfl) (by kernel_rfl) (by kernel_rfl) (fun _ _ _ h => h) rfl (fun w hSw => by (try dsimp only at hSw); obtain ⟨q0, q1⟩ := hSw; go_simp) (by assumption) ?_
  try simp only [Act.put, List.setIfInBounds_toArray, List.set_cons_zero, List.set_cons_succ]
  refine cl5 (by kernel_rfl) rfl (fun K hK => ?_)
  go_simp
  go_at_call 25
  refine (hX _ _ hu.drew).mono ?_
  rintro e w2 ⟨rfl, A2, t2, ro2, h2, p2, b2⟩
  have y2 := h2.c2
  have y4 := h2.c4
  refine hK.out _ _ ?_ (fun hHeld => ?_)
  · try dsimp only
    go_keep
  clear hK K
  try simp only [Act.put, List.setIfInBounds_toArray, List.set_cons_zero, List.set_cons_succ]
  refine cl11 (by kernel_rfl) rfl (fun K hK => ?_)
  go_simp
  go_at_call 26
  refine (hY _ _ _ _ h2).mono ?_
  rintro e w3 ⟨rfl, L3, c3, n3, S3, h3, p3, b3⟩
  have x2 := h3.c2
  have x4 := h3.c4
  refine hK.out _ _ ?_ (fun hHeld => ?_)
  · try dsimp only
    go_keep
  clear hK K
  try simp only [Act.put, List.setIfInBounds_toArray, List.set_cons_zero, List.set_cons_succ]
  refine tk12 (.bool true) (by kernel_rfl) (by kernel_rfl) (by kernel_rfl) (fun _ _ _ h => h) rfl (fun w hSw => by (try dsimp only at hSw); obtain ⟨q0, q1⟩ := hSw; go_simp) (by assumption) ?_
  try simp only [Act.put, List.setIfInBounds_toArray, List.set_cons_zero, List.set_cons_succ]
  refine tk13 (.bool true) (by kernel_rfl) (by kernel_rfl) (by kernel_rfl) (fun _ _ _ h => h) rfl (fun w hSw => by (try dsimp only at hSw); obtain ⟨q0, q1⟩ := hSw; go_simp) (by assumption) ?_
  try simp only [Act.put, List.setIfInBounds_toArray, List.set_cons_zero, List.set_cons_succ]
  refine wpAnyH_done (by kernel_rfl) ?_ _
  go_wp2
  go_ret
  exact ⟨rfl, h3.post (hJ _ _ _ _ _ p2 p3) ((belU.trans (undrB b2)).trans b3)⟩
set_option maxHeartbeats 3200000 in
set_option maxRecDepth 100000 in
theorem do_sync (w : World) (base Dx Dy : Nat) (A : List CF) (L : Look) (turns clock cnt k : Nat) (ro : Nat → Option Nat) (S : Nat → Prop) (hB : Bis w base Dx Dy A L turns clock cnt ro S) (hO : Ok A L turns clock cnt k) (hk : k ≤ 99) (N : Int) (F T s : ByteArray) (hn : F.size ≤ maxLen) :
    Calls Try.prog 9 #[.pointer (some ⟨Dx, 0, none⟩), .pointer (some ⟨Dy, 0, none⟩), .agg #[.int .i64 1, .int .i64 N, .string F, .string T, .string s]] w fun e w' => e = .returned (.bool true) ∧ DoPost w w' base Dx Dy k := by
  have hu := hB.box ⟨1, N, F, T, s⟩
  have hok := hB.x.ok
  have hbl := hB.x.base
  obtain ⟨z, PX, PY, ⟨zi, rfl⟩, hX, hY, hJ⟩ := pair_sync (base := base) (Dx := Dx) (Dy := Dy) (b := w.heap.size) (S := S) (d := ⟨1, N, F, T, s⟩) hO (by omega) hok F hn
  have HU : Hid _ := hu
  have z0 : (w.alloc (.cells #[.int .i64 1, .int .i64 N, .string F, .string T, .string s] DD)).cell? ⟨w.heap.size, 0, none⟩ = some (.int .i64 1) := hu.c0
  have belU : Below base w (w.alloc (.cells #[.int .i64 1, .int .i64 N, .string F, .string T, .string s] DD)) := (Below.refl _ w).alloc hbl _
  clear hB hok hbl hu
  go_enter Try.func9, Try.ntmps9
  go_wp2
  obtain ⟨u, hue⟩ : ∃ u, u = w.alloc (.cells #[.int .i64 1, .int .i64 N, .string F, .string T, .string s] DD) := ⟨_, rfl⟩
  have hu := HU.out
  change Duo (w.alloc (.cells #[.int .i64 1, .int .i64 N, .string F, .string T, .string s] DD)) base Dx Dy A L turns clock cnt ro S w.heap.size _ at hu
  rw [← hue] at hu belU ⊢
  have e2 : u.cell? ⟨w.heap.size, 2, none⟩ = some (.string F) := hu.c2
  clear hue HU z0
  refine wp_region_held_drew (S := (fun w' : World => w'.cell? ⟨w.heap.size, 2, none⟩ = some (.string F))) (by kernel_rfl) ?_ (fun hHeld0 => ?_)
  · try dsimp only
    go_keep
  refine tk0 (.pointer (some ⟨Dx, 0, none⟩)) (by kernel_rfl) (by kernel_rfl) (by kernel_rfl) (fun _ _ _ h => h) rfl (fun w hSw => by (try dsimp only at hSw); go_simp) (by assumption) ?_
  try simp only [Act.put, List.setIfInBounds_toArray, List.set_cons_zero, List.set_cons_succ]
  refine tk1 (.pointer (some ⟨w.heap.size, 2, none⟩)) (by kernel_rfl) (by kernel_rfl) (by kernel_rfl) (fun _ _ _ h => h) rfl (fun w hSw => by (try dsimp only at hSw); go_simp) (by assumption) ?_
  try simp only [Act.put, List.setIfInBounds_toArray, List.set_cons_zero, List.set_cons_succ]
  refine tk2 (.string F) (by kernel_rfl) (by kernel_rfl) (by kernel_rfl) (fun _ _ _ h => h) rfl (fun w hSw => by (try dsimp only at hSw); go_simp) (by assumption) ?_
  try simp only [Act.put, List.setIfInBounds_toArray, List.set_cons_zero, List.set_cons_succ]
  refine tk4 (.pointer (some ⟨Dy, 0, none⟩)) (by kernel_rfl) (by kernel_rfl) (by kernel_rfl) (fun _ _ _ h => h) rfl (fun w hSw => by (try dsimp only at hSw); go_simp) (by assumption) ?_
  try simp only [Act.put, List.setIfInBounds_toArray, List.set_cons_zero, List.set_cons_succ]
  refine tk5 (.pointer (some ⟨w.heap.size, 2, none⟩)) (by kernel_rfl) (by kernel_rfl) (by kernel_rfl) (fun _ _ _ h => h) rfl (fun w hSw => by (try dsimp only at hSw); go_simp) (by assumption) ?_
  try simp only [Act.put, List.setIfInBounds_toArray, List.set_cons_zero, List.set_cons_succ]
  refine tk6 (.string F) (by kernel_rfl) (by kernel_rfl) (by kernel_rfl) (fun _ _ _ h => h) rfl (fun w hSw => by (try dsimp only at hSw); go_simp) (by assumption) ?_
  try simp only [Act.put, List.setIfInBounds_toArray, List.set_cons_zero, List.set_cons_succ]
  refine cl3 (by kernel_rfl) rfl (fun K hK => ?_)
  go_simp
  go_at_call 27
  refine (hX _ _ hu.drew).mono ?_
  rintro e w2 ⟨rfl, A2, t2, ro2, h2, p2, b2⟩
  have y2 := h2.c2
  refine hK.out _ _ ?_ (fun hHeld => ?_)
  · try dsimp only
    go_keep
  clear hK K
  try simp only [Act.put, List.setIfInBounds_toArray, List.set_cons_zero, List.set_cons_succ]
  refine cl7 (by kernel_rfl) rfl (fun K hK => ?_)
  go_simp
  go_at_call 28
  refine (hY _ _ _ _ h2).mono ?_
  rintro e w3 ⟨rfl, L3, c3, n3, S3, h3, p3, b3⟩
  have x2 := h3.c2
  refine hK.out _ _ ?_ (fun hHeld => ?_)
  · try dsimp only
    go_keep
  clear hK K
  try simp only [Act.put, List.setIfInBounds_toArray, List.set_cons_zero, List.set_cons_succ]
  refine tk8 (.bool true) (by kernel_rfl) (by kernel_rfl) (by kernel_rfl) (fun _ _ _ h => h) rfl (fun w hSw => by (try dsimp only at hSw); go_simp) (by assumption) ?_
  try simp only [Act.put, List.setIfInBounds_toArray, List.set_cons_zero, List.set_cons_succ]
  refine tk9 (.bool true) (by kernel_rfl) (by kernel_rfl) (by kernel_rfl) (fun _ _ _ h => h) rfl (fun w hSw => by (try dsimp only at hSw); go_simp) (by assumption) ?_
  try simp only [Act.put, List.setIfInBounds_toArray, List.set_cons_zero, List.set_cons_succ]
  refine wpAnyH_done (by kernel_rfl) ?_ _
  go_wp2
  go_ret
  exact ⟨rfl, h3.post (hJ _ _ _ _ _ p2 p3) ((belU.trans (undrB b2)).trans b3)⟩
set_option maxHeartbeats 3200000 in
set_option maxRecDepth 100000 in
theorem do_read (w : World) (base Dx Dy : Nat) (A : List CF) (L : Look) (turns clock cnt k : Nat) (ro : Nat → Option Nat) (S : Nat → Prop) (hB : Bis w base Dx Dy A L turns clock cnt ro S) (hO : Ok A L turns clock cnt k) (hk : k ≤ 99) (N : Int) (F T s : ByteArray) (hn : F.size ≤ maxLen) :
    Calls Try.prog 9 #[.pointer (some ⟨Dx, 0, none⟩), .pointer (some ⟨Dy, 0, none⟩), .agg #[.int .i64 2, .int .i64 N, .string F, .string T, .string s]] w fun e w' => e = .returned (.bool true) ∧ DoPost w w' base Dx Dy k := by
  have hu := hB.box ⟨2, N, F, T, s⟩
  have hok := hB.x.ok
  have hbl := hB.x.base
  obtain ⟨z, PX, PY, ⟨zt, zi, rfl⟩, hX, hY, hJ⟩ := pair_read (base := base) (Dx := Dx) (Dy := Dy) (b := w.heap.size) (S := S) (d := ⟨2, N, F, T, s⟩) hO (by omega) hok F hn
  have HU : Hid _ := hu
  have z0 : (w.alloc (.cells #[.int .i64 2, .int .i64 N, .string F, .string T, .string s] DD)).cell? ⟨w.heap.size, 0, none⟩ = some (.int .i64 2) := hu.c0
  have belU : Below base w (w.alloc (.cells #[.int .i64 2, .int .i64 N, .string F, .string T, .string s] DD)) := (Below.refl _ w).alloc hbl _
  clear hB hok hbl hu
  go_enter Try.func9, Try.ntmps9
  have e2 : (w.alloc (.cells #[.int .i64 2, .int .i64 N, .string F, .string T, .string s] DD)).cell? ⟨w.heap.size, 2, none⟩ = some (.string F) := HU.out.c2
  go_wp2_with (first
    | (go_at_call 30; refine (hY _ _ _ _ h2).mono ?_; rintro e w3 ⟨rfl, L3, c3, n3, S3, h3, p3, b3⟩)
    | (go_at_call 29; refine (hX _ _ HU.out).mono ?_; rintro e w2 ⟨rfl, A2, t2, ro2, h2, p2, b2⟩; have y2 := h2.c2))
  go_ret
  exact ⟨rfl, h3.post (hJ _ _ _ _ _ p2 p3) ((belU.trans b2).trans b3)⟩
set_option maxHeartbeats 3200000 in
set_option maxRecDepth 100000 in
theorem do_remove (w : World) (base Dx Dy : Nat) (A : List CF) (L : Look) (turns clock cnt k : Nat) (ro : Nat → Option Nat) (S : Nat → Prop) (hB : Bis w base Dx Dy A L turns clock cnt ro S) (hO : Ok A L turns clock cnt k) (hk : k ≤ 99) (N : Int) (F T s : ByteArray) (hn : F.size ≤ maxLen) :
    Calls Try.prog 9 #[.pointer (some ⟨Dx, 0, none⟩), .pointer (some ⟨Dy, 0, none⟩), .agg #[.int .i64 3, .int .i64 N, .string F, .string T, .string s]] w fun e w' => e = .returned (.bool true) ∧ DoPost w w' base Dx Dy k := by
  have hu := hB.box ⟨3, N, F, T, s⟩
  have hok := hB.x.ok
  have hbl := hB.x.base
  obtain ⟨z, PX, PY, ⟨zi, rfl⟩, hX, hY, hJ⟩ := pair_remove (base := base) (Dx := Dx) (Dy := Dy) (b := w.heap.size) (S := S) (d := ⟨3, N, F, T, s⟩) hO (by omega) F hn
  have HU : Hid _ := hu
  have z0 : (w.alloc (.cells #[.int .i64 3, .int .i64 N, .string F, .string T, .string s] DD)).cell? ⟨w.heap.size, 0, none⟩ = some (.int .i64 3) := hu.c0
  have belU : Below base w (w.alloc (.cells #[.int .i64 3, .int .i64 N, .string F, .string T, .string s] DD)) := (Below.refl _ w).alloc hbl _
  clear hB hok hbl hu
  go_enter Try.func9, Try.ntmps9
  go_wp2
  obtain ⟨u, hue⟩ : ∃ u, u = w.alloc (.cells #[.int .i64 3, .int .i64 N, .string F, .string T, .string s] DD) := ⟨_, rfl⟩
  have hu := HU.out
  change Duo (w.alloc (.cells #[.int .i64 3, .int .i64 N, .string F, .string T, .string s] DD)) base Dx Dy A L turns clock cnt ro S w.heap.size _ at hu
  rw [← hue] at hu belU ⊢
  have e2 : u.cell? ⟨w.heap.size, 2, none⟩ = some (.string F) := hu.c2
  clear hue HU z0
  refine wp_region_held_drew (S := (fun w' : World => w'.cell? ⟨w.heap.size, 2, none⟩ = some (.string F))) (by kernel_rfl) ?_ (fun hHeld0 => ?_)
  · try dsimp only
    go_keep
  refine tk0 (.pointer (some ⟨Dx, 0, none⟩)) (by kernel_rfl) (by kernel_rfl) (by kernel_rfl) (fun _ _ _ h => h) rfl (fun w hSw => by (try dsimp only at hSw); go_simp) (by assumption) ?_
  try simp only [Act.put, List.setIfInBounds_toArray, List.set_cons_zero, List.set_cons_succ]
  refine tk1 (.pointer (some ⟨w.heap.size, 2, none⟩)) (by kernel_rfl) (by kernel_rfl) (by kernel_rfl) (fun _ _ _ h => h) rfl (fun w hSw => by (try dsimp only at hSw); go_simp) (by assumption) ?_
  try simp only [Act.put, List.setIfInBounds_toArray, List.set_cons_zero, List.set_cons_succ]
  refine tk2 (.string F) (by kernel_rfl) (by kernel_rfl) (by kernel_rfl) (fun _ _ _ h => h) rfl (fun w hSw => by (try dsimp only at hSw); go_simp) (by assumption) ?_
  try simp only [Act.put, List.setIfInBounds_toArray, List.set_cons_zero, List.set_cons_succ]
  refine tk4 (.pointer (some ⟨Dy, 0, none⟩)) (by kernel_rfl) (by kernel_rfl) (by kernel_rfl) (fun _ _ _ h => h) rfl (fun w hSw => by (try dsimp only at hSw); go_simp) (by assumption) ?_
  try simp only [Act.put, List.setIfInBounds_toArray, List.set_cons_zero, List.set_cons_succ]
  refine tk5 (.pointer (some ⟨w.heap.size, 2, none⟩)) (by kernel_rfl) (by kernel_rfl) (by kernel_rfl) (fun _ _ _ h => h) rfl (fun w hSw => by (try dsimp only at hSw); go_simp) (by assumption) ?_
  try simp only [Act.put, List.setIfInBounds_toArray, List.set_cons_zero, List.set_cons_succ]
  refine tk6 (.string F) (by kernel_rfl) (by kernel_rfl) (by kernel_rfl) (fun _ _ _ h => h) rfl (fun w hSw => by (try dsimp only at hSw); go_simp) (by assumption) ?_
  try simp only [Act.put, List.setIfInBounds_toArray, List.set_cons_zero, List.set_cons_succ]
  refine cl3 (by kernel_rfl) rfl (fun K hK => ?_)
  go_simp
  go_at_call 31
  refine (hX _ _ hu.drew).mono ?_
  rintro e w2 ⟨rfl, A2, t2, ro2, h2, p2, b2⟩
  have y2 := h2.c2
  refine hK.out _ _ ?_ (fun hHeld => ?_)
  · try dsimp only
    go_keep
  clear hK K
  try simp only [Act.put, List.setIfInBounds_toArray, List.set_cons_zero, List.set_cons_succ]
  refine cl7 (by kernel_rfl) rfl (fun K hK => ?_)
  go_simp
  go_at_call 32
  refine (hY _ _ _ _ h2).mono ?_
  rintro e w3 ⟨rfl, L3, c3, n3, S3, h3, p3, b3⟩
  have x2 := h3.c2
  refine hK.out _ _ ?_ (fun hHeld => ?_)
  · try dsimp only
    go_keep
  clear hK K
  try simp only [Act.put, List.setIfInBounds_toArray, List.set_cons_zero, List.set_cons_succ]
  refine tk8 (.bool true) (by kernel_rfl) (by kernel_rfl) (by kernel_rfl) (fun _ _ _ h => h) rfl (fun w hSw => by (try dsimp only at hSw); go_simp) (by assumption) ?_
  try simp only [Act.put, List.setIfInBounds_toArray, List.set_cons_zero, List.set_cons_succ]
  refine tk9 (.bool true) (by kernel_rfl) (by kernel_rfl) (by kernel_rfl) (fun _ _ _ h => h) rfl (fun w hSw => by (try dsimp only at hSw); go_simp) (by assumption) ?_
  try simp only [Act.put, List.setIfInBounds_toArray, List.set_cons_zero, List.set_cons_succ]
  refine wpAnyH_done (by kernel_rfl) ?_ _
  go_wp2
  go_ret
  exact ⟨rfl, h3.post (hJ _ _ _ _ _ p2 p3) ((belU.trans (undrB b2)).trans b3)⟩
set_option maxHeartbeats 3200000 in
set_option maxRecDepth 100000 in
theorem do_rename (w : World) (base Dx Dy : Nat) (A : List CF) (L : Look) (turns clock cnt k : Nat) (ro : Nat → Option Nat) (S : Nat → Prop) (hB : Bis w base Dx Dy A L turns clock cnt ro S) (hO : Ok A L turns clock cnt k) (hk : k ≤ 99) (N : Int) (F T s : ByteArray) (hn : F.size ≤ maxLen) :
    Calls Try.prog 9 #[.pointer (some ⟨Dx, 0, none⟩), .pointer (some ⟨Dy, 0, none⟩), .agg #[.int .i64 4, .int .i64 N, .string F, .string T, .string s]] w fun e w' => e = .returned (.bool true) ∧ DoPost w w' base Dx Dy k := by
  have hu := hB.box ⟨4, N, F, T, s⟩
  have hok := hB.x.ok
  have hbl := hB.x.base
  obtain ⟨z, PX, PY, ⟨zi, rfl⟩, hX, hY, hJ⟩ := pair_rename (base := base) (Dx := Dx) (Dy := Dy) (b := w.heap.size) (S := S) (d := ⟨4, N, F, T, s⟩) hO (by omega) F T hn
  have HU : Hid _ := hu
  have z0 : (w.alloc (.cells #[.int .i64 4, .int .i64 N, .string F, .string T, .string s] DD)).cell? ⟨w.heap.size, 0, none⟩ = some (.int .i64 4) := hu.c0
  have belU : Below base w (w.alloc (.cells #[.int .i64 4, .int .i64 N, .string F, .string T, .string s] DD)) := (Below.refl _ w).alloc hbl _
  clear hB hok hbl hu
  go_enter Try.func9, Try.ntmps9
  go_wp2
  obtain ⟨u, hue⟩ : ∃ u, u = w.alloc (.cells #[.int .i64 4, .int .i64 N, .string F, .string T, .string s] DD) := ⟨_, rfl⟩
  have hu := HU.out
  change Duo (w.alloc (.cells #[.int .i64 4, .int .i64 N, .string F, .string T, .string s] DD)) base Dx Dy A L turns clock cnt ro S w.heap.size _ at hu
  rw [← hue] at hu belU ⊢
  have e2 : u.cell? ⟨w.heap.size, 2, none⟩ = some (.string F) := hu.c2
  have e3 : u.cell? ⟨w.heap.size, 3, none⟩ = some (.string T) := hu.c3
  clear hue HU z0
  refine wp_region_held_drew (S := (fun w' : World => w'.cell? ⟨w.heap.size, 2, none⟩ = some (.string F) ∧ w'.cell? ⟨w.heap.size, 3, none⟩ = some (.string T))) (by kernel_rfl) ?_ (fun hHeld0 => ?_)
  · try dsimp only
    go_keep
  refine tk0 (.pointer (some ⟨Dx, 0, none⟩)) (by kernel_rfl) (by kernel_rfl) (by kernel_rfl) (fun _ _ _ h => h) rfl (fun w hSw => by (try dsimp only at hSw); obtain ⟨q0, q1⟩ := hSw; go_simp) (by assumption) ?_
  try simp only [Act.put, List.setIfInBounds_toArray, List.set_cons_zero, List.set_cons_succ]
  refine tk1 (.pointer (some ⟨w.heap.size, 2, none⟩)) (by kernel_rfl) (by kernel_rfl) (by kernel_rfl) (fun _ _ _ h => h) rfl (fun w hSw => by (try dsimp only at hSw); obtain ⟨q0, q1⟩ := hSw; go_simp) (by assumption) ?_
  try simp only [Act.put, List.setIfInBounds_toArray, List.set_cons_zero, List.set_cons_succ]
  refine tk2 (.string F) (by kernel_rfl) (by kernel_rfl) (by kernel_rfl) (fun _ _ _ h => h) rfl (fun w hSw => by (try dsimp only at hSw); obtain ⟨q0, q1⟩ := hSw; go_simp) (by assumption) ?_
  try simp only [Act.put, List.setIfInBounds_toArray, List.set_cons_zero, List.set_cons_succ]
  refine tk3 (.pointer (some ⟨w.heap.size, 3, none⟩)) (by kernel_rfl) (by kernel_rfl) (by kernel_rfl) (fun _ _ _ h => h) rfl (fun w hSw => by (try dsimp only at hSw); obtain ⟨q0, q1⟩ := hSw; go_simp) (by assumption) ?_
  try simp only [Act.put, List.setIfInBounds_toArray, List.set_cons_zero, List.set_cons_succ]
  refine tk4 (.string T) (by kernel_rfl) (by kernel_rfl) (by kernel_rfl) (fun _ _ _ h => h) rfl (fun w hSw => by (try dsimp only at hSw); obtain ⟨q0, q1⟩ := hSw; go_simp) (by assumption) ?_
  try simp only [Act.put, List.setIfInBounds_toArray, List.set_cons_zero, List.set_cons_succ]
  refine tk6 (.pointer (some ⟨Dy, 0, none⟩)) (by kernel_rfl) (by kernel_rfl) (by kernel_rfl) (fun _ _ _ h => h) rfl (fun w hSw => by (try dsimp only at hSw); obtain ⟨q0, q1⟩ := hSw; go_simp) (by assumption) ?_
  try simp only [Act.put, List.setIfInBounds_toArray, List.set_cons_zero, List.set_cons_succ]
  refine tk7 (.pointer (some ⟨w.heap.size, 2, none⟩)) (by kernel_rfl) (by kernel_rfl) (by kernel_rfl) (fun _ _ _ h => h) rfl (fun w hSw => by (try dsimp only at hSw); obtain ⟨q0, q1⟩ := hSw; go_simp) (by assumption) ?_
  try simp only [Act.put, List.setIfInBounds_toArray, List.set_cons_zero, List.set_cons_succ]
  refine tk8 (.string F) (by kernel_rfl) (by kernel_rfl) (by kernel_rfl) (fun _ _ _ h => h) rfl (fun w hSw => by (try dsimp only at hSw); obtain ⟨q0, q1⟩ := hSw; go_simp) (by assumption) ?_
  try simp only [Act.put, List.setIfInBounds_toArray, List.set_cons_zero, List.set_cons_succ]
  refine tk9 (.pointer (some ⟨w.heap.size, 3, none⟩)) (by kernel_rfl) (by kernel_rfl) (by kernel_rfl) (fun _ _ _ h => h) rfl (fun w hSw => by (try dsimp only at hSw); obtain ⟨q0, q1⟩ := hSw; go_simp) (by assumption) ?_
  try simp only [Act.put, List.setIfInBounds_toArray, List.set_cons_zero, List.set_cons_succ]
  refine tk10 (.string T) (by kernel_rfl) (by kernel_rfl) (by kernel_rfl) (fun _ _ _ h => h) rfl (fun w hSw => by (try dsimp only at hSw); obtain ⟨q0, q1⟩ := hSw; go_simp) (by assumption) ?_
  try simp only [Act.put, List.setIfInBounds_toArray, List.set_cons_zero, List.set_cons_succ]
  refine cl5 (by kernel_rfl) rfl (fun K hK => ?_)
  go_simp
  go_at_call 33
  refine (hX _ _ hu.drew).mono ?_
  rintro e w2 ⟨rfl, A2, t2, ro2, h2, p2, b2⟩
  have y2 := h2.c2
  have y3 := h2.c3
  refine hK.out _ _ ?_ (fun hHeld => ?_)
  · try dsimp only
    go_keep
  clear hK K
  try simp only [Act.put, List.setIfInBounds_toArray, List.set_cons_zero, List.set_cons_succ]
  refine cl11 (by kernel_rfl) rfl (fun K hK => ?_)
  go_simp
  go_at_call 34
  refine (hY _ _ _ _ h2).mono ?_
  rintro e w3 ⟨rfl, L3, c3, n3, S3, h3, p3, b3⟩
  have x2 := h3.c2
  have x3 := h3.c3
  refine hK.out _ _ ?_ (fun hHeld => ?_)
  · try dsimp only
    go_keep
  clear hK K
  try simp only [Act.put, List.setIfInBounds_toArray, List.set_cons_zero, List.set_cons_succ]
  refine tk12 (.bool true) (by kernel_rfl) (by kernel_rfl) (by kernel_rfl) (fun _ _ _ h => h) rfl (fun w hSw => by (try dsimp only at hSw); obtain ⟨q0, q1⟩ := hSw; go_simp) (by assumption) ?_
  try simp only [Act.put, List.setIfInBounds_toArray, List.set_cons_zero, List.set_cons_succ]
  refine tk13 (.bool true) (by kernel_rfl) (by kernel_rfl) (by kernel_rfl) (fun _ _ _ h => h) rfl (fun w hSw => by (try dsimp only at hSw); obtain ⟨q0, q1⟩ := hSw; go_simp) (by assumption) ?_
  try simp only [Act.put, List.setIfInBounds_toArray, List.set_cons_zero, List.set_cons_succ]
  refine wpAnyH_done (by kernel_rfl) ?_ _
  go_wp2
  go_ret
  exact ⟨rfl, h3.post (hJ _ _ _ _ _ p2 p3) ((belU.trans (undrB b2)).trans b3)⟩
set_option maxHeartbeats 3200000 in
set_option maxRecDepth 100000 in
theorem do_crash (w : World) (base Dx Dy : Nat) (A : List CF) (L : Look) (turns clock cnt k : Nat) (ro : Nat → Option Nat) (S : Nat → Prop) (hB : Bis w base Dx Dy A L turns clock cnt ro S) (hO : Ok A L turns clock cnt k) (hk : k ≤ 99) (N : Int) (F T s : ByteArray) (hN1 : -9223372036854775808 ≤ N) (hN2 : N ≤ 9223372036854775807) :
    Calls Try.prog 9 #[.pointer (some ⟨Dx, 0, none⟩), .pointer (some ⟨Dy, 0, none⟩), .agg #[.int .i64 5, .int .i64 N, .string F, .string T, .string s]] w fun e w' => e = .returned (.bool true) ∧ DoPost w w' base Dx Dy k := by
  have hu := hB.box ⟨5, N, F, T, s⟩
  have hok := hB.x.ok
  have hbl := hB.x.base
  obtain ⟨z, PX, PY, rfl, hX, hY, hJ⟩ := pair_crash (base := base) (Dx := Dx) (Dy := Dy) (b := w.heap.size) (S := S) (d := ⟨5, N, F, T, s⟩) hO (by omega) hok N hN1 hN2
  have HU : Hid _ := hu
  have z0 : (w.alloc (.cells #[.int .i64 5, .int .i64 N, .string F, .string T, .string s] DD)).cell? ⟨w.heap.size, 0, none⟩ = some (.int .i64 5) := hu.c0
  have belU : Below base w (w.alloc (.cells #[.int .i64 5, .int .i64 N, .string F, .string T, .string s] DD)) := (Below.refl _ w).alloc hbl _
  clear hB hok hbl hu
  go_enter Try.func9, Try.ntmps9
  have e1 : (w.alloc (.cells #[.int .i64 5, .int .i64 N, .string F, .string T, .string s] DD)).cell? ⟨w.heap.size, 1, none⟩ = some (.int .i64 N) := HU.out.c1
  go_wp2_with (first
    | (go_at_call 36; refine (hY _ _ _ _ h2).mono ?_; rintro e w3 ⟨rfl, L3, c3, n3, S3, h3, p3, b3⟩)
    | (go_at_call 35; refine (hX _ _ HU.out).mono ?_; rintro e w2 ⟨rfl, A2, t2, ro2, h2, p2, b2⟩; have y1 := h2.c1))
  go_ret
  exact ⟨rfl, h3.post (hJ _ _ _ _ _ p2 p3) ((belU.trans b2).trans b3)⟩
set_option maxHeartbeats 3200000 in
set_option maxRecDepth 100000 in
theorem do_unsynced (w : World) (base Dx Dy : Nat) (A : List CF) (L : Look) (turns clock cnt k : Nat) (ro : Nat → Option Nat) (S : Nat → Prop) (hB : Bis w base Dx Dy A L turns clock cnt ro S) (hO : Ok A L turns clock cnt k) (hk : k ≤ 99) (K : Int) (k0 : (K == 0) = false) (k1 : (K == 1) = false) (k2 : (K == 2) = false) (k3 : (K == 3) = false) (k4 : (K == 4) = false) (k5 : (K == 5) = false) (N : Int) (F T s : ByteArray) (hn : F.size ≤ maxLen) :
    Calls Try.prog 9 #[.pointer (some ⟨Dx, 0, none⟩), .pointer (some ⟨Dy, 0, none⟩), .agg #[.int .i64 K, .int .i64 N, .string F, .string T, .string s]] w fun e w' => e = .returned (.bool true) ∧ DoPost w w' base Dx Dy k := by
  have hu := hB.box ⟨K, N, F, T, s⟩
  have hok := hB.x.ok
  have hbl := hB.x.base
  obtain ⟨z, PX, PY, ⟨zi, rfl⟩, hX, hY, hJ⟩ := pair_unsynced (base := base) (Dx := Dx) (Dy := Dy) (b := w.heap.size) (S := S) (d := ⟨K, N, F, T, s⟩) hO (by omega) hok F hn
  have HU : Hid _ := hu
  have z0 : (w.alloc (.cells #[.int .i64 K, .int .i64 N, .string F, .string T, .string s] DD)).cell? ⟨w.heap.size, 0, none⟩ = some (.int .i64 K) := hu.c0
  have belU : Below base w (w.alloc (.cells #[.int .i64 K, .int .i64 N, .string F, .string T, .string s] DD)) := (Below.refl _ w).alloc hbl _
  clear hB hok hbl hu
  go_enter Try.func9, Try.ntmps9
  go_wp2
  obtain ⟨u, hue⟩ : ∃ u, u = w.alloc (.cells #[.int .i64 K, .int .i64 N, .string F, .string T, .string s] DD) := ⟨_, rfl⟩
  have hu := HU.out
  change Duo (w.alloc (.cells #[.int .i64 K, .int .i64 N, .string F, .string T, .string s] DD)) base Dx Dy A L turns clock cnt ro S w.heap.size _ at hu
  rw [← hue] at hu belU ⊢
  have e2 : u.cell? ⟨w.heap.size, 2, none⟩ = some (.string F) := hu.c2
  clear hue HU z0
  refine wp_region_held_drew (S := (fun w' : World => w'.cell? ⟨w.heap.size, 2, none⟩ = some (.string F))) (by kernel_rfl) ?_ (fun hHeld0 => ?_)
  · try dsimp only
    go_keep
  refine tk0 (.pointer (some ⟨Dx, 0, none⟩)) (by kernel_rfl) (by kernel_rfl) (by kernel_rfl) (fun _ _ _ h => h) rfl (fun w hSw => by (try dsimp only at hSw); go_simp) (by assumption) ?_
  try simp only [Act.put, List.setIfInBounds_toArray, List.set_cons_zero, List.set_cons_succ]
  refine tk1 (.pointer (some ⟨w.heap.size, 2, none⟩)) (by kernel_rfl) (by kernel_rfl) (by kernel_rfl) (fun _ _ _ h => h) rfl (fun w hSw => by (try dsimp only at hSw); go_simp) (by assumption) ?_
  try simp only [Act.put, List.setIfInBounds_toArray, List.set_cons_zero, List.set_cons_succ]
  refine tk2 (.string F) (by kernel_rfl) (by kernel_rfl) (by kernel_rfl) (fun _ _ _ h => h) rfl (fun w hSw => by (try dsimp only at hSw); go_simp) (by assumption) ?_
  try simp only [Act.put, List.setIfInBounds_toArray, List.set_cons_zero, List.set_cons_succ]
  refine tk4 (.pointer (some ⟨Dy, 0, none⟩)) (by kernel_rfl) (by kernel_rfl) (by kernel_rfl) (fun _ _ _ h => h) rfl (fun w hSw => by (try dsimp only at hSw); go_simp) (by assumption) ?_
  try simp only [Act.put, List.setIfInBounds_toArray, List.set_cons_zero, List.set_cons_succ]
  refine tk5 (.pointer (some ⟨w.heap.size, 2, none⟩)) (by kernel_rfl) (by kernel_rfl) (by kernel_rfl) (fun _ _ _ h => h) rfl (fun w hSw => by (try dsimp only at hSw); go_simp) (by assumption) ?_
  try simp only [Act.put, List.setIfInBounds_toArray, List.set_cons_zero, List.set_cons_succ]
  refine tk6 (.string F) (by kernel_rfl) (by kernel_rfl) (by kernel_rfl) (fun _ _ _ h => h) rfl (fun w hSw => by (try dsimp only at hSw); go_simp) (by assumption) ?_
  try simp only [Act.put, List.setIfInBounds_toArray, List.set_cons_zero, List.set_cons_succ]
  refine cl3 (by kernel_rfl) rfl (fun K hK => ?_)
  go_simp
  go_at_call 37
  refine (hX _ _ hu.drew).mono ?_
  rintro e w2 ⟨rfl, A2, t2, ro2, h2, p2, b2⟩
  have y2 := h2.c2
  refine hK.out _ _ ?_ (fun hHeld => ?_)
  · try dsimp only
    go_keep
  clear hK K
  try simp only [Act.put, List.setIfInBounds_toArray, List.set_cons_zero, List.set_cons_succ]
  refine cl7 (by kernel_rfl) rfl (fun K hK => ?_)
  go_simp
  go_at_call 38
  refine (hY _ _ _ _ h2).mono ?_
  rintro e w3 ⟨rfl, L3, c3, n3, S3, h3, p3, b3⟩
  have x2 := h3.c2
  refine hK.out _ _ ?_ (fun hHeld => ?_)
  · try dsimp only
    go_keep
  clear hK K
  try simp only [Act.put, List.setIfInBounds_toArray, List.set_cons_zero, List.set_cons_succ]
  refine tk8 (.bool true) (by kernel_rfl) (by kernel_rfl) (by kernel_rfl) (fun _ _ _ h => h) rfl (fun w hSw => by (try dsimp only at hSw); go_simp) (by assumption) ?_
  try simp only [Act.put, List.setIfInBounds_toArray, List.set_cons_zero, List.set_cons_succ]
  refine tk9 (.bool true) (by kernel_rfl) (by kernel_rfl) (by kernel_rfl) (fun _ _ _ h => h) rfl (fun w hSw => by (try dsimp only at hSw); go_simp) (by assumption) ?_
  try simp only [Act.put, List.setIfInBounds_toArray, List.set_cons_zero, List.set_cons_succ]
  refine wpAnyH_done (by kernel_rfl) ?_ _
  go_wp2
  go_ret
  exact ⟨rfl, h3.post (hJ _ _ _ _ _ p2 p3) ((belU.trans (undrB b2)).trans b3)⟩
/-- Any deed. -/
theorem do_any (w : World) (base Dx Dy : Nat) (A : List CF) (L : Look) (turns clock cnt k : Nat) (ro : Nat → Option Nat) (S : Nat → Prop) (hB : Bis w base Dx Dy A L turns clock cnt ro S) (hO : Ok A L turns clock cnt k) (hk : k ≤ 99) (K N : Int) (F T s : ByteArray) (hs : s.size ≤ 1000) (hn : F.size ≤ maxLen) (hN1 : -9223372036854775808 ≤ N) (hN2 : N ≤ 9223372036854775807) :
    Calls Try.prog 9 #[.pointer (some ⟨Dx, 0, none⟩), .pointer (some ⟨Dy, 0, none⟩), .agg #[.int .i64 K, .int .i64 N, .string F, .string T, .string s]] w fun e w' => e = .returned (.bool true) ∧ DoPost w w' base Dx Dy k := by
  by_cases k0 : K = 0
  · subst k0
    exact do_append w base Dx Dy A L turns clock cnt k ro S hB hO hk N F T s hs
  by_cases k1 : K = 1
  · subst k1
    exact do_sync w base Dx Dy A L turns clock cnt k ro S hB hO hk N F T s hn
  by_cases k2 : K = 2
  · subst k2
    exact do_read w base Dx Dy A L turns clock cnt k ro S hB hO hk N F T s hn
  by_cases k3 : K = 3
  · subst k3
    exact do_remove w base Dx Dy A L turns clock cnt k ro S hB hO hk N F T s hn
  by_cases k4 : K = 4
  · subst k4
    exact do_rename w base Dx Dy A L turns clock cnt k ro S hB hO hk N F T s hn
  by_cases k5 : K = 5
  · subst k5
    exact do_crash w base Dx Dy A L turns clock cnt k ro S hB hO hk N F T s hN1 hN2
  exact do_unsynced w base Dx Dy A L turns clock cnt k ro S hB hO hk K (by simpa using k0) (by simpa using k1) (by simpa using k2) (by simpa using k3) (by simpa using k4) (by simpa using k5) N F T s hn
end Go.Proofs.Ytpbkpaendhpbfaa
