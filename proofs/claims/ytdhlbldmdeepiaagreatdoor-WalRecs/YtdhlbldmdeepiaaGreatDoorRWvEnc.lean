/-
  A record's bytes (package wal). No condition.
-/
import Derived.Test.YtdhlbldmdeepiaaGreatDoorRWvSmall
import Derived.Test.YtdhlbldmdeepiaaGreatDoorRWvBallot
import Derived.Test.YtdhlbldmdeepiaaGreatDoorRDEnc
import Derived.Test.YtdhlbldmdeepiaaGreatDoorRRTake
namespace Go.Proofs.YtdhlbldmdeepiaaGreatDoor
open Go.RowKit

/-- One byte as a string. -/
theorem conv_one (c : UInt8) (b : Nat) (w : World) (h : w.heap[b]? = some (.cells #[.int .u8 (c.toNat : Int)] 5 (0, 0))) :
    (convert 72 9 (.slice (some ⟨b, 0, none⟩) 1 1)).run Tryz.prog w = .ok (.string ⟨#[c]⟩) w := by
  refine run_convert_bytes_back _ 72 9 5 ⟨b, 0, none⟩ 1 [c] Tryz.underlying72 Tryz.underlying5 Tryz.underlying9 ?_
  intro j hj
  refine Lib.cells_of_row h 1 j _ ?_
  have : j = 0 := by simpa using hj
  subst this
  rfl
theorem conv_1 (b : Nat) (w : World) (h : w.heap[b]? = some (.cells #[.int .u8 1] 5 (0, 0))) : (convert 72 9 (.slice (some ⟨b, 0, none⟩) 1 1)).run Tryz.prog w = .ok (.string ⟨#[1]⟩) w := conv_one 1 b w h
theorem conv_2 (w : World) : (convert 72 9 (.slice (some ⟨w.heap.size, 0, none⟩) 1 1)).run Tryz.prog (w.alloc (.cells #[.int .u8 2] 5)) = .ok (.string ⟨#[2]⟩) (w.alloc (.cells #[.int .u8 2] 5)) :=
  conv_one 2 w.heap.size _ (heap_alloc_new w _)
section
variable {P : Program} {md : Region.Mode} {Q : Exit → Act → World → Prop} {S : World → Prop} {fuel : Nat} {listed : Array Bool} {a : Act} {w : World} {l : List Oper}
theorem rd0_4 {o0 o1 o2 o3 o4 : Oper} (hr : Region.ready md (o0 :: o1 :: o2 :: o3 :: o4 :: l).toArray listed = [0, 4]) (hw0 : Region.wanted o0 (yielded (o0 :: o1 :: o2 :: o3 :: o4 :: l).toArray a.tmps) = true) (hw1 : Region.wanted o4 (yielded (o0 :: o1 :: o2 :: o3 :: o4 :: l).toArray a.tmps) = true)
    (h0 : ∀ K' : Act → World → Prop, Shut (∀ a w, S w → (S w → wpAnyH P md (o0 :: o1 :: o2 :: o3 :: o4 :: l).toArray Q S fuel (listed.setIfInBounds 0 true) a w) → K' a w) → Oper.wp P o0 a w K' Q)
    (h1 : ∀ K' : Act → World → Prop, Shut (∀ a w, S w → (S w → wpAnyH P md (o0 :: o1 :: o2 :: o3 :: o4 :: l).toArray Q S fuel (listed.setIfInBounds 4 true) a w) → K' a w) → Oper.wp P o4 a w K' Q) : wpAnyH P md (o0 :: o1 :: o2 :: o3 :: o4 :: l).toArray Q S (fuel + 1) listed a w :=
  wpAnyH_ready hr (by simp) (AllReadyH.cons (o := o0) rfl (fun K hK => by rw [if_pos hw0]; exact h0 K hK) (AllReadyH.cons (o := o4) rfl (fun K hK => by rw [if_pos hw1]; exact h1 K hK) AllReadyH.nil))
theorem rd1_4 {o0 o1 o2 o3 o4 : Oper} (hr : Region.ready md (o0 :: o1 :: o2 :: o3 :: o4 :: l).toArray listed = [1, 4]) (hw0 : Region.wanted o1 (yielded (o0 :: o1 :: o2 :: o3 :: o4 :: l).toArray a.tmps) = true) (hw1 : Region.wanted o4 (yielded (o0 :: o1 :: o2 :: o3 :: o4 :: l).toArray a.tmps) = true)
    (h0 : ∀ K' : Act → World → Prop, Shut (∀ a w, S w → (S w → wpAnyH P md (o0 :: o1 :: o2 :: o3 :: o4 :: l).toArray Q S fuel (listed.setIfInBounds 1 true) a w) → K' a w) → Oper.wp P o1 a w K' Q)
    (h1 : ∀ K' : Act → World → Prop, Shut (∀ a w, S w → (S w → wpAnyH P md (o0 :: o1 :: o2 :: o3 :: o4 :: l).toArray Q S fuel (listed.setIfInBounds 4 true) a w) → K' a w) → Oper.wp P o4 a w K' Q) : wpAnyH P md (o0 :: o1 :: o2 :: o3 :: o4 :: l).toArray Q S (fuel + 1) listed a w :=
  wpAnyH_ready hr (by simp) (AllReadyH.cons (o := o1) rfl (fun K hK => by rw [if_pos hw0]; exact h0 K hK) (AllReadyH.cons (o := o4) rfl (fun K hK => by rw [if_pos hw1]; exact h1 K hK) AllReadyH.nil))
end
set_option maxHeartbeats 3200000 in
set_option maxRecDepth 100000 in
theorem wencR_one (m : Nat) (w : World) (h0 : 1 ≤ m) (h1 : m ≤ 1099511627776) :
    Calls Tryz.prog 8 #[.agg (rcA 1 m 0 0 0 0 0 0 ⟨#[]⟩)] w fun e w' => e = .returned (.tuple #[.string ⟨(1 :: eight m).toArray⟩, .int .i64 0]) ∧ Below w.heap.size w w' := by
  have qp := isPromise_any 1 m 0 0 0 0 0 0 ⟨#[]⟩
  have ep : promB ⟨1, m, ⟨0, 0, ⟨0, 0, 0, ⟨#[]⟩, 0⟩⟩⟩ = true := by
    show promB ⟨1, m, En.zero⟩ = true
    rw [promB_zero]
    simp
    omega
  rw [ep] at qp
  have qb := ballotText_any m h1
  obtain ⟨E, hE⟩ : ∃ E : ByteArray, E = ⟨(eight m).toArray⟩ := ⟨_, rfl⟩
  have zE : E.size = 8 := by rw [hE, size_list]; rfl
  have HB : Hid ((⟨#[1]⟩ : ByteArray) ++ E = ⟨(1 :: eight m).toArray⟩) := by
    show (⟨[1].toArray⟩ : ByteArray) ++ E = _
    rw [hE, append_lists]
    rfl
  rw [← hE] at qb
  rw [← HB.out]
  clear hE HB ep
  have ba : Below w.heap.size w (w.alloc (.cells (rcA 1 m 0 0 0 0 0 0 ⟨#[]⟩) 27)) := (Below.refl _ w).alloc (Nat.le_refl _) _
  have la : w.heap.size < (w.alloc (.cells (rcA 1 m 0 0 0 0 0 0 ⟨#[]⟩) 27)).heap.size := by simp
  have g1 : (w.alloc (.cells (rcA 1 m 0 0 0 0 0 0 ⟨#[]⟩) 27)).cell? ⟨w.heap.size, 1, none⟩ = some (.int .i64 m) := by simp
  go_enter Tryz.func8, Tryz.ntmps8
  go_wp2_with (go_at_call 29; refine (qp _).mono ?_; rintro e w1 ⟨rfl, b1⟩; have f1 := bmm ba ba.size b1; have l1 := Nat.lt_of_lt_of_le la b1.size; have g2 := (b1.cell (p := ⟨w.heap.size, 1, none⟩) (by exact la)).trans g1; have g2d : w1.drew.cell? ⟨w.heap.size, 1, none⟩ = some (.int .i64 m) := g2)
  refine wp_region_held_drew (S := (fun w' : World => w'.cell? ⟨w.heap.size, 1, none⟩ = some (.int .i64 (m : Int)))) (by kernel_rfl) ?_ (fun hHeld0 => ?_)
  · exact g2d
  refine tk2 (.pointer (some ⟨w.heap.size, 1, none⟩)) (by kernel_rfl) (by kernel_rfl) (by kernel_rfl) (fun _ _ _ h => h) rfl (fun w hSw => by (try dsimp only at hSw); go_simp) (by assumption) ?_
  try simp only [Act.put, List.setIfInBounds_toArray, List.set_cons_zero, List.set_cons_succ]
  refine tk3 (.int .i64 (m : Int)) (by kernel_rfl) (by kernel_rfl) (by kernel_rfl) (fun _ _ _ h => h) rfl (fun w hSw => by (try dsimp only at hSw); go_simp) (by assumption) ?_
  try simp only [Act.put, List.setIfInBounds_toArray, List.set_cons_zero, List.set_cons_succ]
  refine rd0_4 (by kernel_rfl) rfl rfl (fun K hK => ?_) (fun K hK => ?_)
  · go_simp
    refine hK.out _ _ ?_ (fun hHeld => ?_)
    · exact (((Below.refl _ w1.drew).alloc (Nat.le_refl _) _).cell (p := ⟨w.heap.size, 1, none⟩) (by exact l1)).trans g2d
    clear hK K
    try simp only [Act.put, List.setIfInBounds_toArray, List.set_cons_zero, List.set_cons_succ]
    refine rd1_4 (by kernel_rfl) rfl rfl (fun K hK => ?_) (fun K hK => ?_)
    · have hc := conv_1 w1.heap.size (w1.alloc (.cells #[.int .u8 1] 5)).drew (heap_alloc_new w1 _)
      go_simp
      refine hK.out _ _ ?_ (fun hHeld => ?_)
      · assumption
      clear hK K
      try simp only [Act.put, List.setIfInBounds_toArray, List.set_cons_zero, List.set_cons_succ]
      refine cl4 (by kernel_rfl) rfl (fun K hK => ?_)
      go_simp
      go_at_call 30
      refine (qb _).mono ?_
      rintro e w2 ⟨rfl, b2⟩
      have b3 : Below w1.drew.heap.size w1.drew w2 := bel_box b2
      have f3 := bmm f1 f1.size (undrew b3)
      have g3 := (b3.cell (p := ⟨w.heap.size, 1, none⟩) (by exact l1)).trans g2d
      refine hK.out _ _ ?_ (fun hHeld => ?_)
      · exact g3
      clear hK K
      try simp only [Act.put, List.setIfInBounds_toArray, List.set_cons_zero, List.set_cons_succ]
      refine tk5 (.string (⟨#[1]⟩ ++ E)) (by kernel_rfl) (by kernel_rfl) (by kernel_rfl) (fun _ _ _ h => h) rfl (fun w hSw => by (try dsimp only at hSw); go_simp) (by assumption) ?_
      try simp only [Act.put, List.setIfInBounds_toArray, List.set_cons_zero, List.set_cons_succ]
      refine tk6 (.string (⟨#[1]⟩ ++ E)) (by kernel_rfl) (by kernel_rfl) (by kernel_rfl) (fun _ _ _ h => h) rfl (fun w hSw => by (try dsimp only at hSw); go_simp) (by assumption) ?_
      try simp only [Act.put, List.setIfInBounds_toArray, List.set_cons_zero, List.set_cons_succ]
      refine tk7 (.int .i64 0) (by kernel_rfl) (by kernel_rfl) (by kernel_rfl) (fun _ _ _ h => h) rfl (fun w hSw => by (try dsimp only at hSw); go_simp) (by assumption) ?_
      try simp only [Act.put, List.setIfInBounds_toArray, List.set_cons_zero, List.set_cons_succ]
      refine wpAnyH_done (by kernel_rfl) ?_ _
      go_wp2
      go_ret2
      exact ⟨rfl, f3⟩
    · go_simp
      go_at_call 30
      refine (qb _).mono ?_
      rintro e w2 ⟨rfl, b2⟩
      have b3 : Below w1.drew.heap.size w1.drew w2 := bel_box b2
      have f3 := bmm f1 f1.size (undrew b3)
      have g3 := (b3.cell (p := ⟨w.heap.size, 1, none⟩) (by exact l1)).trans g2d
      refine hK.out _ _ ?_ (fun hHeld => ?_)
      · exact g3
      clear hK K
      try simp only [Act.put, List.setIfInBounds_toArray, List.set_cons_zero, List.set_cons_succ]
      refine cl1 (by kernel_rfl) rfl (fun K hK => ?_)
      have hc := conv_1 w1.heap.size w2 ((b2.block w1.heap.size (by simp)).trans (heap_alloc_new w1.drew _))
      go_simp
      refine hK.out _ _ ?_ (fun hHeld => ?_)
      · assumption
      clear hK K
      try simp only [Act.put, List.setIfInBounds_toArray, List.set_cons_zero, List.set_cons_succ]
      refine tk5 (.string (⟨#[1]⟩ ++ E)) (by kernel_rfl) (by kernel_rfl) (by kernel_rfl) (fun _ _ _ h => h) rfl (fun w hSw => by (try dsimp only at hSw); go_simp) (by assumption) ?_
      try simp only [Act.put, List.setIfInBounds_toArray, List.set_cons_zero, List.set_cons_succ]
      refine tk6 (.string (⟨#[1]⟩ ++ E)) (by kernel_rfl) (by kernel_rfl) (by kernel_rfl) (fun _ _ _ h => h) rfl (fun w hSw => by (try dsimp only at hSw); go_simp) (by assumption) ?_
      try simp only [Act.put, List.setIfInBounds_toArray, List.set_cons_zero, List.set_cons_succ]
      refine tk7 (.int .i64 0) (by kernel_rfl) (by kernel_rfl) (by kernel_rfl) (fun _ _ _ h => h) rfl (fun w hSw => by (try dsimp only at hSw); go_simp) (by assumption) ?_
      try simp only [Act.put, List.setIfInBounds_toArray, List.set_cons_zero, List.set_cons_succ]
      refine wpAnyH_done (by kernel_rfl) ?_ _
      go_wp2
      go_ret2
      exact ⟨rfl, f3⟩
  · go_simp
    go_at_call 30
    refine (qb _).mono ?_
    rintro e w2 ⟨rfl, b2⟩
    have b3 : Below w1.drew.heap.size w1.drew w2 := b2
    have f3 := bmm f1 f1.size (undrew b3)
    have g3 := (b3.cell (p := ⟨w.heap.size, 1, none⟩) (by exact l1)).trans g2d
    refine hK.out _ _ ?_ (fun hHeld => ?_)
    · exact g3
    clear hK K
    try simp only [Act.put, List.setIfInBounds_toArray, List.set_cons_zero, List.set_cons_succ]
    refine cl0 (by kernel_rfl) rfl (fun K hK => ?_)
    go_simp
    refine hK.out _ _ ?_ (fun hHeld => ?_)
    · exact (((Below.refl _ w2).alloc (Nat.le_refl _) _).cell (p := ⟨w.heap.size, 1, none⟩) (by exact Nat.lt_of_lt_of_le l1 b3.size)).trans g3
    clear hK K
    try simp only [Act.put, List.setIfInBounds_toArray, List.set_cons_zero, List.set_cons_succ]
    refine cl1 (by kernel_rfl) rfl (fun K hK => ?_)
    have hc := conv_1 w2.heap.size (w2.alloc (.cells #[.int .u8 1] 5)) (heap_alloc_new w2 _)
    go_simp
    refine hK.out _ _ ?_ (fun hHeld => ?_)
    · assumption
    clear hK K
    try simp only [Act.put, List.setIfInBounds_toArray, List.set_cons_zero, List.set_cons_succ]
    refine tk5 (.string (⟨#[1]⟩ ++ E)) (by kernel_rfl) (by kernel_rfl) (by kernel_rfl) (fun _ _ _ h => h) rfl (fun w hSw => by (try dsimp only at hSw); go_simp) (by assumption) ?_
    try simp only [Act.put, List.setIfInBounds_toArray, List.set_cons_zero, List.set_cons_succ]
    refine tk6 (.string (⟨#[1]⟩ ++ E)) (by kernel_rfl) (by kernel_rfl) (by kernel_rfl) (fun _ _ _ h => h) rfl (fun w hSw => by (try dsimp only at hSw); go_simp) (by assumption) ?_
    try simp only [Act.put, List.setIfInBounds_toArray, List.set_cons_zero, List.set_cons_succ]
    refine tk7 (.int .i64 0) (by kernel_rfl) (by kernel_rfl) (by kernel_rfl) (fun _ _ _ h => h) rfl (fun w hSw => by (try dsimp only at hSw); go_simp) (by assumption) ?_
    try simp only [Act.put, List.setIfInBounds_toArray, List.set_cons_zero, List.set_cons_succ]
    refine wpAnyH_done (by kernel_rfl) ?_ _
    go_wp2
    go_ret2
    exact ⟨rfl, (f3.alloc f3.size _)⟩
set_option maxHeartbeats 3200000 in
set_option maxRecDepth 100000 in
theorem wencR_two (A B k S Q n : Int) (T : ByteArray) (w : World) (h : mayE ⟨A, B, ⟨k, S, Q, T, n⟩⟩ = true) (hB : 1 ≤ B) :
    Calls Tryz.prog 8 #[.agg (rcA 2 0 A B k S Q n T)] w fun e w' => e = .returned (.tuple #[.string ⟨(2 :: encE ⟨A, B, ⟨k, S, Q, T, n⟩⟩).toArray⟩, .int .i64 0]) ∧ Below w.heap.size w w' := by
  have qp := isPromise_any 2 0 A B k S Q n T
  have ep : promB ⟨2, 0, ⟨A, B, ⟨k, S, Q, T, n⟩⟩⟩ = false := rfl
  rw [ep] at qp
  have q := encodeE_any A B k S Q n T
  have e : encET ⟨A, B, ⟨k, S, Q, T, n⟩⟩ = (⟨(encE ⟨A, B, ⟨k, S, Q, T, n⟩⟩).toArray⟩, 0) := by unfold encET; rw [if_pos h]
  rw [e] at q
  obtain ⟨E, hE⟩ : ∃ E : ByteArray, E = ⟨(encE ⟨A, B, ⟨k, S, Q, T, n⟩⟩).toArray⟩ := ⟨_, rfl⟩
  have zE : E.size ≤ 300 := by rw [hE, size_list]; exact encE_few h
  have HB : Hid ((⟨#[2]⟩ : ByteArray) ++ E = ⟨(2 :: encE ⟨A, B, ⟨k, S, Q, T, n⟩⟩).toArray⟩) := by
    show (⟨[2].toArray⟩ : ByteArray) ++ E = _
    rw [hE, append_lists]
    rfl
  rw [← hE] at q
  rw [← HB.out]
  clear hE HB ep e h
  have cv := conv_2
  have ba : Below w.heap.size w (w.alloc (.cells (rcA 2 0 A B k S Q n T) 27)) := (Below.refl _ w).alloc (Nat.le_refl _) _
  have la : w.heap.size < (w.alloc (.cells (rcA 2 0 A B k S Q n T) 27)).heap.size := by simp
  have g0 : (w.alloc (.cells (rcA 2 0 A B k S Q n T) 27)).cell? ⟨w.heap.size, 0, none⟩ = some (.int .i64 2) := by simp
  have g1 : (w.alloc (.cells (rcA 2 0 A B k S Q n T) 27)).cell? ⟨w.heap.size, 1, none⟩ = some (.int .i64 0) := by simp
  have g2 : (w.alloc (.cells (rcA 2 0 A B k S Q n T) 27)).cell? ⟨w.heap.size, 2, none⟩ = some (.int .i64 A) := by simp
  have g3 : (w.alloc (.cells (rcA 2 0 A B k S Q n T) 27)).cell? ⟨w.heap.size, 3, none⟩ = some (.int .i64 B) := by simp
  have g4 : (w.alloc (.cells (rcA 2 0 A B k S Q n T) 27)).cell? ⟨w.heap.size, 4, none⟩ = some (.int .i64 k) := by simp
  have g5 : (w.alloc (.cells (rcA 2 0 A B k S Q n T) 27)).cell? ⟨w.heap.size, 5, none⟩ = some (.int .i64 S) := by simp
  have g6 : (w.alloc (.cells (rcA 2 0 A B k S Q n T) 27)).cell? ⟨w.heap.size, 6, none⟩ = some (.int .i64 Q) := by simp
  have g7 : (w.alloc (.cells (rcA 2 0 A B k S Q n T) 27)).cell? ⟨w.heap.size, 7, none⟩ = some (.string T) := by simp
  have g8 : (w.alloc (.cells (rcA 2 0 A B k S Q n T) 27)).cell? ⟨w.heap.size, 8, none⟩ = some (.int .i64 n) := by simp
  go_enter Tryz.func8, Tryz.ntmps8
  go_wp2_with (first
    | (go_at_call 31; refine (q _).mono ?_; rintro e w2 ⟨rfl, b2⟩; have f2 := bmm f1 f1.size b2; have cw := cv w2)
    | (go_at_call 29; refine (qp _).mono ?_; rintro e w1 ⟨rfl, b1⟩; have f1 := bmm ba ba.size b1; have k0 := (b1.cell (p := ⟨w.heap.size, 0, none⟩) (by exact la)).trans g0; have k1 := (b1.cell (p := ⟨w.heap.size, 1, none⟩) (by exact la)).trans g1; have k2 := (b1.cell (p := ⟨w.heap.size, 2, none⟩) (by exact la)).trans g2; have k3 := (b1.cell (p := ⟨w.heap.size, 3, none⟩) (by exact la)).trans g3; have k4 := (b1.cell (p := ⟨w.heap.size, 4, none⟩) (by exact la)).trans g4; have k5 := (b1.cell (p := ⟨w.heap.size, 5, none⟩) (by exact la)).trans g5; have k6 := (b1.cell (p := ⟨w.heap.size, 6, none⟩) (by exact la)).trans g6; have k7 := (b1.cell (p := ⟨w.heap.size, 7, none⟩) (by exact la)).trans g7; have k8 := (b1.cell (p := ⟨w.heap.size, 8, none⟩) (by exact la)).trans g8))
  go_ret2
  exact ⟨rfl, f2.alloc f2.size _⟩
set_option maxHeartbeats 3200000 in
set_option maxRecDepth 100000 in
theorem wencR_other (K N A B k S Q n : Int) (T : ByteArray) (w : World) (hp : promB ⟨K, N, ⟨A, B, ⟨k, S, Q, T, n⟩⟩⟩ = false) (h2 : ¬ K = 2) :
    Calls Tryz.prog 8 #[.agg (rcA K N A B k S Q n T)] w fun e w' => e = .returned (.tuple #[.string ⟨#[]⟩, .int .i64 1]) ∧ Below w.heap.size w w' := by
  have qp := isPromise_any K N A B k S Q n T
  rw [hp] at qp
  have ba : Below w.heap.size w (w.alloc (.cells (rcA K N A B k S Q n T) 27)) := (Below.refl _ w).alloc (Nat.le_refl _) _
  have la : w.heap.size < (w.alloc (.cells (rcA K N A B k S Q n T) 27)).heap.size := by simp
  have g0 : (w.alloc (.cells (rcA K N A B k S Q n T) 27)).cell? ⟨w.heap.size, 0, none⟩ = some (.int .i64 K) := by simp
  have g1 : (w.alloc (.cells (rcA K N A B k S Q n T) 27)).cell? ⟨w.heap.size, 1, none⟩ = some (.int .i64 N) := by simp
  have g2 : (w.alloc (.cells (rcA K N A B k S Q n T) 27)).cell? ⟨w.heap.size, 2, none⟩ = some (.int .i64 A) := by simp
  have g3 : (w.alloc (.cells (rcA K N A B k S Q n T) 27)).cell? ⟨w.heap.size, 3, none⟩ = some (.int .i64 B) := by simp
  have g4 : (w.alloc (.cells (rcA K N A B k S Q n T) 27)).cell? ⟨w.heap.size, 4, none⟩ = some (.int .i64 k) := by simp
  have g5 : (w.alloc (.cells (rcA K N A B k S Q n T) 27)).cell? ⟨w.heap.size, 5, none⟩ = some (.int .i64 S) := by simp
  have g6 : (w.alloc (.cells (rcA K N A B k S Q n T) 27)).cell? ⟨w.heap.size, 6, none⟩ = some (.int .i64 Q) := by simp
  have g7 : (w.alloc (.cells (rcA K N A B k S Q n T) 27)).cell? ⟨w.heap.size, 7, none⟩ = some (.string T) := by simp
  have g8 : (w.alloc (.cells (rcA K N A B k S Q n T) 27)).cell? ⟨w.heap.size, 8, none⟩ = some (.int .i64 n) := by simp
  go_enter Tryz.func8, Tryz.ntmps8
  go_wp2_with (go_at_call 29; refine (qp _).mono ?_; rintro e w1 ⟨rfl, b1⟩; have f1 := bmm ba ba.size b1; have k0 := (b1.cell (p := ⟨w.heap.size, 0, none⟩) (by exact la)).trans g0; have k1 := (b1.cell (p := ⟨w.heap.size, 1, none⟩) (by exact la)).trans g1; have k2 := (b1.cell (p := ⟨w.heap.size, 2, none⟩) (by exact la)).trans g2; have k3 := (b1.cell (p := ⟨w.heap.size, 3, none⟩) (by exact la)).trans g3; have k4 := (b1.cell (p := ⟨w.heap.size, 4, none⟩) (by exact la)).trans g4; have k5 := (b1.cell (p := ⟨w.heap.size, 5, none⟩) (by exact la)).trans g5; have k6 := (b1.cell (p := ⟨w.heap.size, 6, none⟩) (by exact la)).trans g6; have k7 := (b1.cell (p := ⟨w.heap.size, 7, none⟩) (by exact la)).trans g7; have k8 := (b1.cell (p := ⟨w.heap.size, 8, none⟩) (by exact la)).trans g8)
  go_ret2
  exact ⟨rfl, f1⟩
set_option maxHeartbeats 3200000 in
set_option maxRecDepth 100000 in
theorem wencR_n (N A B k S Q n : Int) (T : ByteArray) (w : World) (h2 : ¬ N = 0) :
    Calls Tryz.prog 8 #[.agg (rcA 2 N A B k S Q n T)] w fun e w' => e = .returned (.tuple #[.string ⟨#[]⟩, .int .i64 1]) ∧ Below w.heap.size w w' := by
  have qp := isPromise_any 2 N A B k S Q n T
  have hp : promB ⟨2, N, ⟨A, B, ⟨k, S, Q, T, n⟩⟩⟩ = false := rfl
  rw [hp] at qp
  have ba : Below w.heap.size w (w.alloc (.cells (rcA 2 N A B k S Q n T) 27)) := (Below.refl _ w).alloc (Nat.le_refl _) _
  have la : w.heap.size < (w.alloc (.cells (rcA 2 N A B k S Q n T) 27)).heap.size := by simp
  have g0 : (w.alloc (.cells (rcA 2 N A B k S Q n T) 27)).cell? ⟨w.heap.size, 0, none⟩ = some (.int .i64 2) := by simp
  have g1 : (w.alloc (.cells (rcA 2 N A B k S Q n T) 27)).cell? ⟨w.heap.size, 1, none⟩ = some (.int .i64 N) := by simp
  have g2 : (w.alloc (.cells (rcA 2 N A B k S Q n T) 27)).cell? ⟨w.heap.size, 2, none⟩ = some (.int .i64 A) := by simp
  have g3 : (w.alloc (.cells (rcA 2 N A B k S Q n T) 27)).cell? ⟨w.heap.size, 3, none⟩ = some (.int .i64 B) := by simp
  have g4 : (w.alloc (.cells (rcA 2 N A B k S Q n T) 27)).cell? ⟨w.heap.size, 4, none⟩ = some (.int .i64 k) := by simp
  have g5 : (w.alloc (.cells (rcA 2 N A B k S Q n T) 27)).cell? ⟨w.heap.size, 5, none⟩ = some (.int .i64 S) := by simp
  have g6 : (w.alloc (.cells (rcA 2 N A B k S Q n T) 27)).cell? ⟨w.heap.size, 6, none⟩ = some (.int .i64 Q) := by simp
  have g7 : (w.alloc (.cells (rcA 2 N A B k S Q n T) 27)).cell? ⟨w.heap.size, 7, none⟩ = some (.string T) := by simp
  have g8 : (w.alloc (.cells (rcA 2 N A B k S Q n T) 27)).cell? ⟨w.heap.size, 8, none⟩ = some (.int .i64 n) := by simp
  go_enter Tryz.func8, Tryz.ntmps8
  go_wp2_with (go_at_call 29; refine (qp _).mono ?_; rintro e w1 ⟨rfl, b1⟩; have f1 := bmm ba ba.size b1; have k0 := (b1.cell (p := ⟨w.heap.size, 0, none⟩) (by exact la)).trans g0; have k1 := (b1.cell (p := ⟨w.heap.size, 1, none⟩) (by exact la)).trans g1; have k2 := (b1.cell (p := ⟨w.heap.size, 2, none⟩) (by exact la)).trans g2; have k3 := (b1.cell (p := ⟨w.heap.size, 3, none⟩) (by exact la)).trans g3; have k4 := (b1.cell (p := ⟨w.heap.size, 4, none⟩) (by exact la)).trans g4; have k5 := (b1.cell (p := ⟨w.heap.size, 5, none⟩) (by exact la)).trans g5; have k6 := (b1.cell (p := ⟨w.heap.size, 6, none⟩) (by exact la)).trans g6; have k7 := (b1.cell (p := ⟨w.heap.size, 7, none⟩) (by exact la)).trans g7; have k8 := (b1.cell (p := ⟨w.heap.size, 8, none⟩) (by exact la)).trans g8)
  go_ret2
  exact ⟨rfl, f1⟩
set_option maxHeartbeats 3200000 in
set_option maxRecDepth 100000 in
theorem wencR_b (A B k S Q n : Int) (T : ByteArray) (w : World) (h2 : ¬ 1 ≤ B) :
    Calls Tryz.prog 8 #[.agg (rcA 2 0 A B k S Q n T)] w fun e w' => e = .returned (.tuple #[.string ⟨#[]⟩, .int .i64 1]) ∧ Below w.heap.size w w' := by
  have qp := isPromise_any 2 0 A B k S Q n T
  have hp : promB ⟨2, 0, ⟨A, B, ⟨k, S, Q, T, n⟩⟩⟩ = false := rfl
  rw [hp] at qp
  have ba : Below w.heap.size w (w.alloc (.cells (rcA 2 0 A B k S Q n T) 27)) := (Below.refl _ w).alloc (Nat.le_refl _) _
  have la : w.heap.size < (w.alloc (.cells (rcA 2 0 A B k S Q n T) 27)).heap.size := by simp
  have g0 : (w.alloc (.cells (rcA 2 0 A B k S Q n T) 27)).cell? ⟨w.heap.size, 0, none⟩ = some (.int .i64 2) := by simp
  have g1 : (w.alloc (.cells (rcA 2 0 A B k S Q n T) 27)).cell? ⟨w.heap.size, 1, none⟩ = some (.int .i64 0) := by simp
  have g2 : (w.alloc (.cells (rcA 2 0 A B k S Q n T) 27)).cell? ⟨w.heap.size, 2, none⟩ = some (.int .i64 A) := by simp
  have g3 : (w.alloc (.cells (rcA 2 0 A B k S Q n T) 27)).cell? ⟨w.heap.size, 3, none⟩ = some (.int .i64 B) := by simp
  have g4 : (w.alloc (.cells (rcA 2 0 A B k S Q n T) 27)).cell? ⟨w.heap.size, 4, none⟩ = some (.int .i64 k) := by simp
  have g5 : (w.alloc (.cells (rcA 2 0 A B k S Q n T) 27)).cell? ⟨w.heap.size, 5, none⟩ = some (.int .i64 S) := by simp
  have g6 : (w.alloc (.cells (rcA 2 0 A B k S Q n T) 27)).cell? ⟨w.heap.size, 6, none⟩ = some (.int .i64 Q) := by simp
  have g7 : (w.alloc (.cells (rcA 2 0 A B k S Q n T) 27)).cell? ⟨w.heap.size, 7, none⟩ = some (.string T) := by simp
  have g8 : (w.alloc (.cells (rcA 2 0 A B k S Q n T) 27)).cell? ⟨w.heap.size, 8, none⟩ = some (.int .i64 n) := by simp
  go_enter Tryz.func8, Tryz.ntmps8
  go_wp2_with (go_at_call 29; refine (qp _).mono ?_; rintro e w1 ⟨rfl, b1⟩; have f1 := bmm ba ba.size b1; have k0 := (b1.cell (p := ⟨w.heap.size, 0, none⟩) (by exact la)).trans g0; have k1 := (b1.cell (p := ⟨w.heap.size, 1, none⟩) (by exact la)).trans g1; have k2 := (b1.cell (p := ⟨w.heap.size, 2, none⟩) (by exact la)).trans g2; have k3 := (b1.cell (p := ⟨w.heap.size, 3, none⟩) (by exact la)).trans g3; have k4 := (b1.cell (p := ⟨w.heap.size, 4, none⟩) (by exact la)).trans g4; have k5 := (b1.cell (p := ⟨w.heap.size, 5, none⟩) (by exact la)).trans g5; have k6 := (b1.cell (p := ⟨w.heap.size, 6, none⟩) (by exact la)).trans g6; have k7 := (b1.cell (p := ⟨w.heap.size, 7, none⟩) (by exact la)).trans g7; have k8 := (b1.cell (p := ⟨w.heap.size, 8, none⟩) (by exact la)).trans g8)
  go_ret2
  exact ⟨rfl, f1⟩
set_option maxHeartbeats 3200000 in
set_option maxRecDepth 100000 in
theorem wencR_e (A B k S Q n : Int) (T : ByteArray) (w : World) (h2 : 1 ≤ B) (h : mayE ⟨A, B, ⟨k, S, Q, T, n⟩⟩ = false) :
    Calls Tryz.prog 8 #[.agg (rcA 2 0 A B k S Q n T)] w fun e w' => e = .returned (.tuple #[.string ⟨#[]⟩, .int .i64 1]) ∧ Below w.heap.size w w' := by
  have qp := isPromise_any 2 0 A B k S Q n T
  have hp : promB ⟨2, 0, ⟨A, B, ⟨k, S, Q, T, n⟩⟩⟩ = false := rfl
  rw [hp] at qp
  have q := encodeE_any A B k S Q n T
  have e : encET ⟨A, B, ⟨k, S, Q, T, n⟩⟩ = (⟨#[]⟩, 1) := by unfold encET; rw [if_neg (by rw [h]; simp)]
  rw [e] at q
  clear e h
  have ba : Below w.heap.size w (w.alloc (.cells (rcA 2 0 A B k S Q n T) 27)) := (Below.refl _ w).alloc (Nat.le_refl _) _
  have la : w.heap.size < (w.alloc (.cells (rcA 2 0 A B k S Q n T) 27)).heap.size := by simp
  have g0 : (w.alloc (.cells (rcA 2 0 A B k S Q n T) 27)).cell? ⟨w.heap.size, 0, none⟩ = some (.int .i64 2) := by simp
  have g1 : (w.alloc (.cells (rcA 2 0 A B k S Q n T) 27)).cell? ⟨w.heap.size, 1, none⟩ = some (.int .i64 0) := by simp
  have g2 : (w.alloc (.cells (rcA 2 0 A B k S Q n T) 27)).cell? ⟨w.heap.size, 2, none⟩ = some (.int .i64 A) := by simp
  have g3 : (w.alloc (.cells (rcA 2 0 A B k S Q n T) 27)).cell? ⟨w.heap.size, 3, none⟩ = some (.int .i64 B) := by simp
  have g4 : (w.alloc (.cells (rcA 2 0 A B k S Q n T) 27)).cell? ⟨w.heap.size, 4, none⟩ = some (.int .i64 k) := by simp
  have g5 : (w.alloc (.cells (rcA 2 0 A B k S Q n T) 27)).cell? ⟨w.heap.size, 5, none⟩ = some (.int .i64 S) := by simp
  have g6 : (w.alloc (.cells (rcA 2 0 A B k S Q n T) 27)).cell? ⟨w.heap.size, 6, none⟩ = some (.int .i64 Q) := by simp
  have g7 : (w.alloc (.cells (rcA 2 0 A B k S Q n T) 27)).cell? ⟨w.heap.size, 7, none⟩ = some (.string T) := by simp
  have g8 : (w.alloc (.cells (rcA 2 0 A B k S Q n T) 27)).cell? ⟨w.heap.size, 8, none⟩ = some (.int .i64 n) := by simp
  go_enter Tryz.func8, Tryz.ntmps8
  go_wp2_with (first | (go_at_call 31; refine (q _).mono ?_; rintro e w2 ⟨rfl, b2⟩; have f2 := bmm f1 f1.size b2) | (go_at_call 29; refine (qp _).mono ?_; rintro e w1 ⟨rfl, b1⟩; have f1 := bmm ba ba.size b1; have k0 := (b1.cell (p := ⟨w.heap.size, 0, none⟩) (by exact la)).trans g0; have k1 := (b1.cell (p := ⟨w.heap.size, 1, none⟩) (by exact la)).trans g1; have k2 := (b1.cell (p := ⟨w.heap.size, 2, none⟩) (by exact la)).trans g2; have k3 := (b1.cell (p := ⟨w.heap.size, 3, none⟩) (by exact la)).trans g3; have k4 := (b1.cell (p := ⟨w.heap.size, 4, none⟩) (by exact la)).trans g4; have k5 := (b1.cell (p := ⟨w.heap.size, 5, none⟩) (by exact la)).trans g5; have k6 := (b1.cell (p := ⟨w.heap.size, 6, none⟩) (by exact la)).trans g6; have k7 := (b1.cell (p := ⟨w.heap.size, 7, none⟩) (by exact la)).trans g7; have k8 := (b1.cell (p := ⟨w.heap.size, 8, none⟩) (by exact la)).trans g8))
  go_ret2
  exact ⟨rfl, f2⟩
theorem wencR_any (K N A B k S Q n : Int) (T : ByteArray) (w : World) :
    Calls Tryz.prog 8 #[.agg (rcA K N A B k S Q n T)] w fun e w' => e = .returned (.tuple #[.string (encRT ⟨K, N, ⟨A, B, ⟨k, S, Q, T, n⟩⟩⟩).1, .int .i64 (encRT ⟨K, N, ⟨A, B, ⟨k, S, Q, T, n⟩⟩⟩).2]) ∧ Below w.heap.size w w' := by
  by_cases h2 : K = 2
  · subst h2
    by_cases hN : N = 0
    · subst hN
      by_cases hB : 1 ≤ B
      · cases hm : mayE ⟨A, B, ⟨k, S, Q, T, n⟩⟩ with
        | true =>
          have hy : mayR ⟨2, 0, ⟨A, B, ⟨k, S, Q, T, n⟩⟩⟩ = true := by
            unfold mayR
            simp [hm, hB]
          rw [encRT_yes hy]
          exact wencR_two A B k S Q n T w hm hB
        | false =>
          rw [encRT_no (by unfold mayR; simp [hm])]
          exact wencR_e A B k S Q n T w hB hm
      · rw [encRT_no (by unfold mayR; simp; intro _; omega)]
        exact wencR_b A B k S Q n T w hB
    · rw [encRT_no (by unfold mayR; simp [hN])]
      exact wencR_n N A B k S Q n T w hN
  · cases hp : promB ⟨K, N, ⟨A, B, ⟨k, S, Q, T, n⟩⟩⟩ with
    | false =>
      have e : mayR ⟨K, N, ⟨A, B, ⟨k, S, Q, T, n⟩⟩⟩ = false := by
        unfold promB at hp
        unfold mayR
        by_cases h1 : K = 1
        · simp [h1] at hp ⊢
          exact hp
        · simp [h1, h2]
      rw [encRT_no e]
      exact wencR_other K N A B k S Q n T w hp h2
    | true =>
      have hq := hp
      unfold promB at hq
      simp only [Bool.and_eq_true, decide_eq_true_eq] at hq
      obtain ⟨h1, c1, c2, he⟩ := hq
      subst h1
      have ez := noE_iff.mp he
      have hy : mayR ⟨1, N, ⟨A, B, ⟨k, S, Q, T, n⟩⟩⟩ = true := by rw [ez]; exact mayR_one c1 c2
      rw [encRT_yes hy]
      unfold En.zero Cm.zero at ez
      injection ez with e1 e2 e3
      injection e3 with e4 e5 e6 e7 e8
      subst e1 e2 e4 e5 e6 e7 e8
      have r := wencR_one N.toNat w (by omega) (by omega)
      rw [show ((N.toNat : Nat) : Int) = N by omega] at r
      exact r
end Go.Proofs.YtdhlbldmdeepiaaGreatDoor
