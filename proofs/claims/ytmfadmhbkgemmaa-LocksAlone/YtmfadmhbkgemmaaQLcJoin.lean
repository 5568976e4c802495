/-
  Package locks: a session put behind all that wait. The conditions: it is an int, and does not wait.
-/
import Derived.Test.YtmfadmhbkgemmaaQLcHold
namespace Go.Proofs.Ytmfadmhbkgemmaa
open Go.RowKit

theorem atS_app (L : List (Nat × Wq)) (g : Nat) (x : Wq) (hn : waitB (L.map (·.2)) x.s = false) (s : Int) : atS (L ++ [(g, x)]) s = if s = x.s then some g else atS L s := by
  have h1 : ∀ p ∈ L, (p.2.s == x.s) = false := fun p hp => by
    unfold waitB at hn
    rw [List.any_eq_false] at hn
    simpa using hn p.2 (List.mem_map.2 ⟨p, hp, rfl⟩)
  unfold atS
  rw [List.find?_append]
  by_cases e : s = x.s
  · subst e
    rw [if_pos rfl, List.find?_eq_none.2 (fun p hp => by rw [h1 p hp]; decide)]
    simp
  · rw [if_neg e]
    have : ((x.s == s) : Bool) = false := by simpa using fun e2 : x.s = s => e e2.symm
    cases L.find? (fun p => p.2.s == s) with
    | none => simp [this]
    | some p => rfl
structure JoinP (w : World) (X : Nat) (S : Nat → Prop) (h : List Int) (wr : Bool) (q : List Wq) (e : Ending) (w' : World) : Prop where
  ret : ∃ v, e = .returned v
  ex : ∃ S', LcAt w' X S' h wr q ∧ Kept w w' S S'
set_option maxRecDepth 100000 in
set_option maxHeartbeats 4000000 in
theorem join_any {w : World} {X : Nat} {S : Nat → Prop} {h : List Int} {wr : Bool} {q : List Wq} (I : LcAt w X S h wr q) (x : Wq) (hi : inI x.s) (hn : waitB q x.s = false) :
    Calls Try.prog 29 #[bPtr X, .agg (lcWA x)] w (JoinP w X S h wr (q ++ [x])) := by
  obtain ⟨H, P, L, hs, ps, M⟩ := I.ex
  obtain ⟨ab, ao, hab⟩ : ∃ ab ao, adL X L L.length = (ab, ao) := ⟨_, _, rfl⟩
  obtain ⟨W, hW⟩ : ∃ W, W = w.alloc (.cells (lcWA x) lcWT) := ⟨_, rfl⟩
  have bW : Below w.heap.size w W := by rw [hW]; exact (Below.refl _ w).alloc (Nat.le_refl _) _
  have nW : W.heap[w.heap.size]? = some (.cells (lcWA x) lcWT (0, 0)) := by rw [hW]; exact heap_alloc_new w _
  have sW : W.heap.size = w.heap.size + 1 := by rw [hW]; simp
  obtain ⟨V, hV⟩ : ∃ V, V = (W.alloc (.cells (lcPA x (ab, ao) (X, 3)) lcPT)).drew := ⟨_, rfl⟩
  have sV : V.heap.size = w.heap.size + 2 := by rw [hV]; show (W.alloc _).heap.size = _; rw [World.size_alloc]; omega
  have bV1 : Below W.heap.size W V := by rw [hV]; exact ((Below.refl _ W).alloc (Nat.le_refl _) _).drew
  have bV : Below w.heap.size w V := bW.trans (bV1.mono (by omega))
  have nV : V.heap[w.heap.size + 1]? = some (.cells (lcPA x (ab, ao) (X, 3)) lcPT (0, 0)) := by
    have := heap_alloc_new W (.cells (lcPA x (ab, ao) (X, 3)) lcPT)
    rw [sW] at this
    rw [hV]
    exact this
  have nV0 : V.heap[w.heap.size]? = some (.cells (lcWA x) lcWT (0, 0)) := (bV1.block _ (by omega)).trans nW
  have hbd := M.bd
  have hSne : ∀ g, S g → g ≠ w.heap.size + 1 := fun g hg => by have := hbd g hg; omega
  have hSne0 : ∀ g, S g → g ≠ w.heap.size := fun g hg => by have := hbd g hg; omega
  have habS : S ab := by
    by_cases e : L.length = 0
    · rw [e] at hab
      have : (X, 3) = (ab, ao) := hab
      simp only [Prod.mk.injEq] at this
      rw [← this.1]
      exact M.inX
    · obtain ⟨e2, _, _⟩ := M.ring.node (j := L.length - 1) (by omega)
      rw [show L.length - 1 + 1 = L.length by omega, hab] at e2
      have e3 : ab = L[L.length - 1].1 := congrArg Prod.fst e2
      rw [e3]
      exact M.inL (List.mem_map.2 ⟨_, List.getElem_mem _, rfl⟩)
  have hj := M.ring.join (b := w.heap.size + 1) (x := x) (w1 := V) (by rw [hab]; exact nV) (fun g hg => bV.block g (hbd g (by
    rcases hg with rfl | hg
    · exact M.inX
    · exact M.inL hg))) (fun e => hSne X M.inX e.symm) (fun e => hSne _ (M.inL e) rfl)
  rw [hab] at hj
  obtain ⟨V1, hV1⟩ : ∃ V1, V1 = (V.setCell ⟨ab, ao + 4, none⟩ (.pointer (some ⟨w.heap.size + 1, 0, none⟩))).drew := ⟨_, rfl⟩
  obtain ⟨V2, hV2⟩ : ∃ V2, V2 = V1.setCell ⟨X, 6, none⟩ (.pointer (some ⟨w.heap.size + 1, 0, none⟩)) := ⟨_, rfl⟩
  have o1 : ∀ g, g ≠ ab → V1.heap[g]? = V.heap[g]? := fun g hg => by rw [hV1]; exact heap_setCell_other V _ _ _ hg
  have o2 : ∀ g, g ≠ X → V2.heap[g]? = V1.heap[g]? := fun g hg => by rw [hV2]; exact heap_setCell_other _ _ _ _ hg
  have hj2 : LcC V2 X H wr P (L ++ [(w.heap.size + 1, x)]) := by
    rw [hV2, hV1]
    exact hj.keep (fun _ _ => rfl)
  have s1 : V1.heap.size = w.heap.size + 2 := by rw [hV1]; show (V.setCell _ _).heap.size = _; rw [World.size_setCell]; exact sV
  have s2 : V2.heap.size = w.heap.size + 2 := by rw [hV2, World.size_setCell]; exact s1
  have hHne : H ≠ ab ∧ P ≠ ab := by
    by_cases e : L.length = 0
    · rw [e] at hab
      have : (X, 3) = (ab, ao) := hab
      simp only [Prod.mk.injEq] at this
      rw [← this.1]
      exact ⟨M.neH, M.neP⟩
    · obtain ⟨e2, _, _⟩ := M.ring.node (j := L.length - 1) (by omega)
      rw [show L.length - 1 + 1 = L.length by omega, hab] at e2
      have e3 : ab = L[L.length - 1].1 := congrArg Prod.fst e2
      have e4 : L[L.length - 1].1 ∈ L.map (·.1) := List.mem_map.2 ⟨_, List.getElem_mem _, rfl⟩
      rw [e3]
      exact ⟨M.neHL e4, M.nePL e4⟩
  have hP2 : V2.heap[P]? = w.heap[P]? := (o2 P M.neP).trans ((o1 P hHne.2).trans (bV.block P (hbd P M.inP)))
  have hH2 : V2.heap[H]? = w.heap[H]? := (o2 H M.neH).trans ((o1 H hHne.1).trans (bV.block H (hbd H M.inH)))
  obtain ⟨V3, hrun, hm3, hg3, hz3⟩ := MapOf.put mPl_is (M.plc.keep (w' := V2.drew) hP2) hi (w.heap.size + 1)
  change (Instr.mapUpdate _ _ (.int .i64 x.s) (.pointer (some ⟨w.heap.size + 1, 0, none⟩))).run _ _ = _ at hrun
  have hX2 : V2.heap[X]? = some (.cells (lcXA H wr P (paC X (L ++ [(w.heap.size + 1, x)]) 0) (pbC X (L ++ [(w.heap.size + 1, x)]) 0)) lcT (0, 0)) := hj2.blk
  have o3 : ∀ g, g < w.heap.size + 2 → g ≠ P → V3.heap[g]? = V2.heap[g]? := fun g hg hne => hg3.block g (by show g < V2.heap.size; omega) (fun e => hne (Option.some.inj e))
  have nB2 : V2.heap[w.heap.size]? = some (.cells (lcWA x) lcWT (0, 0)) := (o2 _ (hSne0 X M.inX).symm).trans ((o1 _ (hSne0 ab habS).symm).trans nV0)
  have hXlt := hbd X M.inX
  have z6 : W.cell? ⟨X, 6, none⟩ = some (.pointer (some ⟨ab, ao, none⟩)) := by
    have := M.cell 6 _ rfl
    rw [show paC X L 0 = adL X L L.length from rfl, hab] at this
    exact (bW.cell (p := ⟨X, 6, none⟩) hXlt).trans this
  have HS1 : Hid ((W.drew.cell? ⟨w.heap.size, 0, none⟩ = some (.int .i64 x.s) ∧ W.drew.cell? ⟨w.heap.size, 1, none⟩ = some (.int .i64 x.n) ∧ W.drew.cell? ⟨w.heap.size, 2, none⟩ = some (.bool x.rd) ∧ W.drew.cell? ⟨X, 6, none⟩ = some (.pointer (some ⟨ab, ao, none⟩))) ∧ (V.cell? ⟨w.heap.size, 0, none⟩ = some (.int .i64 x.s) ∧ V.cell? ⟨w.heap.size, 1, none⟩ = some (.int .i64 x.n) ∧ V.cell? ⟨w.heap.size, 2, none⟩ = some (.bool x.rd) ∧ V.cell? ⟨X, 6, none⟩ = some (.pointer (some ⟨ab, ao, none⟩)))) :=
    (show Hid _ from (⟨⟨show W.cell? _ = _ from by simp [World.cell?, nW], show W.cell? _ = _ from by simp [World.cell?, nW], show W.cell? _ = _ from by simp [World.cell?, nW], z6⟩, by simp [World.cell?, nV0], by simp [World.cell?, nV0], by simp [World.cell?, nV0], (bV1.cell (p := ⟨X, 6, none⟩) (by show X < W.heap.size; omega)).trans z6⟩ : (_ ∧ _ ∧ _ ∧ _) ∧ (_ ∧ _ ∧ _ ∧ _)))
  have nV1 : V1.heap[w.heap.size + 1]? = some (.cells (lcPA x (ab, ao) (X, 3)) lcPT (0, 0)) := (o1 _ (hSne ab habS).symm).trans nV
  have nV2 : V2.heap[w.heap.size + 1]? = some (.cells (lcPA x (ab, ao) (X, 3)) lcPT (0, 0)) := (o2 _ (hSne X M.inX).symm).trans nV1
  have HS2 : Hid ((V.drew.cell? ⟨w.heap.size + 1, 3, none⟩ = some (.pointer (some ⟨ab, ao, none⟩)) ∧ V.drew.cell? ⟨w.heap.size + 1, 4, none⟩ = some (.pointer (some ⟨X, 3, none⟩))) ∧ (V1.cell? ⟨w.heap.size + 1, 3, none⟩ = some (.pointer (some ⟨ab, ao, none⟩)) ∧ V1.cell? ⟨w.heap.size + 1, 4, none⟩ = some (.pointer (some ⟨X, 3, none⟩))) ∧ (V2.cell? ⟨w.heap.size + 1, 3, none⟩ = some (.pointer (some ⟨ab, ao, none⟩)) ∧ V2.cell? ⟨w.heap.size + 1, 4, none⟩ = some (.pointer (some ⟨X, 3, none⟩)))) :=
    (show Hid _ from (⟨⟨show V.cell? _ = _ from by simp [World.cell?, nV], show V.cell? _ = _ from by simp [World.cell?, nV]⟩, ⟨by simp [World.cell?, nV1], by simp [World.cell?, nV1]⟩, ⟨by simp [World.cell?, nV2], by simp [World.cell?, nV2]⟩⟩ : (_ ∧ _) ∧ (_ ∧ _) ∧ (_ ∧ _)))
  have HS3 : Hid ((V2.drew.cell? ⟨X, 2, none⟩ = some (.map (some P)) ∧ V2.drew.cell? ⟨w.heap.size, 0, none⟩ = some (.int .i64 x.s)) ∧ (V3.cell? ⟨X, 2, none⟩ = some (.map (some P)) ∧ V3.cell? ⟨w.heap.size, 0, none⟩ = some (.int .i64 x.s))) :=
    (show Hid _ from (⟨⟨show V2.cell? _ = _ from by simp [World.cell?, hX2], show V2.cell? _ = _ from by simp [World.cell?, nB2]⟩, (World.cell?_of_block (a := ⟨X, 2, none⟩) (o3 X (by omega) M.neP.symm)).trans (by simp [World.cell?, hX2]), (World.cell?_of_block (a := ⟨w.heap.size, 0, none⟩) (o3 w.heap.size (by omega) (hSne0 P M.inP).symm)).trans (by simp [World.cell?, nB2])⟩ : (_ ∧ _) ∧ (_ ∧ _)))
  have hcB := (M.ring.keep (w' := V) fun g hg => bV.block g (hbd g (by
    rcases hg with rfl | hg
    · exact M.inX
    · exact M.inL hg))).cellB L.length (Nat.le_refl _)
  rw [hab, show pbC X L L.length = (X, 3) from adL_end X L (Nat.lt_succ_self _)] at hcB
  obtain ⟨y4, f4⟩ := hcB
  have hX1 := hj2.blk
  obtain ⟨y6, f6⟩ : (∃ u, V1.cell? ⟨X, 6, none⟩ = some u) ∧ V1.frozen? ⟨X, 6, none⟩ = false := by
    have hb : V.drew.heap[X]? = some (.cells (lcXA H wr P (paC X L 0) (pbC X L 0)) lcT (0, 0)) := (bV.block X hXlt).trans M.ring.blk
    by_cases e : ab = X
    · have h0 := heap_setCell_same V X (ao + 4) _ _ (.pointer (some ⟨w.heap.size + 1, 0, none⟩)) hb
      have hx : V1.heap[X]? = (V.setCell ⟨X, ao + 4, none⟩ (.pointer (some ⟨w.heap.size + 1, 0, none⟩))).heap[X]? := by rw [hV1, e]; rfl
      have h1 := hx.trans h0
      exact ⟨⟨_, by simp [World.cell?, h1]; rfl⟩, by simp [World.frozen?, h1]⟩
    · have h1 := (o1 X (fun e2 => e e2.symm)).trans (show V.heap[X]? = _ from hb)
      exact ⟨by simp [World.cell?, h1], by simp [World.frozen?, h1]⟩
  obtain ⟨u6, y6⟩ := y6
  have HE0 : JoinP w X S h wr (q ++ [x]) (.returned (.tuple #[])) V3 := by
    refine (⟨⟨_, rfl⟩, fun g => S g ∨ g = w.heap.size + 1, ⟨H, P, L ++ [(w.heap.size + 1, x)], hs, putM ps x.s (w.heap.size + 1), hj2.keep (fun g hg => o3 g (by
        rcases hg with rfl | hg
        · omega
        · rw [List.map_append, List.mem_append] at hg
          rcases hg with hg | hg
          · have := hbd g (M.inL hg)
            omega
          · simp only [List.map_cons, List.map_nil, List.mem_singleton] at hg
            omega) (by
        rcases hg with rfl | hg
        · exact M.neP.symm
        · rw [List.map_append, List.mem_append] at hg
          rcases hg with hg | hg
          · exact (M.nePL hg).symm
          · simp only [List.map_cons, List.map_nil, List.mem_singleton] at hg
            rw [hg]
            exact (hSne P M.inP).symm)), by rw [List.map_append, M.ql], M.hold.keep ((o3 H (by have := hbd H M.inH; omega) M.ne).trans hH2), M.hp, hm3, fun s => by rw [lookM_put, M.lk, atS_app L _ x (by rw [M.ql]; exact hn)], ?_, ?_, M.ne, fun g => ?_⟩, ?_⟩ : JoinP _ _ _ _ _ _ _ _)
    · rw [List.map_append, List.nodup_append]
      refine ⟨M.qd, by simp, fun a ha c hc => ?_⟩
      obtain ⟨y, hy, rfl⟩ := List.mem_map.1 ha
      simp only [List.map_cons, List.map_nil, List.mem_singleton] at hc
      unfold waitB at hn
      rw [List.any_eq_false] at hn
      rw [hc]
      simpa using hn y hy
    · intro y hy
      rcases List.mem_append.1 hy with hy | hy
      · exact M.qi y hy
      · rw [List.mem_singleton.1 hy]
        exact hi
    · rw [M.set g, List.map_append, List.mem_append]
      simp only [List.map_cons, List.map_nil, List.mem_singleton]
      constructor
      · rintro ((h1 | h1 | h1 | h1) | h1)
        · exact Or.inl h1
        · exact Or.inr (Or.inl h1)
        · exact Or.inr (Or.inr (Or.inl h1))
        · exact Or.inr (Or.inr (Or.inr (Or.inl h1)))
        · exact Or.inr (Or.inr (Or.inr (Or.inr h1)))
      · rintro (h1 | h1 | h1 | h1 | h1)
        · exact Or.inl (Or.inl h1)
        · exact Or.inl (Or.inr (Or.inl h1))
        · exact Or.inl (Or.inr (Or.inr (Or.inl h1)))
        · exact Or.inl (Or.inr (Or.inr (Or.inr h1)))
        · exact Or.inr h1
    · refine ⟨hg3.os.trans (by show V2.os = _; rw [hV2, hV1]; exact bV.os), hg3.tape.trans (by show V2.tape = _; rw [hV2, hV1]; exact bV.tape), hg3.output.trans (by show V2.output = _; rw [hV2, hV1]; exact bV.output), by have := hg3.size; have e : V2.drew.heap.size = V2.heap.size := rfl; omega, fun b hb => ?_, fun b hb hnb => ?_⟩
      · rcases hb with hb | hb
        · exact Or.inl hb
        · exact Or.inr (by omega)
      · rw [o3 b (by omega) (fun e => hnb (by rw [e]; exact M.inP)), o2 b (fun e => hnb (by rw [e]; exact M.inX)), o1 b (fun e => hnb (by rw [e]; exact habS))]
        exact bV.block b hb
  have HE : Hid _ := HE0
  clear HE0
  have HW : Hid (w.alloc (.cells #[.int .i64 x.s, .int .i64 x.n, .bool x.rd] lcWT) = W) := hW.symm
  have HV0 : Hid ((W.alloc (.cells #[.int .i64 x.s, .int .i64 x.n, .bool x.rd, .pointer (some ⟨ab, ao, none⟩), .pointer (some ⟨X, 3, none⟩)] lcPT)).drew = V) := hV.symm
  have HV1 : Hid ((V.setCell ⟨ab, ao + 4, none⟩ (.pointer (some ⟨w.heap.size + 1, 0, none⟩))).drew = V1) := hV1.symm
  have HV2 : Hid (V1.setCell ⟨X, 6, none⟩ (.pointer (some ⟨w.heap.size + 1, 0, none⟩)) = V2) := hV2.symm
  have HSW : Hid (W.heap.size = w.heap.size + 1) := sW
  clear M I hi hn hab hW bW nW sW hV sV bV1 bV nV nV0 hbd hSne hSne0 habS hj hV1 hV2 o1 o2 hj2 s1 s2 hHne hP2 hH2 hm3 hg3 hz3 hX2 o3 nB2 hXlt z6 nV1 nV2 hX1
  go_enter Try.func29, Try.ntmps29
  go_upto_region 1 with fail
  rw [HW.out]
  refine wp_region_held_drew (S := (fun w' : World => w'.cell? ⟨w.heap.size, 0, none⟩ = some (.int .i64 x.s) ∧ w'.cell? ⟨w.heap.size, 1, none⟩ = some (.int .i64 x.n) ∧ w'.cell? ⟨w.heap.size, 2, none⟩ = some (.bool x.rd) ∧ w'.cell? ⟨X, 6, none⟩ = some (.pointer (some ⟨ab, ao, none⟩)))) (by kernel_rfl) ?_ (fun hHeld0 => ?_)
  · exact HS1.out.1
  refine tk0 (.agg (lcWA x)) (by kernel_rfl) (by kernel_rfl) (by kernel_rfl) (fun _ _ _ h => h) rfl (fun w hSw => by (try dsimp only at hSw); obtain ⟨q0, q1, q2, q3⟩ := hSw; go_simp) (by assumption) ?_
  try simp only [Act.put, List.setIfInBounds_toArray, List.set_cons_zero, List.set_cons_succ]
  refine tk1 (.pointer (some ⟨X, 0, none⟩)) (by kernel_rfl) (by kernel_rfl) (by kernel_rfl) (fun _ _ _ h => h) rfl (fun w hSw => by (try dsimp only at hSw); obtain ⟨q0, q1, q2, q3⟩ := hSw; go_simp) (by assumption) ?_
  try simp only [Act.put, List.setIfInBounds_toArray, List.set_cons_zero, List.set_cons_succ]
  refine tk2 (.pointer (some ⟨X, 0, none⟩)) (by kernel_rfl) (by kernel_rfl) (by kernel_rfl) (fun _ _ _ h => h) rfl (fun w hSw => by (try dsimp only at hSw); obtain ⟨q0, q1, q2, q3⟩ := hSw; go_simp) (by assumption) ?_
  try simp only [Act.put, List.setIfInBounds_toArray, List.set_cons_zero, List.set_cons_succ]
  refine tk3 (.pointer (some ⟨X, 3, none⟩)) (by kernel_rfl) (by kernel_rfl) (by kernel_rfl) (fun _ _ _ h => h) rfl (fun w hSw => by (try dsimp only at hSw); obtain ⟨q0, q1, q2, q3⟩ := hSw; go_simp) (by assumption) ?_
  try simp only [Act.put, List.setIfInBounds_toArray, List.set_cons_zero, List.set_cons_succ]
  refine tk4 (.pointer (some ⟨X, 6, none⟩)) (by kernel_rfl) (by kernel_rfl) (by kernel_rfl) (fun _ _ _ h => h) rfl (fun w hSw => by (try dsimp only at hSw); obtain ⟨q0, q1, q2, q3⟩ := hSw; go_simp) (by assumption) ?_
  try simp only [Act.put, List.setIfInBounds_toArray, List.set_cons_zero, List.set_cons_succ]
  refine tk5 (.pointer (some ⟨ab, ao, none⟩)) (by kernel_rfl) (by kernel_rfl) (by kernel_rfl) (fun _ _ _ h => h) rfl (fun w hSw => by (try dsimp only at hSw); obtain ⟨q0, q1, q2, q3⟩ := hSw; go_simp) (by assumption) ?_
  try simp only [Act.put, List.setIfInBounds_toArray, List.set_cons_zero, List.set_cons_succ]
  refine tk6 (.pointer (some ⟨X, 0, none⟩)) (by kernel_rfl) (by kernel_rfl) (by kernel_rfl) (fun _ _ _ h => h) rfl (fun w hSw => by (try dsimp only at hSw); obtain ⟨q0, q1, q2, q3⟩ := hSw; go_simp) (by assumption) ?_
  try simp only [Act.put, List.setIfInBounds_toArray, List.set_cons_zero, List.set_cons_succ]
  refine tk7 (.pointer (some ⟨X, 0, none⟩)) (by kernel_rfl) (by kernel_rfl) (by kernel_rfl) (fun _ _ _ h => h) rfl (fun w hSw => by (try dsimp only at hSw); obtain ⟨q0, q1, q2, q3⟩ := hSw; go_simp) (by assumption) ?_
  try simp only [Act.put, List.setIfInBounds_toArray, List.set_cons_zero, List.set_cons_succ]
  refine tk8 (.pointer (some ⟨X, 3, none⟩)) (by kernel_rfl) (by kernel_rfl) (by kernel_rfl) (fun _ _ _ h => h) rfl (fun w hSw => by (try dsimp only at hSw); obtain ⟨q0, q1, q2, q3⟩ := hSw; go_simp) (by assumption) ?_
  try simp only [Act.put, List.setIfInBounds_toArray, List.set_cons_zero, List.set_cons_succ]
  refine tk9 (.agg #[.int .i64 x.s, .int .i64 x.n, .bool x.rd, .pointer (some ⟨ab, ao, none⟩), .pointer (some ⟨X, 3, none⟩)]) (by kernel_rfl) (by kernel_rfl) (by kernel_rfl) (fun _ _ _ h => h) rfl (fun w hSw => by (try dsimp only at hSw); obtain ⟨q0, q1, q2, q3⟩ := hSw; go_simp) (by assumption) ?_
  try simp only [Act.put, List.setIfInBounds_toArray, List.set_cons_zero, List.set_cons_succ]
  refine cl10 (by kernel_rfl) rfl (fun K hK => ?_)
  go_simp
  rw [HV0.out, HSW.out]
  refine hK.out _ _ ?_ (fun hHeld => ?_)
  · exact HS1.out.2
  clear hK K
  try simp only [Act.put, List.setIfInBounds_toArray, List.set_cons_zero, List.set_cons_succ]
  refine tk11 (.pointer (some ⟨w.heap.size + 1, 0, none⟩)) (by kernel_rfl) (by kernel_rfl) (by kernel_rfl) (fun _ _ _ h => h) rfl (fun w hSw => by (try dsimp only at hSw); obtain ⟨q0, q1, q2, q3⟩ := hSw; go_simp) (by assumption) ?_
  try simp only [Act.put, List.setIfInBounds_toArray, List.set_cons_zero, List.set_cons_succ]
  refine wpAnyH_done (by kernel_rfl) ?_ _
  go_upto_region 2 with fail
  refine wp_region_held_drew (S := (fun w' : World => w'.cell? ⟨w.heap.size + 1, 3, none⟩ = some (.pointer (some ⟨ab, ao, none⟩)) ∧ w'.cell? ⟨w.heap.size + 1, 4, none⟩ = some (.pointer (some ⟨X, 3, none⟩)))) (by kernel_rfl) ?_ (fun hHeld0 => ?_)
  · exact HS2.out.1
  refine tk0 (.pointer (some ⟨w.heap.size + 1, 0, none⟩)) (by kernel_rfl) (by kernel_rfl) (by kernel_rfl) (fun _ _ _ h => h) rfl (fun w hSw => by (try dsimp only at hSw); obtain ⟨q0, q1⟩ := hSw; go_simp) (by assumption) ?_
  try simp only [Act.put, List.setIfInBounds_toArray, List.set_cons_zero, List.set_cons_succ]
  refine tk1 (.pointer (some ⟨w.heap.size + 1, 0, none⟩)) (by kernel_rfl) (by kernel_rfl) (by kernel_rfl) (fun _ _ _ h => h) rfl (fun w hSw => by (try dsimp only at hSw); obtain ⟨q0, q1⟩ := hSw; go_simp) (by assumption) ?_
  try simp only [Act.put, List.setIfInBounds_toArray, List.set_cons_zero, List.set_cons_succ]
  refine tk2 (.pointer (some ⟨w.heap.size + 1, 3, none⟩)) (by kernel_rfl) (by kernel_rfl) (by kernel_rfl) (fun _ _ _ h => h) rfl (fun w hSw => by (try dsimp only at hSw); obtain ⟨q0, q1⟩ := hSw; go_simp) (by assumption) ?_
  try simp only [Act.put, List.setIfInBounds_toArray, List.set_cons_zero, List.set_cons_succ]
  refine tk3 (.pointer (some ⟨ab, ao, none⟩)) (by kernel_rfl) (by kernel_rfl) (by kernel_rfl) (fun _ _ _ h => h) rfl (fun w hSw => by (try dsimp only at hSw); obtain ⟨q0, q1⟩ := hSw; go_simp) (by assumption) ?_
  try simp only [Act.put, List.setIfInBounds_toArray, List.set_cons_zero, List.set_cons_succ]
  refine tk4 (.pointer (some ⟨w.heap.size + 1, 0, none⟩)) (by kernel_rfl) (by kernel_rfl) (by kernel_rfl) (fun _ _ _ h => h) rfl (fun w hSw => by (try dsimp only at hSw); obtain ⟨q0, q1⟩ := hSw; go_simp) (by assumption) ?_
  try simp only [Act.put, List.setIfInBounds_toArray, List.set_cons_zero, List.set_cons_succ]
  refine tk5 (.pointer (some ⟨w.heap.size + 1, 0, none⟩)) (by kernel_rfl) (by kernel_rfl) (by kernel_rfl) (fun _ _ _ h => h) rfl (fun w hSw => by (try dsimp only at hSw); obtain ⟨q0, q1⟩ := hSw; go_simp) (by assumption) ?_
  try simp only [Act.put, List.setIfInBounds_toArray, List.set_cons_zero, List.set_cons_succ]
  refine tk6 (.pointer (some ⟨w.heap.size + 1, 4, none⟩)) (by kernel_rfl) (by kernel_rfl) (by kernel_rfl) (fun _ _ _ h => h) rfl (fun w hSw => by (try dsimp only at hSw); obtain ⟨q0, q1⟩ := hSw; go_simp) (by assumption) ?_
  try simp only [Act.put, List.setIfInBounds_toArray, List.set_cons_zero, List.set_cons_succ]
  refine tk7 (.pointer (some ⟨X, 3, none⟩)) (by kernel_rfl) (by kernel_rfl) (by kernel_rfl) (fun _ _ _ h => h) rfl (fun w hSw => by (try dsimp only at hSw); obtain ⟨q0, q1⟩ := hSw; go_simp) (by assumption) ?_
  try simp only [Act.put, List.setIfInBounds_toArray, List.set_cons_zero, List.set_cons_succ]
  refine tk8 (.pointer (some ⟨w.heap.size + 1, 0, none⟩)) (by kernel_rfl) (by kernel_rfl) (by kernel_rfl) (fun _ _ _ h => h) rfl (fun w hSw => by (try dsimp only at hSw); obtain ⟨q0, q1⟩ := hSw; go_simp) (by assumption) ?_
  try simp only [Act.put, List.setIfInBounds_toArray, List.set_cons_zero, List.set_cons_succ]
  refine tk9 (.pointer (some ⟨w.heap.size + 1, 0, none⟩)) (by kernel_rfl) (by kernel_rfl) (by kernel_rfl) (fun _ _ _ h => h) rfl (fun w hSw => by (try dsimp only at hSw); obtain ⟨q0, q1⟩ := hSw; go_simp) (by assumption) ?_
  try simp only [Act.put, List.setIfInBounds_toArray, List.set_cons_zero, List.set_cons_succ]
  refine tk10 (.pointer (some ⟨ab, ao, none⟩)) (by kernel_rfl) (by kernel_rfl) (by kernel_rfl) (fun _ _ _ h => h) rfl (fun w hSw => by (try dsimp only at hSw); obtain ⟨q0, q1⟩ := hSw; go_simp) (by assumption) ?_
  try simp only [Act.put, List.setIfInBounds_toArray, List.set_cons_zero, List.set_cons_succ]
  refine tk11 (.pointer (some ⟨ab, ao + 4, none⟩)) (by kernel_rfl) (by kernel_rfl) (by kernel_rfl) (fun _ _ _ h => h) rfl (fun w hSw => by (try dsimp only at hSw); obtain ⟨q0, q1⟩ := hSw; go_simp) (by assumption) ?_
  try simp only [Act.put, List.setIfInBounds_toArray, List.set_cons_zero, List.set_cons_succ]
  refine cl12 (by kernel_rfl) rfl (fun K hK => ?_)
  go_simp
  rw [HV1.out]
  refine hK.out _ _ ?_ (fun hHeld => ?_)
  · exact HS2.out.2.1
  clear hK K
  try simp only [Act.put, List.setIfInBounds_toArray, List.set_cons_zero, List.set_cons_succ]
  refine tk13 (.pointer (some ⟨X, 3, none⟩)) (by kernel_rfl) (by kernel_rfl) (by kernel_rfl) (fun _ _ _ h => h) rfl (fun w hSw => by (try dsimp only at hSw); obtain ⟨q0, q1⟩ := hSw; go_simp) (by assumption) ?_
  try simp only [Act.put, List.setIfInBounds_toArray, List.set_cons_zero, List.set_cons_succ]
  refine tk14 (.pointer (some ⟨X, 6, none⟩)) (by kernel_rfl) (by kernel_rfl) (by kernel_rfl) (fun _ _ _ h => h) rfl (fun w hSw => by (try dsimp only at hSw); obtain ⟨q0, q1⟩ := hSw; go_simp) (by assumption) ?_
  try simp only [Act.put, List.setIfInBounds_toArray, List.set_cons_zero, List.set_cons_succ]
  refine cl15 (by kernel_rfl) rfl (fun K hK => ?_)
  go_simp
  rw [HV2.out]
  refine hK.out _ _ ?_ (fun hHeld => ?_)
  · exact HS2.out.2.2
  clear hK K
  try simp only [Act.put, List.setIfInBounds_toArray, List.set_cons_zero, List.set_cons_succ]
  refine wpAnyH_done (by kernel_rfl) ?_ _
  go_upto_region 3 with fail
  refine wp_region_held_drew (S := (fun w' : World => w'.cell? ⟨X, 2, none⟩ = some (.map (some P)) ∧ w'.cell? ⟨w.heap.size, 0, none⟩ = some (.int .i64 x.s))) (by kernel_rfl) ?_ (fun hHeld0 => ?_)
  · exact HS3.out.1
  refine tk0 (.pointer (some ⟨X, 0, none⟩)) (by kernel_rfl) (by kernel_rfl) (by kernel_rfl) (fun _ _ _ h => h) rfl (fun w hSw => by (try dsimp only at hSw); obtain ⟨q0, q1⟩ := hSw; go_simp) (by assumption) ?_
  try simp only [Act.put, List.setIfInBounds_toArray, List.set_cons_zero, List.set_cons_succ]
  refine tk1 (.pointer (some ⟨X, 0, none⟩)) (by kernel_rfl) (by kernel_rfl) (by kernel_rfl) (fun _ _ _ h => h) rfl (fun w hSw => by (try dsimp only at hSw); obtain ⟨q0, q1⟩ := hSw; go_simp) (by assumption) ?_
  try simp only [Act.put, List.setIfInBounds_toArray, List.set_cons_zero, List.set_cons_succ]
  refine tk2 (.pointer (some ⟨X, 2, none⟩)) (by kernel_rfl) (by kernel_rfl) (by kernel_rfl) (fun _ _ _ h => h) rfl (fun w hSw => by (try dsimp only at hSw); obtain ⟨q0, q1⟩ := hSw; go_simp) (by assumption) ?_
  try simp only [Act.put, List.setIfInBounds_toArray, List.set_cons_zero, List.set_cons_succ]
  refine tk3 (.map (some P)) (by kernel_rfl) (by kernel_rfl) (by kernel_rfl) (fun _ _ _ h => h) rfl (fun w hSw => by (try dsimp only at hSw); obtain ⟨q0, q1⟩ := hSw; go_simp) (by assumption) ?_
  try simp only [Act.put, List.setIfInBounds_toArray, List.set_cons_zero, List.set_cons_succ]
  refine tk4 (.pointer (some ⟨w.heap.size, 0, none⟩)) (by kernel_rfl) (by kernel_rfl) (by kernel_rfl) (fun _ _ _ h => h) rfl (fun w hSw => by (try dsimp only at hSw); obtain ⟨q0, q1⟩ := hSw; go_simp) (by assumption) ?_
  try simp only [Act.put, List.setIfInBounds_toArray, List.set_cons_zero, List.set_cons_succ]
  refine tk5 (.int .i64 x.s) (by kernel_rfl) (by kernel_rfl) (by kernel_rfl) (fun _ _ _ h => h) rfl (fun w hSw => by (try dsimp only at hSw); obtain ⟨q0, q1⟩ := hSw; go_simp) (by assumption) ?_
  try simp only [Act.put, List.setIfInBounds_toArray, List.set_cons_zero, List.set_cons_succ]
  refine tk6 (.pointer (some ⟨w.heap.size + 1, 0, none⟩)) (by kernel_rfl) (by kernel_rfl) (by kernel_rfl) (fun _ _ _ h => h) rfl (fun w hSw => by (try dsimp only at hSw); obtain ⟨q0, q1⟩ := hSw; go_simp) (by assumption) ?_
  try simp only [Act.put, List.setIfInBounds_toArray, List.set_cons_zero, List.set_cons_succ]
  refine cl7 (by kernel_rfl) rfl (fun K hK => ?_)
  go_simp
  refine hK.out _ _ ?_ (fun hHeld => ?_)
  · exact HS3.out.2
  clear hK K
  try simp only [Act.put, List.setIfInBounds_toArray, List.set_cons_zero, List.set_cons_succ]
  refine wpAnyH_done (by kernel_rfl) ?_ _
  go_wp2
  go_returns
  exact HE.out
end Go.Proofs.Ytmfadmhbkgemmaa
