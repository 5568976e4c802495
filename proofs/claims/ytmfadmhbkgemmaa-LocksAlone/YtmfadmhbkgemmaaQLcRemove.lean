/-
  Package locks: one that waits taken out of the queue; the first taken out; a session dropped. The condition: it is an int.
-/
import Derived.Test.YtmfadmhbkgemmaaQLcJoin
namespace Go.Proofs.Ytmfadmhbkgemmaa
open Go.RowKit

theorem atS_out {A B : List (Nat × Wq)} {p : Nat × Wq} (hn : ((A ++ p :: B).map (·.2.s)).Nodup) (s : Int) : atS (A ++ B) s = if s = p.2.s then none else atS (A ++ p :: B) s := by
  rw [List.map_append, List.map_cons, List.nodup_append] at hn
  obtain ⟨_, h2, h3⟩ := hn
  rw [List.nodup_cons] at h2
  unfold atS
  by_cases e : s = p.2.s
  · subst e
    rw [if_pos rfl, List.find?_eq_none.2 ?_]
    · rfl
    · intro x hx
      rcases List.mem_append.1 hx with hx | hx
      · have := h3 x.2.s (List.mem_map.2 ⟨x, hx, rfl⟩) p.2.s List.mem_cons_self
        simpa using this
      · have : x.2.s ≠ p.2.s := fun e2 => h2.1 (by rw [← e2]; exact List.mem_map.2 ⟨x, hx, rfl⟩)
        simpa using this
  · rw [if_neg e, List.find?_append, List.find?_append, List.find?_cons]
    have : (p.2.s == s) = false := by simpa using fun e2 : p.2.s = s => e e2.symm
    rw [this]
/-- Where the neighbours lie. -/
theorem adL_own {X : Nat} {L : List (Nat × Wq)} (j : Nat) : (adL X L j).1 = X ∨ (adL X L j).1 ∈ L.map (·.1) := by
  match j with
  | 0 => exact Or.inl rfl
  | j + 1 =>
    cases h : L[j]? with
    | none => exact Or.inl (by simp [adL, h])
    | some p => exact Or.inr (List.mem_map.2 ⟨p, List.mem_of_getElem? h, by simp [adL, h]⟩)
theorem adL_ne {X : Nat} {A B : List (Nat × Wq)} {p : Nat × Wq} (hn : ((A ++ p :: B).map (·.1)).Nodup) (hX : X ∉ (A ++ p :: B).map (·.1)) {j : Nat} (hj : j ≠ A.length + 1) : (adL X (A ++ p :: B) j).1 ≠ p.1 := by
  have hpm : p.1 ∈ (A ++ p :: B).map (·.1) := List.mem_map.2 ⟨p, by simp, rfl⟩
  match j with
  | 0 => exact fun e => hX (by rw [show X = p.1 from e]; exact hpm)
  | j + 1 =>
    cases h : (A ++ p :: B)[j]? with
    | none => exact fun e => hX (by
        have e2 : adL X (A ++ p :: B) (j + 1) = (X, 3) := by simp only [adL, h]
        rw [e2] at e
        rw [show X = p.1 from e]
        exact hpm)
    | some q =>
      intro e
      have e2 : adL X (A ++ p :: B) (j + 1) = (q.1, 0) := by simp only [adL, h]
      rw [e2] at e
      have e : q.1 = p.1 := e
      have hA : (A ++ p :: B)[A.length]? = some p := by simp
      have h1 : j = A.length := by
        obtain ⟨h1, h2⟩ := List.getElem?_eq_some_iff.1 h
        obtain ⟨h3, h4⟩ := List.getElem?_eq_some_iff.1 hA
        have hp := List.pairwise_iff_getElem.1 hn
        rcases Nat.lt_trichotomy j A.length with c | c | c
        · exact absurd (by rw [List.getElem_map, List.getElem_map, h2, h4]; exact e) (hp j A.length (by simpa using h1) (by simp) c)
        · exact c
        · exact absurd (by rw [List.getElem_map, List.getElem_map, h2, h4]; exact e.symm) (hp A.length j (by simp) (by simpa using h1) c)
      omega
set_option maxRecDepth 100000 in
set_option maxHeartbeats 4000000 in
theorem remove_any {w : World} {X : Nat} {S : Nat → Prop} {h : List Int} {wr : Bool} {q : List Wq} (I : LcAt w X S h wr q) {s : Int} (hi : inI s) (hw : waitB q s = true) :
    Calls Try.prog 66 #[bPtr X, .int .i64 s] w (JoinP w X S h wr (lessQ q s)) := by
  obtain ⟨H, P, L, hs, ps, M⟩ := I.ex
  obtain ⟨A, p, B, hL, hps, hat⟩ := atS_split M.sd (by rw [M.ql]; exact hw)
  have hlk := MapOf.look1 mPl_is M.plc hi
  rw [mPl_got, M.lk, hat] at hlk
  change (Instr.lookup _ _ (.int .i64 s) _).run _ _ = .ok (.pointer (some ⟨p.1, 0, none⟩)) w at hlk
  have hq : lessQ q s = (A ++ B).map (·.2) := by
    have hsd := M.sd
    rw [hL] at hsd
    rw [← M.ql, hL]
    exact lessQ_split hsd hps
  have hM := M
  rw [hL] at hM
  obtain ⟨g, x⟩ := p
  obtain ⟨ab, ao, hab⟩ : ∃ ab ao, adL X (A ++ (g, x) :: B) A.length = (ab, ao) := ⟨_, _, rfl⟩
  obtain ⟨zb, zo, hzb⟩ : ∃ zb zo, adL X (A ++ (g, x) :: B) (A.length + 2) = (zb, zo) := ⟨_, _, rfl⟩
  have hout := hM.ring.out
  rw [hab, hzb] at hout
  have hg : g ∈ (A ++ (g, x) :: B).map (·.1) := List.mem_map.2 ⟨(g, x), by simp, rfl⟩
  have nG : w.heap[g]? = some (.cells (lcPA x (ab, ao) (zb, zo)) lcPT (0, 0)) := by
    have := hM.ring.nod A.length (g, x) (by simp)
    rw [show paC X (A ++ (g, x) :: B) (A.length + 1) = adL X (A ++ (g, x) :: B) A.length from rfl, show pbC X (A ++ (g, x) :: B) (A.length + 1) = adL X (A ++ (g, x) :: B) (A.length + 2) from rfl, hab, hzb] at this
    exact this
  have nab : ab ≠ g := by
    have := adL_ne hM.ring.nd hM.ring.nx (j := A.length) (by omega)
    rwa [hab] at this
  have nzb : zb ≠ g := by
    have := adL_ne hM.ring.nd hM.ring.nx (j := A.length + 2) (by omega)
    rwa [hzb] at this
  have oab : ab = X ∨ ab ∈ (A ++ (g, x) :: B).map (·.1) := by
    have := adL_own (X := X) (L := A ++ (g, x) :: B) A.length
    rwa [hab] at this
  have ozb : zb = X ∨ zb ∈ (A ++ (g, x) :: B).map (·.1) := by
    have := adL_own (X := X) (L := A ++ (g, x) :: B) (A.length + 2)
    rwa [hzb] at this
  have own : ∀ b, b = X ∨ b ∈ (A ++ (g, x) :: B).map (·.1) → S b ∧ H ≠ b ∧ P ≠ b := fun b hb => by
    rcases hb with rfl | hb
    · exact ⟨M.inX, M.neH, M.neP⟩
    · exact ⟨hM.inL hb, hM.neHL hb, hM.nePL hb⟩
  obtain ⟨V1, hV1⟩ : ∃ V1, V1 = (w.setCell ⟨ab, ao + 4, none⟩ (.pointer (some ⟨zb, zo, none⟩))).drew := ⟨_, rfl⟩
  obtain ⟨V2, hV2⟩ : ∃ V2, V2 = V1.setCell ⟨zb, zo + 3, none⟩ (.pointer (some ⟨ab, ao, none⟩)) := ⟨_, rfl⟩
  have o1 : ∀ b, b ≠ ab → V1.heap[b]? = w.heap[b]? := fun b hb => by rw [hV1]; exact heap_setCell_other w _ _ _ hb
  have o2 : ∀ b, b ≠ zb → V2.heap[b]? = V1.heap[b]? := fun b hb => by rw [hV2]; exact heap_setCell_other _ _ _ _ hb
  have s2 : V2.heap.size = w.heap.size := by rw [hV2, World.size_setCell, hV1]; show (w.setCell _ _).heap.size = _; rw [World.size_setCell]
  have hr2 : LcC V2 X H wr P (A ++ B) := by
    rw [hV2, hV1]
    exact hout.keep (fun _ _ => rfl)
  have hP2 : V2.heap[P]? = w.heap[P]? := (o2 P (own zb ozb).2.2).trans (o1 P (own ab oab).2.2)
  have hH2 : V2.heap[H]? = w.heap[H]? := (o2 H (own zb ozb).2.1).trans (o1 H (own ab oab).2.1)
  obtain ⟨V3, hdel, hm3, hg3, hz3⟩ := MapOf.del mPl_is (M.plc.keep (w' := V2) hP2) hi 0
  change (Builtin.delete_ _ _ #[_, .int .i64 s]).run _ _ = _ at hdel
  have o3 : ∀ b, b < w.heap.size → b ≠ P → V3.heap[b]? = V2.heap[b]? := fun b hb hne => hg3.block b (by omega) (fun e => hne (Option.some.inj e))
  have hsub : ∀ b, b ∈ (A ++ B).map (·.1) → b ∈ (A ++ (g, x) :: B).map (·.1) := fun b hb => ((List.Sublist.append (List.Sublist.refl A) (List.sublist_cons_self (g, x) B)).map _).subset hb
  have HE0 : JoinP w X S h wr (lessQ q s) (.returned (.tuple #[])) V3 := by
    refine ⟨⟨_, rfl⟩, fun b => b = X ∨ b = H ∨ b = P ∨ b ∈ (A ++ B).map (·.1), ⟨H, P, A ++ B, hs, delM ps s, hr2.keep (fun b hb => ?_), hq.symm, M.hold.keep ((o3 H (M.bd H M.inH) M.ne).trans hH2), M.hp, hm3, fun a => ?_, ?_, fun y hy => M.qi y (List.mem_filter.1 hy).1, M.ne, fun b => Iff.rfl⟩, ?_⟩
    · rcases hb with rfl | hb
      · exact o3 _ (M.bd _ M.inX) M.neP.symm
      · exact o3 _ (M.bd _ (hM.inL (hsub b hb))) (hM.nePL (hsub b hb)).symm
    · rw [lookM_del, M.lk, hL, atS_out (A := A) (B := B) (p := (g, x)) (by rw [← hL]; exact M.sd), ← hps]
    · exact M.qd.sublist (List.filter_sublist.map _)
    · refine ⟨hg3.os.trans (by rw [hV2, hV1]; rfl), hg3.tape.trans (by rw [hV2, hV1]; rfl), hg3.output.trans (by rw [hV2, hV1]; rfl), by have := hg3.size; omega, fun b hb => Or.inl ?_, fun b hb hnb => ?_⟩
      · rcases hb with rfl | rfl | rfl | hb
        · exact M.inX
        · exact M.inH
        · exact M.inP
        · exact hM.inL (hsub b hb)
      · rw [o3 b hb (fun e => hnb (by rw [e]; exact M.inP)), o2 b (fun e => hnb (by rw [e]; exact (own zb ozb).1)), o1 b (fun e => hnb (by rw [e]; exact (own ab oab).1))]
  have HE : Hid _ := HE0
  have nG1 := (o1 g nab.symm).trans nG
  have nG2 := (o2 g nzb.symm).trans nG1
  have HS : Hid ((w.drew.cell? ⟨g, 3, none⟩ = some (.pointer (some ⟨ab, ao, none⟩)) ∧ w.drew.cell? ⟨g, 4, none⟩ = some (.pointer (some ⟨zb, zo, none⟩))) ∧ (V1.cell? ⟨g, 3, none⟩ = some (.pointer (some ⟨ab, ao, none⟩)) ∧ V1.cell? ⟨g, 4, none⟩ = some (.pointer (some ⟨zb, zo, none⟩))) ∧ (V2.cell? ⟨g, 3, none⟩ = some (.pointer (some ⟨ab, ao, none⟩)) ∧ V2.cell? ⟨g, 4, none⟩ = some (.pointer (some ⟨zb, zo, none⟩)))) :=
    (show Hid _ from (⟨⟨show w.cell? _ = _ from by simp [World.cell?, nG], show w.cell? _ = _ from by simp [World.cell?, nG]⟩, ⟨by simp [World.cell?, nG1], by simp [World.cell?, nG1]⟩, ⟨by simp [World.cell?, nG2], by simp [World.cell?, nG2]⟩⟩ : (_ ∧ _) ∧ (_ ∧ _) ∧ (_ ∧ _)))
  have c2 : w.cell? ⟨X, 2, none⟩ = some (.map (some P)) := M.cell 2 _ rfl
  have d2 : V2.cell? ⟨X, 2, none⟩ = some (.map (some P)) := by
    have := hr2.blk
    simp [World.cell?, this]
  have hl1 : (A ++ (g, x) :: B).length = A.length + B.length + 1 := by simp; omega
  obtain ⟨y4, f4⟩ := hM.ring.cellB A.length (by omega)
  rw [hab] at y4 f4
  obtain ⟨u7, y7, f7⟩ : ∃ u, V1.cell? ⟨zb, zo + 3, none⟩ = some u ∧ V1.frozen? ⟨zb, zo + 3, none⟩ = false := by
    have h1 := hM.ring.setB A.length (by omega) (zb, zo)
    rw [hab] at h1
    obtain ⟨j, hj, ej⟩ : ∃ j, j ≤ (A ++ (g, x) :: B).length ∧ adL X (A ++ (g, x) :: B) j = (zb, zo) := by
      by_cases hB : B.length = 0
      · exact ⟨0, Nat.zero_le _, by rw [← hzb, adL_end X _ (show (A ++ (g, x) :: B).length < A.length + 2 by omega)]; rfl⟩
      · exact ⟨A.length + 2, by omega, hzb⟩
    have h2 := h1.cellA j hj
    rw [ej] at h2
    rw [hV1]
    exact ⟨_, h2.1, h2.2⟩
  have HV1 : Hid ((w.setCell ⟨ab, ao + 4, none⟩ (.pointer (some ⟨zb, zo, none⟩))).drew = V1) := hV1.symm
  have HV2 : Hid (V1.setCell ⟨zb, zo + 3, none⟩ (.pointer (some ⟨ab, ao, none⟩)) = V2) := hV2.symm
  clear M I hi hw hM hL hps hat hq hab hzb hout hg nG nab nzb oab ozb own hV1 hV2 o1 o2 s2 hr2 hP2 hH2 hm3 hg3 hz3 o3 hsub HE0 nG1 nG2 hl1
  go_enter Try.func66, Try.ntmps66
  go_upto_region 1 with fail
  refine wp_region_held_drew (S := (fun w' : World => w'.cell? ⟨g, 3, none⟩ = some (.pointer (some ⟨ab, ao, none⟩)) ∧ w'.cell? ⟨g, 4, none⟩ = some (.pointer (some ⟨zb, zo, none⟩)))) (by kernel_rfl) ?_ (fun hHeld0 => ?_)
  · exact HS.out.1
  refine tk0 (.pointer (some ⟨g, 0, none⟩)) (by kernel_rfl) (by kernel_rfl) (by kernel_rfl) (fun _ _ _ h => h) rfl (fun w hSw => by (try dsimp only at hSw); obtain ⟨q0, q1⟩ := hSw; go_simp) (by assumption) ?_
  try simp only [Act.put, List.setIfInBounds_toArray, List.set_cons_zero, List.set_cons_succ]
  refine tk1 (.pointer (some ⟨g, 0, none⟩)) (by kernel_rfl) (by kernel_rfl) (by kernel_rfl) (fun _ _ _ h => h) rfl (fun w hSw => by (try dsimp only at hSw); obtain ⟨q0, q1⟩ := hSw; go_simp) (by assumption) ?_
  try simp only [Act.put, List.setIfInBounds_toArray, List.set_cons_zero, List.set_cons_succ]
  refine tk2 (.pointer (some ⟨g, 3, none⟩)) (by kernel_rfl) (by kernel_rfl) (by kernel_rfl) (fun _ _ _ h => h) rfl (fun w hSw => by (try dsimp only at hSw); obtain ⟨q0, q1⟩ := hSw; go_simp) (by assumption) ?_
  try simp only [Act.put, List.setIfInBounds_toArray, List.set_cons_zero, List.set_cons_succ]
  refine tk3 (.pointer (some ⟨ab, ao, none⟩)) (by kernel_rfl) (by kernel_rfl) (by kernel_rfl) (fun _ _ _ h => h) rfl (fun w hSw => by (try dsimp only at hSw); obtain ⟨q0, q1⟩ := hSw; go_simp) (by assumption) ?_
  try simp only [Act.put, List.setIfInBounds_toArray, List.set_cons_zero, List.set_cons_succ]
  refine tk4 (.pointer (some ⟨g, 0, none⟩)) (by kernel_rfl) (by kernel_rfl) (by kernel_rfl) (fun _ _ _ h => h) rfl (fun w hSw => by (try dsimp only at hSw); obtain ⟨q0, q1⟩ := hSw; go_simp) (by assumption) ?_
  try simp only [Act.put, List.setIfInBounds_toArray, List.set_cons_zero, List.set_cons_succ]
  refine tk5 (.pointer (some ⟨g, 0, none⟩)) (by kernel_rfl) (by kernel_rfl) (by kernel_rfl) (fun _ _ _ h => h) rfl (fun w hSw => by (try dsimp only at hSw); obtain ⟨q0, q1⟩ := hSw; go_simp) (by assumption) ?_
  try simp only [Act.put, List.setIfInBounds_toArray, List.set_cons_zero, List.set_cons_succ]
  refine tk6 (.pointer (some ⟨g, 4, none⟩)) (by kernel_rfl) (by kernel_rfl) (by kernel_rfl) (fun _ _ _ h => h) rfl (fun w hSw => by (try dsimp only at hSw); obtain ⟨q0, q1⟩ := hSw; go_simp) (by assumption) ?_
  try simp only [Act.put, List.setIfInBounds_toArray, List.set_cons_zero, List.set_cons_succ]
  refine tk7 (.pointer (some ⟨zb, zo, none⟩)) (by kernel_rfl) (by kernel_rfl) (by kernel_rfl) (fun _ _ _ h => h) rfl (fun w hSw => by (try dsimp only at hSw); obtain ⟨q0, q1⟩ := hSw; go_simp) (by assumption) ?_
  try simp only [Act.put, List.setIfInBounds_toArray, List.set_cons_zero, List.set_cons_succ]
  refine tk8 (.pointer (some ⟨g, 0, none⟩)) (by kernel_rfl) (by kernel_rfl) (by kernel_rfl) (fun _ _ _ h => h) rfl (fun w hSw => by (try dsimp only at hSw); obtain ⟨q0, q1⟩ := hSw; go_simp) (by assumption) ?_
  try simp only [Act.put, List.setIfInBounds_toArray, List.set_cons_zero, List.set_cons_succ]
  refine tk9 (.pointer (some ⟨g, 0, none⟩)) (by kernel_rfl) (by kernel_rfl) (by kernel_rfl) (fun _ _ _ h => h) rfl (fun w hSw => by (try dsimp only at hSw); obtain ⟨q0, q1⟩ := hSw; go_simp) (by assumption) ?_
  try simp only [Act.put, List.setIfInBounds_toArray, List.set_cons_zero, List.set_cons_succ]
  refine tk10 (.pointer (some ⟨g, 4, none⟩)) (by kernel_rfl) (by kernel_rfl) (by kernel_rfl) (fun _ _ _ h => h) rfl (fun w hSw => by (try dsimp only at hSw); obtain ⟨q0, q1⟩ := hSw; go_simp) (by assumption) ?_
  try simp only [Act.put, List.setIfInBounds_toArray, List.set_cons_zero, List.set_cons_succ]
  refine tk11 (.pointer (some ⟨zb, zo, none⟩)) (by kernel_rfl) (by kernel_rfl) (by kernel_rfl) (fun _ _ _ h => h) rfl (fun w hSw => by (try dsimp only at hSw); obtain ⟨q0, q1⟩ := hSw; go_simp) (by assumption) ?_
  try simp only [Act.put, List.setIfInBounds_toArray, List.set_cons_zero, List.set_cons_succ]
  refine tk12 (.pointer (some ⟨g, 0, none⟩)) (by kernel_rfl) (by kernel_rfl) (by kernel_rfl) (fun _ _ _ h => h) rfl (fun w hSw => by (try dsimp only at hSw); obtain ⟨q0, q1⟩ := hSw; go_simp) (by assumption) ?_
  try simp only [Act.put, List.setIfInBounds_toArray, List.set_cons_zero, List.set_cons_succ]
  refine tk13 (.pointer (some ⟨g, 0, none⟩)) (by kernel_rfl) (by kernel_rfl) (by kernel_rfl) (fun _ _ _ h => h) rfl (fun w hSw => by (try dsimp only at hSw); obtain ⟨q0, q1⟩ := hSw; go_simp) (by assumption) ?_
  try simp only [Act.put, List.setIfInBounds_toArray, List.set_cons_zero, List.set_cons_succ]
  refine tk14 (.pointer (some ⟨g, 3, none⟩)) (by kernel_rfl) (by kernel_rfl) (by kernel_rfl) (fun _ _ _ h => h) rfl (fun w hSw => by (try dsimp only at hSw); obtain ⟨q0, q1⟩ := hSw; go_simp) (by assumption) ?_
  try simp only [Act.put, List.setIfInBounds_toArray, List.set_cons_zero, List.set_cons_succ]
  refine tk15 (.pointer (some ⟨ab, ao, none⟩)) (by kernel_rfl) (by kernel_rfl) (by kernel_rfl) (fun _ _ _ h => h) rfl (fun w hSw => by (try dsimp only at hSw); obtain ⟨q0, q1⟩ := hSw; go_simp) (by assumption) ?_
  try simp only [Act.put, List.setIfInBounds_toArray, List.set_cons_zero, List.set_cons_succ]
  refine tk16 (.pointer (some ⟨ab, ao, none⟩)) (by kernel_rfl) (by kernel_rfl) (by kernel_rfl) (fun _ _ _ h => h) rfl (fun w hSw => by (try dsimp only at hSw); obtain ⟨q0, q1⟩ := hSw; go_simp) (by assumption) ?_
  try simp only [Act.put, List.setIfInBounds_toArray, List.set_cons_zero, List.set_cons_succ]
  refine tk17 (.pointer (some ⟨ab, ao + 4, none⟩)) (by kernel_rfl) (by kernel_rfl) (by kernel_rfl) (fun _ _ _ h => h) rfl (fun w hSw => by (try dsimp only at hSw); obtain ⟨q0, q1⟩ := hSw; go_simp) (by assumption) ?_
  try simp only [Act.put, List.setIfInBounds_toArray, List.set_cons_zero, List.set_cons_succ]
  refine cl18 (by kernel_rfl) rfl (fun K hK => ?_)
  go_simp
  rw [HV1.out]
  refine hK.out _ _ ?_ (fun hHeld => ?_)
  · exact HS.out.2.1
  clear hK K
  try simp only [Act.put, List.setIfInBounds_toArray, List.set_cons_zero, List.set_cons_succ]
  refine tk19 (.pointer (some ⟨zb, zo, none⟩)) (by kernel_rfl) (by kernel_rfl) (by kernel_rfl) (fun _ _ _ h => h) rfl (fun w hSw => by (try dsimp only at hSw); obtain ⟨q0, q1⟩ := hSw; go_simp) (by assumption) ?_
  try simp only [Act.put, List.setIfInBounds_toArray, List.set_cons_zero, List.set_cons_succ]
  refine tk20 (.pointer (some ⟨zb, zo + 3, none⟩)) (by kernel_rfl) (by kernel_rfl) (by kernel_rfl) (fun _ _ _ h => h) rfl (fun w hSw => by (try dsimp only at hSw); obtain ⟨q0, q1⟩ := hSw; go_simp) (by assumption) ?_
  try simp only [Act.put, List.setIfInBounds_toArray, List.set_cons_zero, List.set_cons_succ]
  refine cl21 (by kernel_rfl) rfl (fun K hK => ?_)
  go_simp
  rw [HV2.out]
  refine hK.out _ _ ?_ (fun hHeld => ?_)
  · exact HS.out.2.2
  clear hK K
  try simp only [Act.put, List.setIfInBounds_toArray, List.set_cons_zero, List.set_cons_succ]
  refine wpAnyH_done (by kernel_rfl) ?_ _
  go_wp2
  go_returns
  exact HE.out
end Go.Proofs.Ytmfadmhbkgemmaa
