/-
  Parts of the proof, laid together: RTake. The conditions stand at each part.
-/
import Derived.Deep.RegionHeld3
/-
  Walking a region that draws its order by hand: the operation at each place, taken first or passed over. No condition.
-/
namespace Go.Proofs.Ytnoappklbipdhaa
open Go

section
variable {P : Program} {md : Region.Mode} {Q : Exit → Act → World → Prop} {S : World → Prop} {fuel : Nat} {listed : Array Bool} {a : Act} {w : World} {v : Value} {l : List Oper}
theorem tk0 {o0 : Oper} (v : Value) (hs : Region.noSelect (o0 :: l).toArray = true) (hf : Region.free md (o0 :: l).toArray listed 0 = true) (hr : (Region.ready md (o0 :: l).toArray listed).contains 0 = true)
    (hQ : ∀ c a w, Q (.panic c) (a.put o0.dst v) w → Q (.panic c) a w) (hw : Region.wanted o0 (yielded (o0 :: l).toArray a.tmps) = true) (hy : ∀ w, S w → (execOp a.eval o0).run P w = .ok (.value v) w) (hS : S w)
    (h : wpAnyH P md (o0 :: l).toArray Q S fuel (listed.setIfInBounds 0 true) (a.put o0.dst v) w) : wpAnyH P md (o0 :: l).toArray Q S (fuel + 1) listed a w :=
  wpAnyH_take rfl hs hf hr hQ (Or.inl ⟨hw, hy⟩) hS h
theorem tk1 {o0 o1 : Oper} (v : Value) (hs : Region.noSelect (o0 :: o1 :: l).toArray = true) (hf : Region.free md (o0 :: o1 :: l).toArray listed 1 = true) (hr : (Region.ready md (o0 :: o1 :: l).toArray listed).contains 1 = true)
    (hQ : ∀ c a w, Q (.panic c) (a.put o1.dst v) w → Q (.panic c) a w) (hw : Region.wanted o1 (yielded (o0 :: o1 :: l).toArray a.tmps) = true) (hy : ∀ w, S w → (execOp a.eval o1).run P w = .ok (.value v) w) (hS : S w)
    (h : wpAnyH P md (o0 :: o1 :: l).toArray Q S fuel (listed.setIfInBounds 1 true) (a.put o1.dst v) w) : wpAnyH P md (o0 :: o1 :: l).toArray Q S (fuel + 1) listed a w :=
  wpAnyH_take rfl hs hf hr hQ (Or.inl ⟨hw, hy⟩) hS h
theorem tk2 {o0 o1 o2 : Oper} (v : Value) (hs : Region.noSelect (o0 :: o1 :: o2 :: l).toArray = true) (hf : Region.free md (o0 :: o1 :: o2 :: l).toArray listed 2 = true) (hr : (Region.ready md (o0 :: o1 :: o2 :: l).toArray listed).contains 2 = true)
    (hQ : ∀ c a w, Q (.panic c) (a.put o2.dst v) w → Q (.panic c) a w) (hw : Region.wanted o2 (yielded (o0 :: o1 :: o2 :: l).toArray a.tmps) = true) (hy : ∀ w, S w → (execOp a.eval o2).run P w = .ok (.value v) w) (hS : S w)
    (h : wpAnyH P md (o0 :: o1 :: o2 :: l).toArray Q S fuel (listed.setIfInBounds 2 true) (a.put o2.dst v) w) : wpAnyH P md (o0 :: o1 :: o2 :: l).toArray Q S (fuel + 1) listed a w :=
  wpAnyH_take rfl hs hf hr hQ (Or.inl ⟨hw, hy⟩) hS h
theorem cl2 {o0 o1 o2 : Oper} (hr : Region.ready md (o0 :: o1 :: o2 :: l).toArray listed = [2]) (hw : Region.wanted o2 (yielded (o0 :: o1 :: o2 :: l).toArray a.tmps) = true)
    (h : ∀ K' : Act → World → Prop, Shut (∀ a w, S w → (S w → wpAnyH P md (o0 :: o1 :: o2 :: l).toArray Q S fuel (listed.setIfInBounds 2 true) a w) → K' a w) → Oper.wp P o2 a w K' Q) : wpAnyH P md (o0 :: o1 :: o2 :: l).toArray Q S (fuel + 1) listed a w :=
  wpAnyH_ready hr (by simp) (AllReadyH.cons (o := o2) rfl (fun K hK => by rw [if_pos hw]; exact h K hK) AllReadyH.nil)
theorem tk3 {o0 o1 o2 o3 : Oper} (v : Value) (hs : Region.noSelect (o0 :: o1 :: o2 :: o3 :: l).toArray = true) (hf : Region.free md (o0 :: o1 :: o2 :: o3 :: l).toArray listed 3 = true) (hr : (Region.ready md (o0 :: o1 :: o2 :: o3 :: l).toArray listed).contains 3 = true)
    (hQ : ∀ c a w, Q (.panic c) (a.put o3.dst v) w → Q (.panic c) a w) (hw : Region.wanted o3 (yielded (o0 :: o1 :: o2 :: o3 :: l).toArray a.tmps) = true) (hy : ∀ w, S w → (execOp a.eval o3).run P w = .ok (.value v) w) (hS : S w)
    (h : wpAnyH P md (o0 :: o1 :: o2 :: o3 :: l).toArray Q S fuel (listed.setIfInBounds 3 true) (a.put o3.dst v) w) : wpAnyH P md (o0 :: o1 :: o2 :: o3 :: l).toArray Q S (fuel + 1) listed a w :=
  wpAnyH_take rfl hs hf hr hQ (Or.inl ⟨hw, hy⟩) hS h
theorem cl3 {o0 o1 o2 o3 : Oper} (hr : Region.ready md (o0 :: o1 :: o2 :: o3 :: l).toArray listed = [3]) (hw : Region.wanted o3 (yielded (o0 :: o1 :: o2 :: o3 :: l).toArray a.tmps) = true)
    (h : ∀ K' : Act → World → Prop, Shut (∀ a w, S w → (S w → wpAnyH P md (o0 :: o1 :: o2 :: o3 :: l).toArray Q S fuel (listed.setIfInBounds 3 true) a w) → K' a w) → Oper.wp P o3 a w K' Q) : wpAnyH P md (o0 :: o1 :: o2 :: o3 :: l).toArray Q S (fuel + 1) listed a w :=
  wpAnyH_ready hr (by simp) (AllReadyH.cons (o := o3) rfl (fun K hK => by rw [if_pos hw]; exact h K hK) AllReadyH.nil)
theorem tk4 {o0 o1 o2 o3 o4 : Oper} (v : Value) (hs : Region.noSelect (o0 :: o1 :: o2 :: o3 :: o4 :: l).toArray = true) (hf : Region.free md (o0 :: o1 :: o2 :: o3 :: o4 :: l).toArray listed 4 = true) (hr : (Region.ready md (o0 :: o1 :: o2 :: o3 :: o4 :: l).toArray listed).contains 4 = true)
    (hQ : ∀ c a w, Q (.panic c) (a.put o4.dst v) w → Q (.panic c) a w) (hw : Region.wanted o4 (yielded (o0 :: o1 :: o2 :: o3 :: o4 :: l).toArray a.tmps) = true) (hy : ∀ w, S w → (execOp a.eval o4).run P w = .ok (.value v) w) (hS : S w)
    (h : wpAnyH P md (o0 :: o1 :: o2 :: o3 :: o4 :: l).toArray Q S fuel (listed.setIfInBounds 4 true) (a.put o4.dst v) w) : wpAnyH P md (o0 :: o1 :: o2 :: o3 :: o4 :: l).toArray Q S (fuel + 1) listed a w :=
  wpAnyH_take rfl hs hf hr hQ (Or.inl ⟨hw, hy⟩) hS h
theorem tk5 {o0 o1 o2 o3 o4 o5 : Oper} (v : Value) (hs : Region.noSelect (o0 :: o1 :: o2 :: o3 :: o4 :: o5 :: l).toArray = true) (hf : Region.free md (o0 :: o1 :: o2 :: o3 :: o4 :: o5 :: l).toArray listed 5 = true) (hr : (Region.ready md (o0 :: o1 :: o2 :: o3 :: o4 :: o5 :: l).toArray listed).contains 5 = true)
    (hQ : ∀ c a w, Q (.panic c) (a.put o5.dst v) w → Q (.panic c) a w) (hw : Region.wanted o5 (yielded (o0 :: o1 :: o2 :: o3 :: o4 :: o5 :: l).toArray a.tmps) = true) (hy : ∀ w, S w → (execOp a.eval o5).run P w = .ok (.value v) w) (hS : S w)
    (h : wpAnyH P md (o0 :: o1 :: o2 :: o3 :: o4 :: o5 :: l).toArray Q S fuel (listed.setIfInBounds 5 true) (a.put o5.dst v) w) : wpAnyH P md (o0 :: o1 :: o2 :: o3 :: o4 :: o5 :: l).toArray Q S (fuel + 1) listed a w :=
  wpAnyH_take rfl hs hf hr hQ (Or.inl ⟨hw, hy⟩) hS h
theorem tk6 {o0 o1 o2 o3 o4 o5 o6 : Oper} (v : Value) (hs : Region.noSelect (o0 :: o1 :: o2 :: o3 :: o4 :: o5 :: o6 :: l).toArray = true) (hf : Region.free md (o0 :: o1 :: o2 :: o3 :: o4 :: o5 :: o6 :: l).toArray listed 6 = true) (hr : (Region.ready md (o0 :: o1 :: o2 :: o3 :: o4 :: o5 :: o6 :: l).toArray listed).contains 6 = true)
    (hQ : ∀ c a w, Q (.panic c) (a.put o6.dst v) w → Q (.panic c) a w) (hw : Region.wanted o6 (yielded (o0 :: o1 :: o2 :: o3 :: o4 :: o5 :: o6 :: l).toArray a.tmps) = true) (hy : ∀ w, S w → (execOp a.eval o6).run P w = .ok (.value v) w) (hS : S w)
    (h : wpAnyH P md (o0 :: o1 :: o2 :: o3 :: o4 :: o5 :: o6 :: l).toArray Q S fuel (listed.setIfInBounds 6 true) (a.put o6.dst v) w) : wpAnyH P md (o0 :: o1 :: o2 :: o3 :: o4 :: o5 :: o6 :: l).toArray Q S (fuel + 1) listed a w :=
  wpAnyH_take rfl hs hf hr hQ (Or.inl ⟨hw, hy⟩) hS h
theorem tk7 {o0 o1 o2 o3 o4 o5 o6 o7 : Oper} (v : Value) (hs : Region.noSelect (o0 :: o1 :: o2 :: o3 :: o4 :: o5 :: o6 :: o7 :: l).toArray = true) (hf : Region.free md (o0 :: o1 :: o2 :: o3 :: o4 :: o5 :: o6 :: o7 :: l).toArray listed 7 = true) (hr : (Region.ready md (o0 :: o1 :: o2 :: o3 :: o4 :: o5 :: o6 :: o7 :: l).toArray listed).contains 7 = true)
    (hQ : ∀ c a w, Q (.panic c) (a.put o7.dst v) w → Q (.panic c) a w) (hw : Region.wanted o7 (yielded (o0 :: o1 :: o2 :: o3 :: o4 :: o5 :: o6 :: o7 :: l).toArray a.tmps) = true) (hy : ∀ w, S w → (execOp a.eval o7).run P w = .ok (.value v) w) (hS : S w)
    (h : wpAnyH P md (o0 :: o1 :: o2 :: o3 :: o4 :: o5 :: o6 :: o7 :: l).toArray Q S fuel (listed.setIfInBounds 7 true) (a.put o7.dst v) w) : wpAnyH P md (o0 :: o1 :: o2 :: o3 :: o4 :: o5 :: o6 :: o7 :: l).toArray Q S (fuel + 1) listed a w :=
  wpAnyH_take rfl hs hf hr hQ (Or.inl ⟨hw, hy⟩) hS h
theorem cl7 {o0 o1 o2 o3 o4 o5 o6 o7 : Oper} (hr : Region.ready md (o0 :: o1 :: o2 :: o3 :: o4 :: o5 :: o6 :: o7 :: l).toArray listed = [7]) (hw : Region.wanted o7 (yielded (o0 :: o1 :: o2 :: o3 :: o4 :: o5 :: o6 :: o7 :: l).toArray a.tmps) = true)
    (h : ∀ K' : Act → World → Prop, Shut (∀ a w, S w → (S w → wpAnyH P md (o0 :: o1 :: o2 :: o3 :: o4 :: o5 :: o6 :: o7 :: l).toArray Q S fuel (listed.setIfInBounds 7 true) a w) → K' a w) → Oper.wp P o7 a w K' Q) : wpAnyH P md (o0 :: o1 :: o2 :: o3 :: o4 :: o5 :: o6 :: o7 :: l).toArray Q S (fuel + 1) listed a w :=
  wpAnyH_ready hr (by simp) (AllReadyH.cons (o := o7) rfl (fun K hK => by rw [if_pos hw]; exact h K hK) AllReadyH.nil)
theorem tk8 {o0 o1 o2 o3 o4 o5 o6 o7 o8 : Oper} (v : Value) (hs : Region.noSelect (o0 :: o1 :: o2 :: o3 :: o4 :: o5 :: o6 :: o7 :: o8 :: l).toArray = true) (hf : Region.free md (o0 :: o1 :: o2 :: o3 :: o4 :: o5 :: o6 :: o7 :: o8 :: l).toArray listed 8 = true) (hr : (Region.ready md (o0 :: o1 :: o2 :: o3 :: o4 :: o5 :: o6 :: o7 :: o8 :: l).toArray listed).contains 8 = true)
    (hQ : ∀ c a w, Q (.panic c) (a.put o8.dst v) w → Q (.panic c) a w) (hw : Region.wanted o8 (yielded (o0 :: o1 :: o2 :: o3 :: o4 :: o5 :: o6 :: o7 :: o8 :: l).toArray a.tmps) = true) (hy : ∀ w, S w → (execOp a.eval o8).run P w = .ok (.value v) w) (hS : S w)
    (h : wpAnyH P md (o0 :: o1 :: o2 :: o3 :: o4 :: o5 :: o6 :: o7 :: o8 :: l).toArray Q S fuel (listed.setIfInBounds 8 true) (a.put o8.dst v) w) : wpAnyH P md (o0 :: o1 :: o2 :: o3 :: o4 :: o5 :: o6 :: o7 :: o8 :: l).toArray Q S (fuel + 1) listed a w :=
  wpAnyH_take rfl hs hf hr hQ (Or.inl ⟨hw, hy⟩) hS h
theorem cl8 {o0 o1 o2 o3 o4 o5 o6 o7 o8 : Oper} (hr : Region.ready md (o0 :: o1 :: o2 :: o3 :: o4 :: o5 :: o6 :: o7 :: o8 :: l).toArray listed = [8]) (hw : Region.wanted o8 (yielded (o0 :: o1 :: o2 :: o3 :: o4 :: o5 :: o6 :: o7 :: o8 :: l).toArray a.tmps) = true)
    (h : ∀ K' : Act → World → Prop, Shut (∀ a w, S w → (S w → wpAnyH P md (o0 :: o1 :: o2 :: o3 :: o4 :: o5 :: o6 :: o7 :: o8 :: l).toArray Q S fuel (listed.setIfInBounds 8 true) a w) → K' a w) → Oper.wp P o8 a w K' Q) : wpAnyH P md (o0 :: o1 :: o2 :: o3 :: o4 :: o5 :: o6 :: o7 :: o8 :: l).toArray Q S (fuel + 1) listed a w :=
  wpAnyH_ready hr (by simp) (AllReadyH.cons (o := o8) rfl (fun K hK => by rw [if_pos hw]; exact h K hK) AllReadyH.nil)
theorem tk9 {o0 o1 o2 o3 o4 o5 o6 o7 o8 o9 : Oper} (v : Value) (hs : Region.noSelect (o0 :: o1 :: o2 :: o3 :: o4 :: o5 :: o6 :: o7 :: o8 :: o9 :: l).toArray = true) (hf : Region.free md (o0 :: o1 :: o2 :: o3 :: o4 :: o5 :: o6 :: o7 :: o8 :: o9 :: l).toArray listed 9 = true) (hr : (Region.ready md (o0 :: o1 :: o2 :: o3 :: o4 :: o5 :: o6 :: o7 :: o8 :: o9 :: l).toArray listed).contains 9 = true)
    (hQ : ∀ c a w, Q (.panic c) (a.put o9.dst v) w → Q (.panic c) a w) (hw : Region.wanted o9 (yielded (o0 :: o1 :: o2 :: o3 :: o4 :: o5 :: o6 :: o7 :: o8 :: o9 :: l).toArray a.tmps) = true) (hy : ∀ w, S w → (execOp a.eval o9).run P w = .ok (.value v) w) (hS : S w)
    (h : wpAnyH P md (o0 :: o1 :: o2 :: o3 :: o4 :: o5 :: o6 :: o7 :: o8 :: o9 :: l).toArray Q S fuel (listed.setIfInBounds 9 true) (a.put o9.dst v) w) : wpAnyH P md (o0 :: o1 :: o2 :: o3 :: o4 :: o5 :: o6 :: o7 :: o8 :: o9 :: l).toArray Q S (fuel + 1) listed a w :=
  wpAnyH_take rfl hs hf hr hQ (Or.inl ⟨hw, hy⟩) hS h
theorem cl10 {o0 o1 o2 o3 o4 o5 o6 o7 o8 o9 o10 : Oper} (hr : Region.ready md (o0 :: o1 :: o2 :: o3 :: o4 :: o5 :: o6 :: o7 :: o8 :: o9 :: o10 :: l).toArray listed = [10]) (hw : Region.wanted o10 (yielded (o0 :: o1 :: o2 :: o3 :: o4 :: o5 :: o6 :: o7 :: o8 :: o9 :: o10 :: l).toArray a.tmps) = true)
    (h : ∀ K' : Act → World → Prop, Shut (∀ a w, S w → (S w → wpAnyH P md (o0 :: o1 :: o2 :: o3 :: o4 :: o5 :: o6 :: o7 :: o8 :: o9 :: o10 :: l).toArray Q S fuel (listed.setIfInBounds 10 true) a w) → K' a w) → Oper.wp P o10 a w K' Q) : wpAnyH P md (o0 :: o1 :: o2 :: o3 :: o4 :: o5 :: o6 :: o7 :: o8 :: o9 :: o10 :: l).toArray Q S (fuel + 1) listed a w :=
  wpAnyH_ready hr (by simp) (AllReadyH.cons (o := o10) rfl (fun K hK => by rw [if_pos hw]; exact h K hK) AllReadyH.nil)
theorem cl11 {o0 o1 o2 o3 o4 o5 o6 o7 o8 o9 o10 o11 : Oper} (hr : Region.ready md (o0 :: o1 :: o2 :: o3 :: o4 :: o5 :: o6 :: o7 :: o8 :: o9 :: o10 :: o11 :: l).toArray listed = [11]) (hw : Region.wanted o11 (yielded (o0 :: o1 :: o2 :: o3 :: o4 :: o5 :: o6 :: o7 :: o8 :: o9 :: o10 :: o11 :: l).toArray a.tmps) = true)
    (h : ∀ K' : Act → World → Prop, Shut (∀ a w, S w → (S w → wpAnyH P md (o0 :: o1 :: o2 :: o3 :: o4 :: o5 :: o6 :: o7 :: o8 :: o9 :: o10 :: o11 :: l).toArray Q S fuel (listed.setIfInBounds 11 true) a w) → K' a w) → Oper.wp P o11 a w K' Q) : wpAnyH P md (o0 :: o1 :: o2 :: o3 :: o4 :: o5 :: o6 :: o7 :: o8 :: o9 :: o10 :: o11 :: l).toArray Q S (fuel + 1) listed a w :=
  wpAnyH_ready hr (by simp) (AllReadyH.cons (o := o11) rfl (fun K hK => by rw [if_pos hw]; exact h K hK) AllReadyH.nil)
theorem cl12 {o0 o1 o2 o3 o4 o5 o6 o7 o8 o9 o10 o11 o12 : Oper} (hr : Region.ready md (o0 :: o1 :: o2 :: o3 :: o4 :: o5 :: o6 :: o7 :: o8 :: o9 :: o10 :: o11 :: o12 :: l).toArray listed = [12]) (hw : Region.wanted o12 (yielded (o0 :: o1 :: o2 :: o3 :: o4 :: o5 :: o6 :: o7 :: o8 :: o9 :: o10 :: o11 :: o12 :: l).toArray a.tmps) = true)
    (h : ∀ K' : Act → World → Prop, Shut (∀ a w, S w → (S w → wpAnyH P md (o0 :: o1 :: o2 :: o3 :: o4 :: o5 :: o6 :: o7 :: o8 :: o9 :: o10 :: o11 :: o12 :: l).toArray Q S fuel (listed.setIfInBounds 12 true) a w) → K' a w) → Oper.wp P o12 a w K' Q) : wpAnyH P md (o0 :: o1 :: o2 :: o3 :: o4 :: o5 :: o6 :: o7 :: o8 :: o9 :: o10 :: o11 :: o12 :: l).toArray Q S (fuel + 1) listed a w :=
  wpAnyH_ready hr (by simp) (AllReadyH.cons (o := o12) rfl (fun K hK => by rw [if_pos hw]; exact h K hK) AllReadyH.nil)
end
end Go.Proofs.Ytnoappklbipdhaa
