/-
  Package acceptor: an entry put into its place. The conditions: at most 2^29 entries, which rise; at most 1000 records; a name has at most 2^48 bytes.
-/
import Derived.Test.YtkngpfngfmbmjaaYAcRecs
import Derived.Test.YtkngpfngfmbmjaaYPack7
namespace Go.Proofs.Ytkngpfngfmbmjaa
open Go.Shelf Go.RowKit Go.Lib Go.Sort

section
variable {P : Program} {md : Region.Mode} {Q : Exit → Act → World → Prop} {S : World → Prop} {fuel : Nat} {listed : Array Bool} {a : Act} {w : World} {l : List Oper}
theorem rd5_8 {o0 o1 o2 o3 o4 o5 o6 o7 o8 : Oper} (hr : Region.ready md (o0 :: o1 :: o2 :: o3 :: o4 :: o5 :: o6 :: o7 :: o8 :: l).toArray listed = [5, 8]) (hw0 : Region.wanted o5 (yielded (o0 :: o1 :: o2 :: o3 :: o4 :: o5 :: o6 :: o7 :: o8 :: l).toArray a.tmps) = true) (hw1 : Region.wanted o8 (yielded (o0 :: o1 :: o2 :: o3 :: o4 :: o5 :: o6 :: o7 :: o8 :: l).toArray a.tmps) = true)
    (h0 : ∀ K' : Act → World → Prop, Shut (∀ a w, S w → (S w → wpAnyH P md (o0 :: o1 :: o2 :: o3 :: o4 :: o5 :: o6 :: o7 :: o8 :: l).toArray Q S fuel (listed.setIfInBounds 5 true) a w) → K' a w) → Oper.wp P o5 a w K' Q)
    (h1 : ∀ K' : Act → World → Prop, Shut (∀ a w, S w → (S w → wpAnyH P md (o0 :: o1 :: o2 :: o3 :: o4 :: o5 :: o6 :: o7 :: o8 :: l).toArray Q S fuel (listed.setIfInBounds 8 true) a w) → K' a w) → Oper.wp P o8 a w K' Q) : wpAnyH P md (o0 :: o1 :: o2 :: o3 :: o4 :: o5 :: o6 :: o7 :: o8 :: l).toArray Q S (fuel + 1) listed a w :=
  wpAnyH_ready hr (by simp) (AllReadyH.cons (o := o5) rfl (fun K hK => by rw [if_pos hw0]; exact h0 K hK) (AllReadyH.cons (o := o8) rfl (fun K hK => by rw [if_pos hw1]; exact h1 K hK) AllReadyH.nil))
theorem rd5_9 {o0 o1 o2 o3 o4 o5 o6 o7 o8 o9 : Oper} (hr : Region.ready md (o0 :: o1 :: o2 :: o3 :: o4 :: o5 :: o6 :: o7 :: o8 :: o9 :: l).toArray listed = [5, 9]) (hw0 : Region.wanted o5 (yielded (o0 :: o1 :: o2 :: o3 :: o4 :: o5 :: o6 :: o7 :: o8 :: o9 :: l).toArray a.tmps) = true) (hw1 : Region.wanted o9 (yielded (o0 :: o1 :: o2 :: o3 :: o4 :: o5 :: o6 :: o7 :: o8 :: o9 :: l).toArray a.tmps) = true)
    (h0 : ∀ K' : Act → World → Prop, Shut (∀ a w, S w → (S w → wpAnyH P md (o0 :: o1 :: o2 :: o3 :: o4 :: o5 :: o6 :: o7 :: o8 :: o9 :: l).toArray Q S fuel (listed.setIfInBounds 5 true) a w) → K' a w) → Oper.wp P o5 a w K' Q)
    (h1 : ∀ K' : Act → World → Prop, Shut (∀ a w, S w → (S w → wpAnyH P md (o0 :: o1 :: o2 :: o3 :: o4 :: o5 :: o6 :: o7 :: o8 :: o9 :: l).toArray Q S fuel (listed.setIfInBounds 9 true) a w) → K' a w) → Oper.wp P o9 a w K' Q) : wpAnyH P md (o0 :: o1 :: o2 :: o3 :: o4 :: o5 :: o6 :: o7 :: o8 :: o9 :: l).toArray Q S (fuel + 1) listed a w :=
  wpAnyH_ready hr (by simp) (AllReadyH.cons (o := o5) rfl (fun K hK => by rw [if_pos hw0]; exact h0 K hK) (AllReadyH.cons (o := o9) rfl (fun K hK => by rw [if_pos hw1]; exact h1 K hK) AllReadyH.nil))
end

/-- What an acceptor knows and which records there are behind an entry that was taken. -/
def putA (d : Du) (l : List Rc) (e : En) : Du × List Rc := if d.b < e.slot ∧ isE (findE d.es e.slot) e = false then (⟨d.p, d.b, d.s, putE d.es e⟩, l ++ [accR e]) else (d, l)
theorem FoundS.lo {es : List En} {s : Int} {k : Nat} {b : Bool} (h : FoundS es s k b) : ∀ x ∈ es.take k, x.slot < s := fun x hx => by
  obtain ⟨i, hi, rfl⟩ := List.mem_take_iff_getElem.1 hx
  exact h.below i (by omega) (by omega)
theorem found_put : ∀ (es : List En) (e : En) (k : Nat), (∀ t (h : t < es.length), t < k → es[t].slot < e.slot) → (∀ t (h : t < es.length), k ≤ t → e.slot ≤ es[t].slot) → (∀ h : k < es.length, es[k].slot ≠ e.slot) → k ≤ es.length → es.take k ++ e :: es.drop k = putE es e
  | [], e, k, _, _, _, _ => by simp [putE]
  | y :: es, e, 0, _, h2, h3, _ => by
    have h4 := h2 0 (by simp) (Nat.le_refl _)
    have h5 := h3 (by simp)
    have h4' : e.slot ≤ y.slot := h4
    have h5' : y.slot ≠ e.slot := h5
    unfold putE
    rw [if_neg (by omega), if_neg h5']
    rfl
  | y :: es, e, k + 1, h1, h2, h3, hk => by
    have ih := found_put es e k (fun t ht c => h1 (t + 1) (by simpa using ht) (by omega)) (fun t ht c => h2 (t + 1) (by simpa using ht) (by omega)) (fun ht => h3 (by simpa using ht)) (by simpa using hk)
    have h4 := h1 0 (by simp) (by omega)
    have h4' : y.slot < e.slot := h4
    unfold putE
    rw [if_pos h4', ← ih]
    rfl
theorem found_none {es : List En} {s : Int} {k : Nat} (h : FoundS es s k false) (hu : es.Pairwise fun x y => x.slot < y.slot) : findE es s = none := by
  unfold findE
  rw [List.find?_eq_none]
  intro x hx
  obtain ⟨t, ht, rfl⟩ := List.mem_iff_getElem.1 hx
  simp only [beq_iff_eq]
  by_cases c : t < k
  · have := h.below t ht c
    omega
  · by_cases c2 : t = k
    · subst c2
      exact h.no rfl ht
    · have h1 := h.above k (by omega) (Nat.le_refl _)
      have h2 := up_lt hu (i := k) (j := t) (by omega) ht
      omega
theorem found_some {es : List En} {s : Int} {k : Nat} (h : FoundS es s k true) (hu : es.Pairwise fun x y => x.slot < y.slot) : ∃ hk : k < es.length, findE es s = some es[k] := by
  obtain ⟨hk, hs⟩ := h.yes rfl
  refine ⟨hk, ?_⟩
  have := findE_mem hu (List.getElem_mem hk)
  rw [hs] at this
  exact this
theorem apart_PR {w : World} {base X M : Nat} {S : Nat → Prop} {d : Du} {v u : Value} {l : List Rc} (h : PA w base S X d v) (r : RrAt w M u l) : ∀ b, S b → ¬ RS M u b := fun b hb hr => by
  have t1 : ∀ b, v.ownBlock = some b → ∃ cur, w.heap[b]? = some (.cells cur 36 (0, 0)) := fun b e => by
    rcases h.own.2 with ⟨e1, _⟩ | ⟨g, cap, cur, e1, _, hc, _⟩
    · rw [e1] at e; simp [Value.ownBlock] at e
    · rw [e1] at e
      simp only [Value.ownBlock, Option.some.injEq] at e
      exact ⟨cur, by rw [← e]; exact hc⟩
  rcases (h.set b).1 hb with rfl | e1
  · rcases hr with rfl | e2
    · have := h.blk.symm.trans r.blk
      simp at this
    · exact own_ne r.own h.blk (by decide) e2
  · obtain ⟨cur, hc⟩ := t1 b e1
    rcases hr with rfl | e2
    · have := hc.symm.trans r.blk
      simp at this
    · exact own_ne r.own hc (by decide) e2
theorem Kept.both2 {w w1 w2 : World} {S S' R R' : Nat → Prop} (h : Kept w w1 S S') (k : Kept w1 w2 R R') : Kept w w2 (fun x => S x ∨ R x) (fun x => S' x ∨ R' x) := by
  refine ⟨k.os.trans h.os, k.tape.trans h.tape, k.output.trans h.output, Nat.le_trans h.size k.size, fun x hx => ?_, fun x hx hn => (k.kept x (Nat.lt_of_lt_of_le hx h.size) (fun e => hn (Or.inr e))).trans (h.kept x hx (fun e => hn (Or.inl e)))⟩
  rcases hx with hx | hx
  · rcases h.old x hx with h1 | h1
    · exact Or.inl (Or.inl h1)
    · exact Or.inr h1
  · rcases k.old x hx with h1 | h1
    · exact Or.inl (Or.inr h1)
    · exact Or.inr (Nat.le_trans h.size h1)
set_option maxRecDepth 100000 in
theorem ent_eql (a b : En) (w : World) : (binOp .eql 36 (.agg (enA a)) (.agg (enA b))).run Try.prog w = .ok (.bool (eqE a b)) w := by
  unfold eqE eqC
  cases h0 : (a.slot == b.slot) with
  | false => simp [go_sem, h0]
  | true =>
    cases h1 : (a.ballot == b.ballot) with
    | false => simp [go_sem, h0, h1]
    | true =>
      cases h2 : (a.cmd.kind == b.cmd.kind) with
      | false => simp [go_sem, h0, h1, h2]
      | true =>
        cases h3 : (a.cmd.session == b.cmd.session) with
        | false => simp [go_sem, h0, h1, h2, h3]
        | true =>
          cases h4 : (a.cmd.seq == b.cmd.seq) with
          | false => simp [go_sem, h0, h1, h2, h3, h4]
          | true =>
            cases h5 : (a.cmd.name.toList == b.cmd.name.toList) with
            | false => simp [go_sem, h0, h1, h2, h3, h4, h5]
            | true =>
              cases h6 : (a.cmd.n == b.cmd.n) with
              | false => simp [go_sem, h0, h1, h2, h3, h4, h5, h6]
              | true => simp [go_sem, h0, h1, h2, h3, h4, h5, h6]
/-- While an entry is put: nothing that was there has turned as yet. -/
structure PtI (w wr : World) (base : Nat) (S : Nat → Prop) (X M : Nat) (d : Du) (v u : Value) (l : List Rc) (e : En) : Prop where
  pa : PA wr base S X d v
  rr : RrAt wr M u l
  box : EnAt wr w.heap.size e
  bel : Below w.heap.size w wr
  pw : PA w base S X d v
  rw_ : RrAt w M u l
section
variable {w wr w' : World} {base X M : Nat} {S : Nat → Prop} {d : Du} {v u : Value} {l : List Rc} {e : En}
theorem PtI.fresh (h : PtI w wr base S X M d v u l e) (b : Below wr.heap.size wr w') : PtI w w' base S X M d v u l e :=
  ⟨h.pa.fresh b, h.rr.fresh b, (b.block _ (lt_of_block h.box)).trans h.box, bmm h.bel h.bel.size b, h.pw, h.rw_⟩
theorem PtI.drew (h : PtI w wr base S X M d v u l e) : PtI w wr.drew base S X M d v u l e := h.fresh ⟨rfl, rfl, rfl, Nat.le_refl _, fun _ _ => rfl⟩
theorem PtI.vw (h : PtI w wr base S X M d v u l e) : ∀ g, v.ownBlock = some g → g < w.heap.size := fun g e => (h.pw.own.lt g e).2
theorem PtI.bs (h : PtI w wr base S X M d v u l e) : base ≤ wr.heap.size := Nat.le_trans h.pa.lo (Nat.le_of_lt h.pa.lt)
/-- The row grew by the entry, in its block or in a new one, and was laid into the acceptor. -/
theorem PtI.ins (h : PtI w wr base S X M d v u l e) {es : List En} {v' : Value} (o : OwnEn w' base v' es) (g : wr.grownBy w' v.ownBlock) (hl : v'.ownBlock = v.ownBlock ∨ v'.ownBlock = some wr.heap.size) :
    PA (w'.setCell ⟨X, 3, none⟩ v') base (fun b => b = X ∨ v'.ownBlock = some b) X ⟨d.p, d.b, d.s, es⟩ v' ∧ RrAt (w'.setCell ⟨X, 3, none⟩ v') M u l ∧ EnAt (w'.setCell ⟨X, 3, none⟩ v') w.heap.size e ∧ Kept w (w'.setCell ⟨X, 3, none⟩ v') S (fun b => b = X ∨ v'.ownBlock = some b) := by
  have k1 := (g.block X h.pa.lt (fun e1 => h.pa.ne e1.symm)).trans h.pa.blk
  have hX := h.pw.lt
  have n1 : v'.ownBlock ≠ some X := own_ne o k1 (by decide)
  have b2 : (w'.setCell ⟨X, 3, none⟩ v').heap[X]? = some (.cells (duA ⟨d.p, d.b, d.s, es⟩ v') 61 (0, 0)) := by
    rw [heap_setCell_same w' X 3 _ _ _ k1]
    rfl
  have hs : ∀ b, b ≠ X → (w'.setCell ⟨X, 3, none⟩ v').heap[b]? = w'.heap[b]? := fun b hb => heap_setCell_other _ _ _ _ hb
  have ap := apart_PR h.pa h.rr
  refine ⟨h.pa.next b2 (own_keep o fun b e1 => hs b (fun e2 => n1 (by rw [e1, e2]))) (by decide), h.rr.keep fun b hb => (hs b (fun e1 => ap b ((h.pa.set b).2 (Or.inl e1)) hb)).trans (g.block b (h.rr.bd b hb).2 (fun e1 => ap b ((h.pa.set b).2 (Or.inr e1.symm)) hb)), ?_, h.pw.kept ?_ ?_ ?_ ?_ (fun b hb => ?_) (fun b hb h1 h2 => ?_)⟩
  · rw [EnAt, hs _ (by omega), g.block _ (lt_of_block h.box) (fun e1 => by have := h.vw _ e1.symm; omega)]
    exact h.box
  · exact g.os.trans h.bel.os
  · exact g.tape.trans h.bel.tape
  · exact g.output.trans h.bel.output
  · exact Nat.le_trans h.bel.size (Nat.le_trans g.size (by simp))
  · rcases hl with h1 | h1
    · exact Or.inl (by rw [← h1]; exact hb)
    · rw [h1] at hb
      have := Option.some.inj hb
      exact Or.inr (by rw [← this]; exact h.bel.size)
  · rw [hs b h1, g.block b (Nat.lt_of_lt_of_le hb h.bel.size) (fun e1 => h2 e1.symm), h.bel.block b hb]
/-- The entry was laid over another one. -/
theorem PtI.seted {g n c : Nat} (h : PtI w wr base S X M d (.slice (some ⟨g, 0, none⟩) n c) u l e) {es : List En} (o : OwnEn w' base (.slice (some ⟨g, 0, none⟩) n c) es) (gr : wr.grownBy w' (some g)) :
    PA w' base (fun b => b = X ∨ (Value.slice (some ⟨g, 0, none⟩) n c).ownBlock = some b) X ⟨d.p, d.b, d.s, es⟩ (.slice (some ⟨g, 0, none⟩) n c) ∧ RrAt w' M u l ∧ EnAt w' w.heap.size e ∧ Kept w w' S (fun b => b = X ∨ (Value.slice (some ⟨g, 0, none⟩) n c).ownBlock = some b) := by
  have gw := h.vw g rfl
  have k1 := (gr.block X h.pa.lt (fun e1 => h.pa.ne e1.symm)).trans h.pa.blk
  have ap := apart_PR h.pa h.rr
  refine ⟨h.pa.next k1 o (by decide), h.rr.keep fun b hb => gr.block b (h.rr.bd b hb).2 (fun e1 => ap b ((h.pa.set b).2 (Or.inr e1.symm)) hb), ?_, h.pw.kept ?_ ?_ ?_ ?_ (fun b hb => Or.inl hb) (fun b hb h1 h2 => ?_)⟩
  · exact (gr.block _ (lt_of_block h.box) (fun e1 => by have := Option.some.inj e1; omega)).trans h.box
  · exact gr.os.trans h.bel.os
  · exact gr.tape.trans h.bel.tape
  · exact gr.output.trans h.bel.output
  · exact Nat.le_trans h.bel.size gr.size
  · rw [gr.block b (Nat.lt_of_lt_of_le hb h.bel.size) (fun e1 => h2 e1.symm), h.bel.block b hb]
end
/-- What it leaves. -/
structure PutPost2 (w : World) (base : Nat) (S : Nat → Prop) (X M : Nat) (u : Value) (dl : Du × List Rc) (x : Ending) (w' : World) : Prop where
  ex : ∃ S' v' u', x = .returned (.tuple #[]) ∧ PA w' base S' X dl.1 v' ∧ RrAt w' M u' dl.2 ∧ Kept w w' (fun b => S b ∨ RS M u b) (fun b => S' b ∨ RS M u' b)
section
variable {w : World} {base X M : Nat} {S : Nat → Prop} {d : Du} {v u : Value} {l : List Rc}
set_option maxHeartbeats 12800000 in
set_option maxRecDepth 100000 in
theorem pput_any (h : PA w base S X d v) (r : RrAt w M u l) (hu : Rises d.b d.es) (hl : d.es.length ≤ 536870912) (hl2 : l.length ≤ 1000) (e : En) (hn : nameOk e.cmd.name) : Calls Try.prog 35 #[.pointer (some ⟨X, 0, none⟩), .agg (enA e), .func (.func 36) #[.pointer (some ⟨M, 0, none⟩)] #[]] w (PutPost2 w base S X M u (putA d l e)) := by
  obtain ⟨pv, nv, qv, rfl⟩ := own_form h.own
  have hnv : nv = d.es.length := by
    obtain ⟨a, c, e1⟩ := h.form
    injection e1 with _ e2 _
  obtain ⟨W, hW⟩ : ∃ W, W = w.alloc (.cells (enA e) 36) := ⟨_, rfl⟩
  have i1 : PtI w W base S X M d (.slice pv nv qv) u l e := by
    have b1 : Below w.heap.size w W := by rw [hW]; exact (Below.refl _ w).alloc (Nat.le_refl _) _
    exact ⟨h.fresh b1, r.fresh b1, by rw [hW]; exact heap_alloc_new w _, b1, h, r⟩
  have HW : Hid (w.alloc (.cells (enA e) 36) = W) := hW.symm
  have c1 : W.cell? ⟨X, 1, none⟩ = some (.int .i64 d.b) := i1.pa.c1
  have ce0 := EnAt.box i1.box 0 _ rfl
  have hXw : ¬ X = w.heap.size := by have := h.lt; omega
  have I1 : Hid _ := i1
  have HU : Hid _ := hu
  have HN : Hid (nv = d.es.length) := hnv
  clear h r hW i1 hu hnv
  by_cases hs : e.slot ≤ d.b
  · have q0 : decide (e.slot ≤ d.b) = true := decide_eq_true hs
    have HP : Hid (putA d l e = (d, l)) := by
      show (if _ then _ else _) = _
      rw [if_neg (by omega)]
    clear hs
    go_enter Try.func35, Try.ntmps35
    go_upto_region 1 with fail
    rw [HW.out]
    refine wp_region_held_drew (S := (fun y : World => y.cell? ⟨X, 1, none⟩ = some (.int .i64 d.b) ∧ y.cell? ⟨w.heap.size, 0, none⟩ = some (.int .i64 e.slot))) (by kernel_rfl) ?_ (fun hHeld0 => ?_)
    · try dsimp only
      go_keep
    refine tk0 (.pointer (some ⟨w.heap.size, 0, none⟩)) (by kernel_rfl) (by kernel_rfl) (by kernel_rfl) (fun _ _ _ h => h) rfl (fun w hSw => by (try dsimp only at hSw); obtain ⟨s1, q0⟩ := hSw; go_simp) (by assumption) ?_
    try simp only [Act.put, List.setIfInBounds_toArray, List.set_cons_zero, List.set_cons_succ]
    refine tk1 (.int .i64 e.slot) (by kernel_rfl) (by kernel_rfl) (by kernel_rfl) (fun _ _ _ h => h) rfl (fun w hSw => by (try dsimp only at hSw); obtain ⟨s1, q0⟩ := hSw; go_simp) (by assumption) ?_
    try simp only [Act.put, List.setIfInBounds_toArray, List.set_cons_zero, List.set_cons_succ]
    refine tk2 (.pointer (some ⟨X, 0, none⟩)) (by kernel_rfl) (by kernel_rfl) (by kernel_rfl) (fun _ _ _ h => h) rfl (fun w hSw => by (try dsimp only at hSw); obtain ⟨s1, q0⟩ := hSw; go_simp) (by assumption) ?_
    try simp only [Act.put, List.setIfInBounds_toArray, List.set_cons_zero, List.set_cons_succ]
    refine tk3 (.pointer (some ⟨X, 0, none⟩)) (by kernel_rfl) (by kernel_rfl) (by kernel_rfl) (fun _ _ _ h => h) rfl (fun w hSw => by (try dsimp only at hSw); obtain ⟨s1, q0⟩ := hSw; go_simp) (by assumption) ?_
    try simp only [Act.put, List.setIfInBounds_toArray, List.set_cons_zero, List.set_cons_succ]
    refine tk4 (.pointer (some ⟨X, 0, none⟩)) (by kernel_rfl) (by kernel_rfl) (by kernel_rfl) (fun _ _ _ h => h) rfl (fun w hSw => by (try dsimp only at hSw); obtain ⟨s1, q0⟩ := hSw; go_simp) (by assumption) ?_
    try simp only [Act.put, List.setIfInBounds_toArray, List.set_cons_zero, List.set_cons_succ]
    refine tk5 (.pointer (some ⟨X, 1, none⟩)) (by kernel_rfl) (by kernel_rfl) (by kernel_rfl) (fun _ _ _ h => h) rfl (fun w hSw => by (try dsimp only at hSw); obtain ⟨s1, q0⟩ := hSw; go_simp) (by assumption) ?_
    try simp only [Act.put, List.setIfInBounds_toArray, List.set_cons_zero, List.set_cons_succ]
    refine tk6 (.int .i64 d.b) (by kernel_rfl) (by kernel_rfl) (by kernel_rfl) (fun _ _ _ h => h) rfl (fun w hSw => by (try dsimp only at hSw); obtain ⟨s1, q0⟩ := hSw; go_simp) (by assumption) ?_
    try simp only [Act.put, List.setIfInBounds_toArray, List.set_cons_zero, List.set_cons_succ]
    refine tk7 (.bool true) (by kernel_rfl) (by kernel_rfl) (by kernel_rfl) (fun _ _ _ h => h) rfl (fun w hSw => by (try dsimp only at hSw); obtain ⟨s1, q0⟩ := hSw; go_simp) (by assumption) ?_
    try simp only [Act.put, List.setIfInBounds_toArray, List.set_cons_zero, List.set_cons_succ]
    refine wpAnyH_done (by kernel_rfl) ?_ _
    go_wp2
    go_returns
    refine ⟨S, .slice pv nv qv, u, rfl, ?_, ?_, Kept.of I1.out.drew.bel⟩
    · rw [HP.out]
      exact I1.out.drew.pa
    · rw [HP.out]
      exact I1.out.drew.rr
  · have q0 : decide (e.slot ≤ d.b) = false := decide_eq_false hs
    have HS : Hid (d.b < e.slot) := (by omega : d.b < e.slot)
    clear hs
    go_enter Try.func35, Try.ntmps35
    go_upto_region 1 with fail
    rw [HW.out]
    refine wp_region_held_drew (S := (fun y : World => y.cell? ⟨X, 1, none⟩ = some (.int .i64 d.b) ∧ y.cell? ⟨w.heap.size, 0, none⟩ = some (.int .i64 e.slot))) (by kernel_rfl) ?_ (fun hHeld0 => ?_)
    · try dsimp only
      go_keep
    refine tk0 (.pointer (some ⟨w.heap.size, 0, none⟩)) (by kernel_rfl) (by kernel_rfl) (by kernel_rfl) (fun _ _ _ h => h) rfl (fun w hSw => by (try dsimp only at hSw); obtain ⟨s1, q0⟩ := hSw; go_simp) (by assumption) ?_
    try simp only [Act.put, List.setIfInBounds_toArray, List.set_cons_zero, List.set_cons_succ]
    refine tk1 (.int .i64 e.slot) (by kernel_rfl) (by kernel_rfl) (by kernel_rfl) (fun _ _ _ h => h) rfl (fun w hSw => by (try dsimp only at hSw); obtain ⟨s1, q0⟩ := hSw; go_simp) (by assumption) ?_
    try simp only [Act.put, List.setIfInBounds_toArray, List.set_cons_zero, List.set_cons_succ]
    refine tk2 (.pointer (some ⟨X, 0, none⟩)) (by kernel_rfl) (by kernel_rfl) (by kernel_rfl) (fun _ _ _ h => h) rfl (fun w hSw => by (try dsimp only at hSw); obtain ⟨s1, q0⟩ := hSw; go_simp) (by assumption) ?_
    try simp only [Act.put, List.setIfInBounds_toArray, List.set_cons_zero, List.set_cons_succ]
    refine tk3 (.pointer (some ⟨X, 0, none⟩)) (by kernel_rfl) (by kernel_rfl) (by kernel_rfl) (fun _ _ _ h => h) rfl (fun w hSw => by (try dsimp only at hSw); obtain ⟨s1, q0⟩ := hSw; go_simp) (by assumption) ?_
    try simp only [Act.put, List.setIfInBounds_toArray, List.set_cons_zero, List.set_cons_succ]
    refine tk4 (.pointer (some ⟨X, 0, none⟩)) (by kernel_rfl) (by kernel_rfl) (by kernel_rfl) (fun _ _ _ h => h) rfl (fun w hSw => by (try dsimp only at hSw); obtain ⟨s1, q0⟩ := hSw; go_simp) (by assumption) ?_
    try simp only [Act.put, List.setIfInBounds_toArray, List.set_cons_zero, List.set_cons_succ]
    refine tk5 (.pointer (some ⟨X, 1, none⟩)) (by kernel_rfl) (by kernel_rfl) (by kernel_rfl) (fun _ _ _ h => h) rfl (fun w hSw => by (try dsimp only at hSw); obtain ⟨s1, q0⟩ := hSw; go_simp) (by assumption) ?_
    try simp only [Act.put, List.setIfInBounds_toArray, List.set_cons_zero, List.set_cons_succ]
    refine tk6 (.int .i64 d.b) (by kernel_rfl) (by kernel_rfl) (by kernel_rfl) (fun _ _ _ h => h) rfl (fun w hSw => by (try dsimp only at hSw); obtain ⟨s1, q0⟩ := hSw; go_simp) (by assumption) ?_
    try simp only [Act.put, List.setIfInBounds_toArray, List.set_cons_zero, List.set_cons_succ]
    refine tk7 (.bool false) (by kernel_rfl) (by kernel_rfl) (by kernel_rfl) (fun _ _ _ h => h) rfl (fun w hSw => by (try dsimp only at hSw); obtain ⟨s1, q0⟩ := hSw; go_simp) (by assumption) ?_
    try simp only [Act.put, List.setIfInBounds_toArray, List.set_cons_zero, List.set_cons_succ]
    refine wpAnyH_done (by kernel_rfl) ?_ _
    go_upto_region 4 with (go_at_call 37; refine (pfind_any I1.out.drew.pa HU.out hl e.slot).mono ?_; rintro x w2 ⟨kk, bb, rfl, hF, b2⟩; have i2 := I1.out.drew.fresh b2; have I2 : Hid _ := i2; have FF : Hid _ := hF; clear b2 i2 hF)
    have hkn : kk ≤ d.es.length := FF.out.le
    clear c1 ce0
    cases bb with
    | false =>
      have HP : Hid (putA d l e = (⟨d.p, d.b, d.s, d.es.take kk ++ e :: d.es.drop kk⟩, l ++ [accR e])) := by
        show (if _ then _ else _) = _
        rw [found_none FF.out HU.out.2, if_pos ⟨HS.out, rfl⟩, found_put d.es e kk FF.out.below FF.out.above (fun hk => FF.out.no rfl hk) hkn]
      have c3 : w2.cell? ⟨X, 3, none⟩ = some (.slice pv nv qv) := I2.out.pa.c3
      have ce0 := EnAt.box I2.out.box 0 _ rfl
      have ce1 := EnAt.box I2.out.box 1 _ rfl
      have ce2 := EnAt.box I2.out.box 2 _ rfl
      have ce3 := EnAt.box I2.out.box 3 _ rfl
      have ce4 := EnAt.box I2.out.box 4 _ rfl
      have ce5 := EnAt.box I2.out.box 5 _ rfl
      have ce6 := EnAt.box I2.out.box 6 _ rfl
      go_upto_region 5 with fail
      refine wp_region_held_drew (S := (fun y : World => y.cell? ⟨w.heap.size, 0, none⟩ = some (.int .i64 e.slot) ∧ y.cell? ⟨w.heap.size, 1, none⟩ = some (.int .i64 e.ballot) ∧ y.cell? ⟨w.heap.size, 2, none⟩ = some (.int .i64 e.cmd.kind) ∧ y.cell? ⟨w.heap.size, 3, none⟩ = some (.int .i64 e.cmd.session) ∧ y.cell? ⟨w.heap.size, 4, none⟩ = some (.int .i64 e.cmd.seq) ∧ y.cell? ⟨w.heap.size, 5, none⟩ = some (.string e.cmd.name) ∧ y.cell? ⟨w.heap.size, 6, none⟩ = some (.int .i64 e.cmd.n))) (by kernel_rfl) ?_ (fun hHeld0 => ?_)
      · try dsimp only
        go_keep
      refine tk0 (.pointer (some ⟨X, 0, none⟩)) (by kernel_rfl) (by kernel_rfl) (by kernel_rfl) (fun _ _ _ h => h) rfl (fun w hSw => by (try dsimp only at hSw); obtain ⟨q0, q1, q2, q3, q4, q5, q6⟩ := hSw; go_simp) (by assumption) ?_
      try simp only [Act.put, List.setIfInBounds_toArray, List.set_cons_zero, List.set_cons_succ]
      refine tk1 (.pointer (some ⟨X, 0, none⟩)) (by kernel_rfl) (by kernel_rfl) (by kernel_rfl) (fun _ _ _ h => h) rfl (fun w hSw => by (try dsimp only at hSw); obtain ⟨q0, q1, q2, q3, q4, q5, q6⟩ := hSw; go_simp) (by assumption) ?_
      try simp only [Act.put, List.setIfInBounds_toArray, List.set_cons_zero, List.set_cons_succ]
      refine tk2 (.pointer (some ⟨X, 0, none⟩)) (by kernel_rfl) (by kernel_rfl) (by kernel_rfl) (fun _ _ _ h => h) rfl (fun w hSw => by (try dsimp only at hSw); obtain ⟨q0, q1, q2, q3, q4, q5, q6⟩ := hSw; go_simp) (by assumption) ?_
      try simp only [Act.put, List.setIfInBounds_toArray, List.set_cons_zero, List.set_cons_succ]
      refine tk3 (.pointer (some ⟨X, 0, none⟩)) (by kernel_rfl) (by kernel_rfl) (by kernel_rfl) (fun _ _ _ h => h) rfl (fun w hSw => by (try dsimp only at hSw); obtain ⟨q0, q1, q2, q3, q4, q5, q6⟩ := hSw; go_simp) (by assumption) ?_
      try simp only [Act.put, List.setIfInBounds_toArray, List.set_cons_zero, List.set_cons_succ]
      refine tk4 (.pointer (some ⟨X, 3, none⟩)) (by kernel_rfl) (by kernel_rfl) (by kernel_rfl) (fun _ _ _ h => h) rfl (fun w hSw => by (try dsimp only at hSw); obtain ⟨q0, q1, q2, q3, q4, q5, q6⟩ := hSw; go_simp) (by assumption) ?_
      try simp only [Act.put, List.setIfInBounds_toArray, List.set_cons_zero, List.set_cons_succ]
      refine tk6 (.int .i64 (kk : Int)) (by kernel_rfl) (by kernel_rfl) (by kernel_rfl) (fun _ _ _ h => h) rfl (fun w hSw => by (try dsimp only at hSw); obtain ⟨q0, q1, q2, q3, q4, q5, q6⟩ := hSw; go_simp) (by assumption) ?_
      try simp only [Act.put, List.setIfInBounds_toArray, List.set_cons_zero, List.set_cons_succ]
      refine tk7 (.agg (enA e)) (by kernel_rfl) (by kernel_rfl) (by kernel_rfl) (fun _ _ _ h => h) rfl (fun w hSw => by (try dsimp only at hSw); obtain ⟨q0, q1, q2, q3, q4, q5, q6⟩ := hSw; go_simp) (by assumption) ?_
      try simp only [Act.put, List.setIfInBounds_toArray, List.set_cons_zero, List.set_cons_succ]
      refine rd5_8 (by kernel_rfl) rfl rfl (fun K hK => ?_) (fun K hK => ?_)
      · go_simp
        refine hK.out _ _ ?_ (fun hHeld => ?_)
        · try dsimp only
          go_keep
        clear hK K
        try simp only [Act.put, List.setIfInBounds_toArray, List.set_cons_zero, List.set_cons_succ]
        refine cl8 (by kernel_rfl) rfl (fun K hK => ?_)
        go_simp
        go_at_call 40
        refine (aclone_any _ e hn).mono ?_
        rintro r w3 ⟨rfl, b3⟩
        have i3 := I2.out.drew.fresh b3
        have I3 : Hid _ := i3
        have ze0 := EnAt.box i3.box 0 _ rfl
        have ze1 := EnAt.box i3.box 1 _ rfl
        have ze2 := EnAt.box i3.box 2 _ rfl
        have ze3 := EnAt.box i3.box 3 _ rfl
        have ze4 := EnAt.box i3.box 4 _ rfl
        have ze5 := EnAt.box i3.box 5 _ rfl
        have ze6 := EnAt.box i3.box 6 _ rfl
        have z3 : w3.cell? ⟨X, 3, none⟩ = some (.slice pv nv qv) := i3.pa.c3
        have zA : ∀ o, (w3.alloc o).cell? ⟨X, 3, none⟩ = some (.slice pv nv qv) := fun o => (i3.fresh ((Below.refl _ w3).alloc (Nat.le_refl _) o)).pa.c3
        clear b3 i3
        refine hK.out _ _ ?_ (fun hHeld => ?_)
        · try dsimp only
          go_keep
        clear hK K
        try simp only [Act.put, List.setIfInBounds_toArray, List.set_cons_zero, List.set_cons_succ]
        refine cl9 (by kernel_rfl) rfl (fun K hK => ?_)
        go_simp
        obtain ⟨w4, hw4⟩ : ∃ w4, w4 = w3.alloc (.cells (enA e) 36) := ⟨_, rfl⟩
        have i4 : PtI w w4 base S X M d (.slice pv nv qv) u l e := by rw [hw4]; exact I3.out.fresh ((Below.refl _ w3).alloc (Nat.le_refl _) _)
        have x4 : w4.heap[w3.heap.size]? = some (.cells (enA e) 36 (0, 0)) := by rw [hw4]; exact heap_alloc_new w3 _
        rw [← hw4]
        have I4 : Hid _ := i4
        have X4 : Hid _ := x4
        have y3 : w4.cell? ⟨X, 3, none⟩ = some (.slice pv nv qv) := i4.pa.c3
        have ye0 := EnAt.box i4.box 0 _ rfl
        have ye1 := EnAt.box i4.box 1 _ rfl
        have ye2 := EnAt.box i4.box 2 _ rfl
        have ye3 := EnAt.box i4.box 3 _ rfl
        have ye4 := EnAt.box i4.box 4 _ rfl
        have ye5 := EnAt.box i4.box 5 _ rfl
        have ye6 := EnAt.box i4.box 6 _ rfl
        clear i4 x4 hw4
        refine hK.out _ _ ?_ (fun hHeld => ?_)
        · try dsimp only
          go_keep
        clear hK K
        try simp only [Act.put, List.setIfInBounds_toArray, List.set_cons_zero, List.set_cons_succ]
        refine cl10 (by kernel_rfl) rfl (fun K hK => ?_)
        go_simp
        go_at_call 46
        refine (pins_any I4.out.pa.own I4.out.bs FF.out.le (by omega) X4.out (fun e1 => by have h1 := I4.out.vw _ e1; have h2 := I3.out.bel.size; omega)).mono ?_
        rintro r w5 ⟨v5, rfl, o5, g5, l5⟩
        obtain ⟨p5, n5, q5, rfl⟩ := own_form o5
        have b5 : EnAt w5 w.heap.size e := (g5.block _ (lt_of_block I4.out.box) (fun e1 => by have h1 := I4.out.vw _ e1.symm; omega)).trans I4.out.box
        have k5 := (g5.block X I4.out.pa.lt (fun e1 => I4.out.pa.ne e1.symm)).trans I4.out.pa.blk
        have c5 : w5.cell? ⟨X, 3, none⟩ = some (.slice pv nv qv) := by simp [World.cell?, k5]
        have f5 : w5.frozen? ⟨X, 3, none⟩ = false := by simp [World.frozen?, k5]
        have Q5 : Hid _ := I4.out.ins o5 g5 l5
        have xe0 := EnAt.box b5 0 _ rfl
        have xe1 := EnAt.box b5 1 _ rfl
        have xe2 := EnAt.box b5 2 _ rfl
        have xe3 := EnAt.box b5 3 _ rfl
        have xe4 := EnAt.box b5 4 _ rfl
        have xe5 := EnAt.box b5 5 _ rfl
        have xe6 := EnAt.box b5 6 _ rfl
        clear o5 g5 l5 b5 k5
        refine hK.out _ _ ?_ (fun hHeld => ?_)
        · try dsimp only
          go_keep
        clear hK K
        try simp only [Act.put, List.setIfInBounds_toArray, List.set_cons_zero, List.set_cons_succ]
        refine tk11 (.pointer (some ⟨X, 0, none⟩)) (by kernel_rfl) (by kernel_rfl) (by kernel_rfl) (fun _ _ _ h => h) rfl (fun w hSw => by (try dsimp only at hSw); obtain ⟨q0, q1, q2, q3, q4, q5, q6⟩ := hSw; go_simp) (by assumption) ?_
        try simp only [Act.put, List.setIfInBounds_toArray, List.set_cons_zero, List.set_cons_succ]
        refine tk12 (.pointer (some ⟨X, 0, none⟩)) (by kernel_rfl) (by kernel_rfl) (by kernel_rfl) (fun _ _ _ h => h) rfl (fun w hSw => by (try dsimp only at hSw); obtain ⟨q0, q1, q2, q3, q4, q5, q6⟩ := hSw; go_simp) (by assumption) ?_
        try simp only [Act.put, List.setIfInBounds_toArray, List.set_cons_zero, List.set_cons_succ]
        refine tk13 (.pointer (some ⟨X, 3, none⟩)) (by kernel_rfl) (by kernel_rfl) (by kernel_rfl) (fun _ _ _ h => h) rfl (fun w hSw => by (try dsimp only at hSw); obtain ⟨q0, q1, q2, q3, q4, q5, q6⟩ := hSw; go_simp) (by assumption) ?_
        try simp only [Act.put, List.setIfInBounds_toArray, List.set_cons_zero, List.set_cons_succ]
        refine cl14 (by kernel_rfl) rfl (fun K hK => ?_)
        go_simp
        obtain ⟨w6, hw6⟩ : ∃ w6, w6 = w5.setCell ⟨X, 3, none⟩ (.slice p5 n5 q5) := ⟨_, rfl⟩
        have q6 := Q5.out
        rw [← hw6] at q6
        rw [← hw6]
        obtain ⟨h6, r6, b6, k6⟩ := q6
        have H6 : Hid _ := h6
        have R6 : Hid _ := r6
        have K6 : Hid _ := k6
        have ve0 := EnAt.box b6 0 _ rfl
        have ve1 := EnAt.box b6 1 _ rfl
        have ve2 := EnAt.box b6 2 _ rfl
        have ve3 := EnAt.box b6 3 _ rfl
        have ve4 := EnAt.box b6 4 _ rfl
        have ve5 := EnAt.box b6 5 _ rfl
        have ve6 := EnAt.box b6 6 _ rfl
        clear h6 r6 b6 k6 hw6
        refine hK.out _ _ ?_ (fun hHeld => ?_)
        · try dsimp only
          go_keep
        clear hK K
        try simp only [Act.put, List.setIfInBounds_toArray, List.set_cons_zero, List.set_cons_succ]
        refine wpAnyH_done (by kernel_rfl) ?_ _
        go_wp2_with (go_at_call 36; refine (paccept_any R6.out hl2 e hn).mono ?_; rintro r w7 ⟨u7, rfl, r7, k7⟩; have R7 : Hid _ := r7; have K7 : Hid _ := k7; clear r7 k7)
        go_returns
        refine ⟨_, .slice p5 n5 q5, u7, rfl, ?_, ?_, Kept.both2 K6.out K7.out⟩
        · rw [HP.out]
          exact H6.out.keep fun b hb => K7.out.kept b (H6.out.bd b hb).2 (apart_PR H6.out R6.out b hb)
        · rw [HP.out]
          exact R7.out
      · go_simp
        go_at_call 40
        refine (aclone_any _ e hn).mono ?_
        rintro r w3 ⟨rfl, b3⟩
        have i3 := I2.out.drew.fresh b3
        have I3 : Hid _ := i3
        have ze0 := EnAt.box i3.box 0 _ rfl
        have ze1 := EnAt.box i3.box 1 _ rfl
        have ze2 := EnAt.box i3.box 2 _ rfl
        have ze3 := EnAt.box i3.box 3 _ rfl
        have ze4 := EnAt.box i3.box 4 _ rfl
        have ze5 := EnAt.box i3.box 5 _ rfl
        have ze6 := EnAt.box i3.box 6 _ rfl
        have z3 : w3.cell? ⟨X, 3, none⟩ = some (.slice pv nv qv) := i3.pa.c3
        have zA : ∀ o, (w3.alloc o).cell? ⟨X, 3, none⟩ = some (.slice pv nv qv) := fun o => (i3.fresh ((Below.refl _ w3).alloc (Nat.le_refl _) o)).pa.c3
        clear b3 i3
        refine hK.out _ _ ?_ (fun hHeld => ?_)
        · try dsimp only
          go_keep
        clear hK K
        try simp only [Act.put, List.setIfInBounds_toArray, List.set_cons_zero, List.set_cons_succ]
        refine rd5_9 (by kernel_rfl) rfl rfl (fun K hK => ?_) (fun K hK => ?_)
        · go_simp
          refine hK.out _ _ ?_ (fun hHeld => ?_)
          · try dsimp only
            go_keep
          clear hK K
          try simp only [Act.put, List.setIfInBounds_toArray, List.set_cons_zero, List.set_cons_succ]
          refine cl9 (by kernel_rfl) rfl (fun K hK => ?_)
          go_simp
          obtain ⟨w4, hw4⟩ : ∃ w4, w4 = w3.alloc (.cells (enA e) 36) := ⟨_, rfl⟩
          have i4 : PtI w w4 base S X M d (.slice pv nv qv) u l e := by rw [hw4]; exact I3.out.fresh ((Below.refl _ w3).alloc (Nat.le_refl _) _)
          have x4 : w4.heap[w3.heap.size]? = some (.cells (enA e) 36 (0, 0)) := by rw [hw4]; exact heap_alloc_new w3 _
          rw [← hw4]
          have I4 : Hid _ := i4
          have X4 : Hid _ := x4
          have y3 : w4.cell? ⟨X, 3, none⟩ = some (.slice pv nv qv) := i4.pa.c3
          have ye0 := EnAt.box i4.box 0 _ rfl
          have ye1 := EnAt.box i4.box 1 _ rfl
          have ye2 := EnAt.box i4.box 2 _ rfl
          have ye3 := EnAt.box i4.box 3 _ rfl
          have ye4 := EnAt.box i4.box 4 _ rfl
          have ye5 := EnAt.box i4.box 5 _ rfl
          have ye6 := EnAt.box i4.box 6 _ rfl
          clear i4 x4 hw4
          refine hK.out _ _ ?_ (fun hHeld => ?_)
          · try dsimp only
            go_keep
          clear hK K
          try simp only [Act.put, List.setIfInBounds_toArray, List.set_cons_zero, List.set_cons_succ]
          refine cl10 (by kernel_rfl) rfl (fun K hK => ?_)
          go_simp
          go_at_call 46
          refine (pins_any I4.out.pa.own I4.out.bs FF.out.le (by omega) X4.out (fun e1 => by have h1 := I4.out.vw _ e1; have h2 := I3.out.bel.size; omega)).mono ?_
          rintro r w5 ⟨v5, rfl, o5, g5, l5⟩
          obtain ⟨p5, n5, q5, rfl⟩ := own_form o5
          have b5 : EnAt w5 w.heap.size e := (g5.block _ (lt_of_block I4.out.box) (fun e1 => by have h1 := I4.out.vw _ e1.symm; omega)).trans I4.out.box
          have k5 := (g5.block X I4.out.pa.lt (fun e1 => I4.out.pa.ne e1.symm)).trans I4.out.pa.blk
          have c5 : w5.cell? ⟨X, 3, none⟩ = some (.slice pv nv qv) := by simp [World.cell?, k5]
          have f5 : w5.frozen? ⟨X, 3, none⟩ = false := by simp [World.frozen?, k5]
          have Q5 : Hid _ := I4.out.ins o5 g5 l5
          have xe0 := EnAt.box b5 0 _ rfl
          have xe1 := EnAt.box b5 1 _ rfl
          have xe2 := EnAt.box b5 2 _ rfl
          have xe3 := EnAt.box b5 3 _ rfl
          have xe4 := EnAt.box b5 4 _ rfl
          have xe5 := EnAt.box b5 5 _ rfl
          have xe6 := EnAt.box b5 6 _ rfl
          clear o5 g5 l5 b5 k5
          refine hK.out _ _ ?_ (fun hHeld => ?_)
          · try dsimp only
            go_keep
          clear hK K
          try simp only [Act.put, List.setIfInBounds_toArray, List.set_cons_zero, List.set_cons_succ]
          refine tk11 (.pointer (some ⟨X, 0, none⟩)) (by kernel_rfl) (by kernel_rfl) (by kernel_rfl) (fun _ _ _ h => h) rfl (fun w hSw => by (try dsimp only at hSw); obtain ⟨q0, q1, q2, q3, q4, q5, q6⟩ := hSw; go_simp) (by assumption) ?_
          try simp only [Act.put, List.setIfInBounds_toArray, List.set_cons_zero, List.set_cons_succ]
          refine tk12 (.pointer (some ⟨X, 0, none⟩)) (by kernel_rfl) (by kernel_rfl) (by kernel_rfl) (fun _ _ _ h => h) rfl (fun w hSw => by (try dsimp only at hSw); obtain ⟨q0, q1, q2, q3, q4, q5, q6⟩ := hSw; go_simp) (by assumption) ?_
          try simp only [Act.put, List.setIfInBounds_toArray, List.set_cons_zero, List.set_cons_succ]
          refine tk13 (.pointer (some ⟨X, 3, none⟩)) (by kernel_rfl) (by kernel_rfl) (by kernel_rfl) (fun _ _ _ h => h) rfl (fun w hSw => by (try dsimp only at hSw); obtain ⟨q0, q1, q2, q3, q4, q5, q6⟩ := hSw; go_simp) (by assumption) ?_
          try simp only [Act.put, List.setIfInBounds_toArray, List.set_cons_zero, List.set_cons_succ]
          refine cl14 (by kernel_rfl) rfl (fun K hK => ?_)
          go_simp
          obtain ⟨w6, hw6⟩ : ∃ w6, w6 = w5.setCell ⟨X, 3, none⟩ (.slice p5 n5 q5) := ⟨_, rfl⟩
          have q6 := Q5.out
          rw [← hw6] at q6
          rw [← hw6]
          obtain ⟨h6, r6, b6, k6⟩ := q6
          have H6 : Hid _ := h6
          have R6 : Hid _ := r6
          have K6 : Hid _ := k6
          have ve0 := EnAt.box b6 0 _ rfl
          have ve1 := EnAt.box b6 1 _ rfl
          have ve2 := EnAt.box b6 2 _ rfl
          have ve3 := EnAt.box b6 3 _ rfl
          have ve4 := EnAt.box b6 4 _ rfl
          have ve5 := EnAt.box b6 5 _ rfl
          have ve6 := EnAt.box b6 6 _ rfl
          clear h6 r6 b6 k6 hw6
          refine hK.out _ _ ?_ (fun hHeld => ?_)
          · try dsimp only
            go_keep
          clear hK K
          try simp only [Act.put, List.setIfInBounds_toArray, List.set_cons_zero, List.set_cons_succ]
          refine wpAnyH_done (by kernel_rfl) ?_ _
          go_wp2_with (go_at_call 36; refine (paccept_any R6.out hl2 e hn).mono ?_; rintro r w7 ⟨u7, rfl, r7, k7⟩; have R7 : Hid _ := r7; have K7 : Hid _ := k7; clear r7 k7)
          go_returns
          refine ⟨_, .slice p5 n5 q5, u7, rfl, ?_, ?_, Kept.both2 K6.out K7.out⟩
          · rw [HP.out]
            exact H6.out.keep fun b hb => K7.out.kept b (H6.out.bd b hb).2 (apart_PR H6.out R6.out b hb)
          · rw [HP.out]
            exact R7.out
        · go_simp
          obtain ⟨w4, hw4⟩ : ∃ w4, w4 = w3.alloc (.cells (enA e) 36) := ⟨_, rfl⟩
          have i4 : PtI w w4 base S X M d (.slice pv nv qv) u l e := by rw [hw4]; exact I3.out.fresh ((Below.refl _ w3).alloc (Nat.le_refl _) _)
          have x4 : w4.heap[w3.heap.size]? = some (.cells (enA e) 36 (0, 0)) := by rw [hw4]; exact heap_alloc_new w3 _
          rw [← hw4]
          have I4 : Hid _ := i4
          have X4 : Hid _ := x4
          have y3 : w4.cell? ⟨X, 3, none⟩ = some (.slice pv nv qv) := i4.pa.c3
          have ye0 := EnAt.box i4.box 0 _ rfl
          have ye1 := EnAt.box i4.box 1 _ rfl
          have ye2 := EnAt.box i4.box 2 _ rfl
          have ye3 := EnAt.box i4.box 3 _ rfl
          have ye4 := EnAt.box i4.box 4 _ rfl
          have ye5 := EnAt.box i4.box 5 _ rfl
          have ye6 := EnAt.box i4.box 6 _ rfl
          clear i4 x4 hw4
          refine hK.out _ _ ?_ (fun hHeld => ?_)
          · try dsimp only
            go_keep
          clear hK K
          try simp only [Act.put, List.setIfInBounds_toArray, List.set_cons_zero, List.set_cons_succ]
          refine cl5 (by kernel_rfl) rfl (fun K hK => ?_)
          go_simp
          refine hK.out _ _ ?_ (fun hHeld => ?_)
          · try dsimp only
            go_keep
          clear hK K
          try simp only [Act.put, List.setIfInBounds_toArray, List.set_cons_zero, List.set_cons_succ]
          refine cl10 (by kernel_rfl) rfl (fun K hK => ?_)
          go_simp
          go_at_call 46
          refine (pins_any I4.out.pa.own I4.out.bs FF.out.le (by omega) X4.out (fun e1 => by have h1 := I4.out.vw _ e1; have h2 := I3.out.bel.size; omega)).mono ?_
          rintro r w5 ⟨v5, rfl, o5, g5, l5⟩
          obtain ⟨p5, n5, q5, rfl⟩ := own_form o5
          have b5 : EnAt w5 w.heap.size e := (g5.block _ (lt_of_block I4.out.box) (fun e1 => by have h1 := I4.out.vw _ e1.symm; omega)).trans I4.out.box
          have k5 := (g5.block X I4.out.pa.lt (fun e1 => I4.out.pa.ne e1.symm)).trans I4.out.pa.blk
          have c5 : w5.cell? ⟨X, 3, none⟩ = some (.slice pv nv qv) := by simp [World.cell?, k5]
          have f5 : w5.frozen? ⟨X, 3, none⟩ = false := by simp [World.frozen?, k5]
          have Q5 : Hid _ := I4.out.ins o5 g5 l5
          have xe0 := EnAt.box b5 0 _ rfl
          have xe1 := EnAt.box b5 1 _ rfl
          have xe2 := EnAt.box b5 2 _ rfl
          have xe3 := EnAt.box b5 3 _ rfl
          have xe4 := EnAt.box b5 4 _ rfl
          have xe5 := EnAt.box b5 5 _ rfl
          have xe6 := EnAt.box b5 6 _ rfl
          clear o5 g5 l5 b5 k5
          refine hK.out _ _ ?_ (fun hHeld => ?_)
          · try dsimp only
            go_keep
          clear hK K
          try simp only [Act.put, List.setIfInBounds_toArray, List.set_cons_zero, List.set_cons_succ]
          refine tk11 (.pointer (some ⟨X, 0, none⟩)) (by kernel_rfl) (by kernel_rfl) (by kernel_rfl) (fun _ _ _ h => h) rfl (fun w hSw => by (try dsimp only at hSw); obtain ⟨q0, q1, q2, q3, q4, q5, q6⟩ := hSw; go_simp) (by assumption) ?_
          try simp only [Act.put, List.setIfInBounds_toArray, List.set_cons_zero, List.set_cons_succ]
          refine tk12 (.pointer (some ⟨X, 0, none⟩)) (by kernel_rfl) (by kernel_rfl) (by kernel_rfl) (fun _ _ _ h => h) rfl (fun w hSw => by (try dsimp only at hSw); obtain ⟨q0, q1, q2, q3, q4, q5, q6⟩ := hSw; go_simp) (by assumption) ?_
          try simp only [Act.put, List.setIfInBounds_toArray, List.set_cons_zero, List.set_cons_succ]
          refine tk13 (.pointer (some ⟨X, 3, none⟩)) (by kernel_rfl) (by kernel_rfl) (by kernel_rfl) (fun _ _ _ h => h) rfl (fun w hSw => by (try dsimp only at hSw); obtain ⟨q0, q1, q2, q3, q4, q5, q6⟩ := hSw; go_simp) (by assumption) ?_
          try simp only [Act.put, List.setIfInBounds_toArray, List.set_cons_zero, List.set_cons_succ]
          refine cl14 (by kernel_rfl) rfl (fun K hK => ?_)
          go_simp
          obtain ⟨w6, hw6⟩ : ∃ w6, w6 = w5.setCell ⟨X, 3, none⟩ (.slice p5 n5 q5) := ⟨_, rfl⟩
          have q6 := Q5.out
          rw [← hw6] at q6
          rw [← hw6]
          obtain ⟨h6, r6, b6, k6⟩ := q6
          have H6 : Hid _ := h6
          have R6 : Hid _ := r6
          have K6 : Hid _ := k6
          have ve0 := EnAt.box b6 0 _ rfl
          have ve1 := EnAt.box b6 1 _ rfl
          have ve2 := EnAt.box b6 2 _ rfl
          have ve3 := EnAt.box b6 3 _ rfl
          have ve4 := EnAt.box b6 4 _ rfl
          have ve5 := EnAt.box b6 5 _ rfl
          have ve6 := EnAt.box b6 6 _ rfl
          clear h6 r6 b6 k6 hw6
          refine hK.out _ _ ?_ (fun hHeld => ?_)
          · try dsimp only
            go_keep
          clear hK K
          try simp only [Act.put, List.setIfInBounds_toArray, List.set_cons_zero, List.set_cons_succ]
          refine wpAnyH_done (by kernel_rfl) ?_ _
          go_wp2_with (go_at_call 36; refine (paccept_any R6.out hl2 e hn).mono ?_; rintro r w7 ⟨u7, rfl, r7, k7⟩; have R7 : Hid _ := r7; have K7 : Hid _ := k7; clear r7 k7)
          go_returns
          refine ⟨_, .slice p5 n5 q5, u7, rfl, ?_, ?_, Kept.both2 K6.out K7.out⟩
          · rw [HP.out]
            exact H6.out.keep fun b hb => K7.out.kept b (H6.out.bd b hb).2 (apart_PR H6.out R6.out b hb)
          · rw [HP.out]
            exact R7.out
    | true =>
      obtain ⟨hkl, hfs⟩ := found_some FF.out HU.out.2
      have hke := (FF.out.yes rfl).2
      obtain ⟨x, hx⟩ : ∃ x, x = d.es[kk] := ⟨_, rfl⟩
      obtain ⟨g, rfl⟩ : ∃ g, pv = some ⟨g, 0, none⟩ := by
        rcases I2.out.pa.own.2 with ⟨e1, e2⟩ | ⟨g, _, _, e1, _⟩
        · omega
        · injection e1 with e3 _ _
          exact ⟨g, e3⟩
      obtain ⟨bk, off, cap', hvv, hcap, hbk, hc⟩ := (OwnEn.row I2.out.pa.own).cells enC_len (by omega)
      injection hvv with e1 e2 e3
      injection e1 with e1
      injection e1 with e1 e4
      subst e1 e4 e3
      have k1 : (0 : Int) ≤ (kk : Int) := by omega
      have k2 : (kk : Int) < (nv : Int) := by have := HN.out; omega
      have k3 : ((kk : Int)).toNat = kk := by omega
      have c3 : w2.cell? ⟨X, 3, none⟩ = some (.slice (some ⟨g, 0, none⟩) nv qv) := I2.out.pa.c3
      have ce0 := EnAt.box I2.out.box 0 _ rfl
      have ce1 := EnAt.box I2.out.box 1 _ rfl
      have ce2 := EnAt.box I2.out.box 2 _ rfl
      have ce3 := EnAt.box I2.out.box 3 _ rfl
      have ce4 := EnAt.box I2.out.box 4 _ rfl
      have ce5 := EnAt.box I2.out.box 5 _ rfl
      have ce6 := EnAt.box I2.out.box 6 _ rfl
      have cx0 : w2.cell? ⟨g, kk * 7, none⟩ = some (.int .i64 x.slot) := by have := hc kk hkl 0 (.int .i64 x.slot) (by decide) (by rw [hx]; rfl); simpa using this
      have cx1 : w2.cell? ⟨g, kk * 7 + 1, none⟩ = some (.int .i64 x.ballot) := by have := hc kk hkl 1 (.int .i64 x.ballot) (by decide) (by rw [hx]; rfl); simpa using this
      have cx2 : w2.cell? ⟨g, kk * 7 + 2, none⟩ = some (.int .i64 x.cmd.kind) := by have := hc kk hkl 2 (.int .i64 x.cmd.kind) (by decide) (by rw [hx]; rfl); simpa using this
      have cx3 : w2.cell? ⟨g, kk * 7 + 3, none⟩ = some (.int .i64 x.cmd.session) := by have := hc kk hkl 3 (.int .i64 x.cmd.session) (by decide) (by rw [hx]; rfl); simpa using this
      have cx4 : w2.cell? ⟨g, kk * 7 + 4, none⟩ = some (.int .i64 x.cmd.seq) := by have := hc kk hkl 4 (.int .i64 x.cmd.seq) (by decide) (by rw [hx]; rfl); simpa using this
      have cx5 : w2.cell? ⟨g, kk * 7 + 5, none⟩ = some (.string x.cmd.name) := by have := hc kk hkl 5 (.string x.cmd.name) (by decide) (by rw [hx]; rfl); simpa using this
      have cx6 : w2.cell? ⟨g, kk * 7 + 6, none⟩ = some (.int .i64 x.cmd.n) := by have := hc kk hkl 6 (.int .i64 x.cmd.n) (by decide) (by rw [hx]; rfl); simpa using this
      have hee := ent_eql x e
      clear hc hcap hbk
      cases hq : eqE x e with
      | true =>
        rw [hq] at hee
        have HP : Hid (putA d l e = (d, l)) := by
          show (if _ then _ else _) = _
          rw [hfs, ← hx]
          show (if d.b < e.slot ∧ eqE x e = false then _ else _) = _
          rw [hq, if_neg (by simp)]
        clear hx hq hfs hke
        go_upto_region 6 with fail
        refine wp_region_held_drew (S := (fun y : World => y.cell? ⟨X, 3, none⟩ = some (.slice (some ⟨g, 0, none⟩) nv qv) ∧ y.cell? ⟨w.heap.size, 0, none⟩ = some (.int .i64 e.slot) ∧ y.cell? ⟨w.heap.size, 1, none⟩ = some (.int .i64 e.ballot) ∧ y.cell? ⟨w.heap.size, 2, none⟩ = some (.int .i64 e.cmd.kind) ∧ y.cell? ⟨w.heap.size, 3, none⟩ = some (.int .i64 e.cmd.session) ∧ y.cell? ⟨w.heap.size, 4, none⟩ = some (.int .i64 e.cmd.seq) ∧ y.cell? ⟨w.heap.size, 5, none⟩ = some (.string e.cmd.name) ∧ y.cell? ⟨w.heap.size, 6, none⟩ = some (.int .i64 e.cmd.n) ∧ y.cell? ⟨g, kk * 7, none⟩ = some (.int .i64 x.slot) ∧ y.cell? ⟨g, kk * 7 + 1, none⟩ = some (.int .i64 x.ballot) ∧ y.cell? ⟨g, kk * 7 + 2, none⟩ = some (.int .i64 x.cmd.kind) ∧ y.cell? ⟨g, kk * 7 + 3, none⟩ = some (.int .i64 x.cmd.session) ∧ y.cell? ⟨g, kk * 7 + 4, none⟩ = some (.int .i64 x.cmd.seq) ∧ y.cell? ⟨g, kk * 7 + 5, none⟩ = some (.string x.cmd.name) ∧ y.cell? ⟨g, kk * 7 + 6, none⟩ = some (.int .i64 x.cmd.n))) (by kernel_rfl) ?_ (fun hHeld0 => ?_)
        · try dsimp only
          go_keep
        refine tk0 (.pointer (some ⟨X, 0, none⟩)) (by kernel_rfl) (by kernel_rfl) (by kernel_rfl) (fun _ _ _ h => h) rfl (fun w hSw => by (try dsimp only at hSw); obtain ⟨s3, q0, q1, q2, q3, q4, q5, q6, r0, r1, r2, r3, r4, r5, r6⟩ := hSw; go_simp) (by assumption) ?_
        try simp only [Act.put, List.setIfInBounds_toArray, List.set_cons_zero, List.set_cons_succ]
        refine tk1 (.pointer (some ⟨X, 0, none⟩)) (by kernel_rfl) (by kernel_rfl) (by kernel_rfl) (fun _ _ _ h => h) rfl (fun w hSw => by (try dsimp only at hSw); obtain ⟨s3, q0, q1, q2, q3, q4, q5, q6, r0, r1, r2, r3, r4, r5, r6⟩ := hSw; go_simp) (by assumption) ?_
        try simp only [Act.put, List.setIfInBounds_toArray, List.set_cons_zero, List.set_cons_succ]
        refine tk2 (.pointer (some ⟨X, 0, none⟩)) (by kernel_rfl) (by kernel_rfl) (by kernel_rfl) (fun _ _ _ h => h) rfl (fun w hSw => by (try dsimp only at hSw); obtain ⟨s3, q0, q1, q2, q3, q4, q5, q6, r0, r1, r2, r3, r4, r5, r6⟩ := hSw; go_simp) (by assumption) ?_
        try simp only [Act.put, List.setIfInBounds_toArray, List.set_cons_zero, List.set_cons_succ]
        refine tk3 (.pointer (some ⟨X, 3, none⟩)) (by kernel_rfl) (by kernel_rfl) (by kernel_rfl) (fun _ _ _ h => h) rfl (fun w hSw => by (try dsimp only at hSw); obtain ⟨s3, q0, q1, q2, q3, q4, q5, q6, r0, r1, r2, r3, r4, r5, r6⟩ := hSw; go_simp) (by assumption) ?_
        try simp only [Act.put, List.setIfInBounds_toArray, List.set_cons_zero, List.set_cons_succ]
        refine tk4 (.slice (some ⟨g, 0, none⟩) nv qv) (by kernel_rfl) (by kernel_rfl) (by kernel_rfl) (fun _ _ _ h => h) rfl (fun w hSw => by (try dsimp only at hSw); obtain ⟨s3, q0, q1, q2, q3, q4, q5, q6, r0, r1, r2, r3, r4, r5, r6⟩ := hSw; go_simp) (by assumption) ?_
        try simp only [Act.put, List.setIfInBounds_toArray, List.set_cons_zero, List.set_cons_succ]
        refine tk5 (.int .i64 (kk : Int)) (by kernel_rfl) (by kernel_rfl) (by kernel_rfl) (fun _ _ _ h => h) rfl (fun w hSw => by (try dsimp only at hSw); obtain ⟨s3, q0, q1, q2, q3, q4, q5, q6, r0, r1, r2, r3, r4, r5, r6⟩ := hSw; go_simp) (by assumption) ?_
        try simp only [Act.put, List.setIfInBounds_toArray, List.set_cons_zero, List.set_cons_succ]
        refine tk6 (.pointer (some ⟨g, kk * 7, none⟩)) (by kernel_rfl) (by kernel_rfl) (by kernel_rfl) (fun _ _ _ h => h) rfl (fun w hSw => by (try dsimp only at hSw); obtain ⟨s3, q0, q1, q2, q3, q4, q5, q6, r0, r1, r2, r3, r4, r5, r6⟩ := hSw; go_simp) (by assumption) ?_
        try simp only [Act.put, List.setIfInBounds_toArray, List.set_cons_zero, List.set_cons_succ]
        refine tk7 (.agg (enA x)) (by kernel_rfl) (by kernel_rfl) (by kernel_rfl) (fun _ _ _ h => h) rfl (fun w hSw => by (try dsimp only at hSw); obtain ⟨s3, q0, q1, q2, q3, q4, q5, q6, r0, r1, r2, r3, r4, r5, r6⟩ := hSw; go_simp) (by assumption) ?_
        try simp only [Act.put, List.setIfInBounds_toArray, List.set_cons_zero, List.set_cons_succ]
        refine tk8 (.agg (enA e)) (by kernel_rfl) (by kernel_rfl) (by kernel_rfl) (fun _ _ _ h => h) rfl (fun w hSw => by (try dsimp only at hSw); obtain ⟨s3, q0, q1, q2, q3, q4, q5, q6, r0, r1, r2, r3, r4, r5, r6⟩ := hSw; go_simp) (by assumption) ?_
        try simp only [Act.put, List.setIfInBounds_toArray, List.set_cons_zero, List.set_cons_succ]
        refine tk9 (.bool true) (by kernel_rfl) (by kernel_rfl) (by kernel_rfl) (fun _ _ _ h => h) rfl (fun w hSw => by (try dsimp only at hSw); obtain ⟨s3, q0, q1, q2, q3, q4, q5, q6, r0, r1, r2, r3, r4, r5, r6⟩ := hSw; go_simp) (by assumption) ?_
        try simp only [Act.put, List.setIfInBounds_toArray, List.set_cons_zero, List.set_cons_succ]
        refine tk10 (.bool true) (by kernel_rfl) (by kernel_rfl) (by kernel_rfl) (fun _ _ _ h => h) rfl (fun w hSw => by (try dsimp only at hSw); obtain ⟨s3, q0, q1, q2, q3, q4, q5, q6, r0, r1, r2, r3, r4, r5, r6⟩ := hSw; go_simp) (by assumption) ?_
        try simp only [Act.put, List.setIfInBounds_toArray, List.set_cons_zero, List.set_cons_succ]
        refine wpAnyH_done (by kernel_rfl) ?_ _
        go_wp2
        go_returns
        refine ⟨S, .slice (some ⟨g, 0, none⟩) nv qv, u, rfl, ?_, ?_, Kept.of I2.out.drew.bel⟩
        · rw [HP.out]
          exact I2.out.drew.pa
        · rw [HP.out]
          exact I2.out.drew.rr
      | false =>
        rw [hq] at hee
        have HP : Hid (putA d l e = (⟨d.p, d.b, d.s, d.es.set kk e⟩, l ++ [accR e])) := by
          show (if _ then _ else _) = _
          rw [hfs, ← hx]
          show (if d.b < e.slot ∧ eqE x e = false then _ else _) = _
          rw [hq, if_pos ⟨HS.out, rfl⟩, (put_there hkl FF.out.lo hke).1]
        clear hx hq hfs hke
        go_upto_region 6 with fail
        refine wp_region_held_drew (S := (fun y : World => y.cell? ⟨X, 3, none⟩ = some (.slice (some ⟨g, 0, none⟩) nv qv) ∧ y.cell? ⟨w.heap.size, 0, none⟩ = some (.int .i64 e.slot) ∧ y.cell? ⟨w.heap.size, 1, none⟩ = some (.int .i64 e.ballot) ∧ y.cell? ⟨w.heap.size, 2, none⟩ = some (.int .i64 e.cmd.kind) ∧ y.cell? ⟨w.heap.size, 3, none⟩ = some (.int .i64 e.cmd.session) ∧ y.cell? ⟨w.heap.size, 4, none⟩ = some (.int .i64 e.cmd.seq) ∧ y.cell? ⟨w.heap.size, 5, none⟩ = some (.string e.cmd.name) ∧ y.cell? ⟨w.heap.size, 6, none⟩ = some (.int .i64 e.cmd.n) ∧ y.cell? ⟨g, kk * 7, none⟩ = some (.int .i64 x.slot) ∧ y.cell? ⟨g, kk * 7 + 1, none⟩ = some (.int .i64 x.ballot) ∧ y.cell? ⟨g, kk * 7 + 2, none⟩ = some (.int .i64 x.cmd.kind) ∧ y.cell? ⟨g, kk * 7 + 3, none⟩ = some (.int .i64 x.cmd.session) ∧ y.cell? ⟨g, kk * 7 + 4, none⟩ = some (.int .i64 x.cmd.seq) ∧ y.cell? ⟨g, kk * 7 + 5, none⟩ = some (.string x.cmd.name) ∧ y.cell? ⟨g, kk * 7 + 6, none⟩ = some (.int .i64 x.cmd.n))) (by kernel_rfl) ?_ (fun hHeld0 => ?_)
        · try dsimp only
          go_keep
        refine tk0 (.pointer (some ⟨X, 0, none⟩)) (by kernel_rfl) (by kernel_rfl) (by kernel_rfl) (fun _ _ _ h => h) rfl (fun w hSw => by (try dsimp only at hSw); obtain ⟨s3, q0, q1, q2, q3, q4, q5, q6, r0, r1, r2, r3, r4, r5, r6⟩ := hSw; go_simp) (by assumption) ?_
        try simp only [Act.put, List.setIfInBounds_toArray, List.set_cons_zero, List.set_cons_succ]
        refine tk1 (.pointer (some ⟨X, 0, none⟩)) (by kernel_rfl) (by kernel_rfl) (by kernel_rfl) (fun _ _ _ h => h) rfl (fun w hSw => by (try dsimp only at hSw); obtain ⟨s3, q0, q1, q2, q3, q4, q5, q6, r0, r1, r2, r3, r4, r5, r6⟩ := hSw; go_simp) (by assumption) ?_
        try simp only [Act.put, List.setIfInBounds_toArray, List.set_cons_zero, List.set_cons_succ]
        refine tk2 (.pointer (some ⟨X, 0, none⟩)) (by kernel_rfl) (by kernel_rfl) (by kernel_rfl) (fun _ _ _ h => h) rfl (fun w hSw => by (try dsimp only at hSw); obtain ⟨s3, q0, q1, q2, q3, q4, q5, q6, r0, r1, r2, r3, r4, r5, r6⟩ := hSw; go_simp) (by assumption) ?_
        try simp only [Act.put, List.setIfInBounds_toArray, List.set_cons_zero, List.set_cons_succ]
        refine tk3 (.pointer (some ⟨X, 3, none⟩)) (by kernel_rfl) (by kernel_rfl) (by kernel_rfl) (fun _ _ _ h => h) rfl (fun w hSw => by (try dsimp only at hSw); obtain ⟨s3, q0, q1, q2, q3, q4, q5, q6, r0, r1, r2, r3, r4, r5, r6⟩ := hSw; go_simp) (by assumption) ?_
        try simp only [Act.put, List.setIfInBounds_toArray, List.set_cons_zero, List.set_cons_succ]
        refine tk4 (.slice (some ⟨g, 0, none⟩) nv qv) (by kernel_rfl) (by kernel_rfl) (by kernel_rfl) (fun _ _ _ h => h) rfl (fun w hSw => by (try dsimp only at hSw); obtain ⟨s3, q0, q1, q2, q3, q4, q5, q6, r0, r1, r2, r3, r4, r5, r6⟩ := hSw; go_simp) (by assumption) ?_
        try simp only [Act.put, List.setIfInBounds_toArray, List.set_cons_zero, List.set_cons_succ]
        refine tk5 (.int .i64 (kk : Int)) (by kernel_rfl) (by kernel_rfl) (by kernel_rfl) (fun _ _ _ h => h) rfl (fun w hSw => by (try dsimp only at hSw); obtain ⟨s3, q0, q1, q2, q3, q4, q5, q6, r0, r1, r2, r3, r4, r5, r6⟩ := hSw; go_simp) (by assumption) ?_
        try simp only [Act.put, List.setIfInBounds_toArray, List.set_cons_zero, List.set_cons_succ]
        refine tk6 (.pointer (some ⟨g, kk * 7, none⟩)) (by kernel_rfl) (by kernel_rfl) (by kernel_rfl) (fun _ _ _ h => h) rfl (fun w hSw => by (try dsimp only at hSw); obtain ⟨s3, q0, q1, q2, q3, q4, q5, q6, r0, r1, r2, r3, r4, r5, r6⟩ := hSw; go_simp) (by assumption) ?_
        try simp only [Act.put, List.setIfInBounds_toArray, List.set_cons_zero, List.set_cons_succ]
        refine tk7 (.agg (enA x)) (by kernel_rfl) (by kernel_rfl) (by kernel_rfl) (fun _ _ _ h => h) rfl (fun w hSw => by (try dsimp only at hSw); obtain ⟨s3, q0, q1, q2, q3, q4, q5, q6, r0, r1, r2, r3, r4, r5, r6⟩ := hSw; go_simp) (by assumption) ?_
        try simp only [Act.put, List.setIfInBounds_toArray, List.set_cons_zero, List.set_cons_succ]
        refine tk8 (.agg (enA e)) (by kernel_rfl) (by kernel_rfl) (by kernel_rfl) (fun _ _ _ h => h) rfl (fun w hSw => by (try dsimp only at hSw); obtain ⟨s3, q0, q1, q2, q3, q4, q5, q6, r0, r1, r2, r3, r4, r5, r6⟩ := hSw; go_simp) (by assumption) ?_
        try simp only [Act.put, List.setIfInBounds_toArray, List.set_cons_zero, List.set_cons_succ]
        refine tk9 (.bool false) (by kernel_rfl) (by kernel_rfl) (by kernel_rfl) (fun _ _ _ h => h) rfl (fun w hSw => by (try dsimp only at hSw); obtain ⟨s3, q0, q1, q2, q3, q4, q5, q6, r0, r1, r2, r3, r4, r5, r6⟩ := hSw; go_simp) (by assumption) ?_
        try simp only [Act.put, List.setIfInBounds_toArray, List.set_cons_zero, List.set_cons_succ]
        refine tk10 (.bool false) (by kernel_rfl) (by kernel_rfl) (by kernel_rfl) (fun _ _ _ h => h) rfl (fun w hSw => by (try dsimp only at hSw); obtain ⟨s3, q0, q1, q2, q3, q4, q5, q6, r0, r1, r2, r3, r4, r5, r6⟩ := hSw; go_simp) (by assumption) ?_
        try simp only [Act.put, List.setIfInBounds_toArray, List.set_cons_zero, List.set_cons_succ]
        refine wpAnyH_done (by kernel_rfl) ?_ _
        clear cx0 cx1 cx2 cx3 cx4 cx5 cx6
        go_upto_region 3 with fail
        refine wp_region_held_drew (S := (fun y : World => y.cell? ⟨X, 3, none⟩ = some (.slice (some ⟨g, 0, none⟩) nv qv) ∧ y.cell? ⟨w.heap.size, 0, none⟩ = some (.int .i64 e.slot) ∧ y.cell? ⟨w.heap.size, 1, none⟩ = some (.int .i64 e.ballot) ∧ y.cell? ⟨w.heap.size, 2, none⟩ = some (.int .i64 e.cmd.kind) ∧ y.cell? ⟨w.heap.size, 3, none⟩ = some (.int .i64 e.cmd.session) ∧ y.cell? ⟨w.heap.size, 4, none⟩ = some (.int .i64 e.cmd.seq) ∧ y.cell? ⟨w.heap.size, 5, none⟩ = some (.string e.cmd.name) ∧ y.cell? ⟨w.heap.size, 6, none⟩ = some (.int .i64 e.cmd.n))) (by kernel_rfl) ?_ (fun hHeld0 => ?_)
        · try dsimp only
          go_keep
        refine tk0 (.pointer (some ⟨X, 0, none⟩)) (by kernel_rfl) (by kernel_rfl) (by kernel_rfl) (fun _ _ _ h => h) rfl (fun w hSw => by (try dsimp only at hSw); obtain ⟨s3, q0, q1, q2, q3, q4, q5, q6⟩ := hSw; go_simp) (by assumption) ?_
        try simp only [Act.put, List.setIfInBounds_toArray, List.set_cons_zero, List.set_cons_succ]
        refine tk1 (.pointer (some ⟨X, 0, none⟩)) (by kernel_rfl) (by kernel_rfl) (by kernel_rfl) (fun _ _ _ h => h) rfl (fun w hSw => by (try dsimp only at hSw); obtain ⟨s3, q0, q1, q2, q3, q4, q5, q6⟩ := hSw; go_simp) (by assumption) ?_
        try simp only [Act.put, List.setIfInBounds_toArray, List.set_cons_zero, List.set_cons_succ]
        refine tk2 (.pointer (some ⟨X, 0, none⟩)) (by kernel_rfl) (by kernel_rfl) (by kernel_rfl) (fun _ _ _ h => h) rfl (fun w hSw => by (try dsimp only at hSw); obtain ⟨s3, q0, q1, q2, q3, q4, q5, q6⟩ := hSw; go_simp) (by assumption) ?_
        try simp only [Act.put, List.setIfInBounds_toArray, List.set_cons_zero, List.set_cons_succ]
        refine tk3 (.pointer (some ⟨X, 3, none⟩)) (by kernel_rfl) (by kernel_rfl) (by kernel_rfl) (fun _ _ _ h => h) rfl (fun w hSw => by (try dsimp only at hSw); obtain ⟨s3, q0, q1, q2, q3, q4, q5, q6⟩ := hSw; go_simp) (by assumption) ?_
        try simp only [Act.put, List.setIfInBounds_toArray, List.set_cons_zero, List.set_cons_succ]
        refine tk4 (.slice (some ⟨g, 0, none⟩) nv qv) (by kernel_rfl) (by kernel_rfl) (by kernel_rfl) (fun _ _ _ h => h) rfl (fun w hSw => by (try dsimp only at hSw); obtain ⟨s3, q0, q1, q2, q3, q4, q5, q6⟩ := hSw; go_simp) (by assumption) ?_
        try simp only [Act.put, List.setIfInBounds_toArray, List.set_cons_zero, List.set_cons_succ]
        refine tk5 (.int .i64 (kk : Int)) (by kernel_rfl) (by kernel_rfl) (by kernel_rfl) (fun _ _ _ h => h) rfl (fun w hSw => by (try dsimp only at hSw); obtain ⟨s3, q0, q1, q2, q3, q4, q5, q6⟩ := hSw; go_simp) (by assumption) ?_
        try simp only [Act.put, List.setIfInBounds_toArray, List.set_cons_zero, List.set_cons_succ]
        refine tk6 (.agg (enA e)) (by kernel_rfl) (by kernel_rfl) (by kernel_rfl) (fun _ _ _ h => h) rfl (fun w hSw => by (try dsimp only at hSw); obtain ⟨s3, q0, q1, q2, q3, q4, q5, q6⟩ := hSw; go_simp) (by assumption) ?_
        try simp only [Act.put, List.setIfInBounds_toArray, List.set_cons_zero, List.set_cons_succ]
        refine cl7 (by kernel_rfl) rfl (fun K hK => ?_)
        go_simp
        go_at_call 40
        refine (aclone_any _ e hn).mono ?_
        rintro r w3 ⟨rfl, b3⟩
        have i3 := I2.out.drew.drew.fresh b3
        have I3 : Hid _ := i3
        have ze0 := EnAt.box i3.box 0 _ rfl
        have ze1 := EnAt.box i3.box 1 _ rfl
        have ze2 := EnAt.box i3.box 2 _ rfl
        have ze3 := EnAt.box i3.box 3 _ rfl
        have ze4 := EnAt.box i3.box 4 _ rfl
        have ze5 := EnAt.box i3.box 5 _ rfl
        have ze6 := EnAt.box i3.box 6 _ rfl
        have z3 := i3.pa.c3
        clear b3 i3
        refine hK.out _ _ ?_ (fun hHeld => ?_)
        · try dsimp only
          go_keep
        clear hK K
        try simp only [Act.put, List.setIfInBounds_toArray, List.set_cons_zero, List.set_cons_succ]
        refine tk8 (.pointer (some ⟨g, kk * 7, none⟩)) (by kernel_rfl) (by kernel_rfl) (by kernel_rfl) (fun _ _ _ h => h) rfl (fun w hSw => by (try dsimp only at hSw); obtain ⟨s3, q0, q1, q2, q3, q4, q5, q6⟩ := hSw; go_simp) (by assumption) ?_
        try simp only [Act.put, List.setIfInBounds_toArray, List.set_cons_zero, List.set_cons_succ]
        refine cl9 (by kernel_rfl) rfl (fun K hK => ?_)
        obtain ⟨cur, hcb, hcf, hco⟩ := own_set I3.out.pa.own kk hkl e
        refine wp_store_mid 36 _ _ rfl g (kk * 7) (enA e) rfl rfl 36 cur hcb sizeEn hcf (by simp [Value.oneCell']) ?_
        obtain ⟨w6, hw6⟩ : ∃ w6, w6 = w3.setRow g (cur.toList.take (kk * 7) ++ (enA e).toList ++ cur.toList.drop (kk * 7 + (enA e).size)).toArray := ⟨_, rfl⟩
        have q6 := I3.out.seted hco (grown_setRow_g w3 g _)
        rw [← hw6] at q6
        rw [← hw6]
        obtain ⟨h6, r6, b6, k6⟩ := q6
        have H6 : Hid _ := h6
        have R6 : Hid _ := r6
        have K6 : Hid _ := k6
        have v3 := h6.c3
        have ve0 := EnAt.box b6 0 _ rfl
        have ve1 := EnAt.box b6 1 _ rfl
        have ve2 := EnAt.box b6 2 _ rfl
        have ve3 := EnAt.box b6 3 _ rfl
        have ve4 := EnAt.box b6 4 _ rfl
        have ve5 := EnAt.box b6 5 _ rfl
        have ve6 := EnAt.box b6 6 _ rfl
        clear h6 r6 b6 k6 hw6 hcb hcf hco
        refine hK.out _ _ ?_ (fun hHeld => ?_)
        · try dsimp only
          go_keep
        clear hK K
        refine wpAnyH_done (by kernel_rfl) ?_ _
        go_wp2_with (go_at_call 36; refine (paccept_any R6.out hl2 e hn).mono ?_; rintro r w7 ⟨u7, rfl, r7, k7⟩; have R7 : Hid _ := r7; have K7 : Hid _ := k7; clear r7 k7)
        go_returns
        refine ⟨_, .slice (some ⟨g, 0, none⟩) nv qv, u7, rfl, ?_, ?_, Kept.both2 K6.out K7.out⟩
        · rw [HP.out]
          exact H6.out.keep fun b hb => K7.out.kept b (H6.out.bd b hb).2 (apart_PR H6.out R6.out b hb)
        · rw [HP.out]
          exact R7.out
end
end Go.Proofs.Ytkngpfngfmbmjaa
