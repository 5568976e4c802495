/-
  Package locks: a lock let go of, as plain data. The conditions: a session is an int, names at most 1000 bytes; fewer than 32767 deeds.
-/
import Derived.Test.YtmfadmhbkgemmaaQLcAskW
namespace Go.Proofs.Ytmfadmhbkgemmaa
open Go.RowKit

section
variable {P : Program} {md : Region.Mode} {Q : Exit → Act → World → Prop} {S : World → Prop} {fuel : Nat} {listed : Array Bool} {a : Act} {w : World} {l : List Oper}
theorem rd2_8 {o0 o1 o2 o3 o4 o5 o6 o7 o8 : Oper} (hr : Region.ready md (o0 :: o1 :: o2 :: o3 :: o4 :: o5 :: o6 :: o7 :: o8 :: l).toArray listed = [2, 8]) (hw0 : Region.wanted o2 (yielded (o0 :: o1 :: o2 :: o3 :: o4 :: o5 :: o6 :: o7 :: o8 :: l).toArray a.tmps) = true) (hw1 : Region.wanted o8 (yielded (o0 :: o1 :: o2 :: o3 :: o4 :: o5 :: o6 :: o7 :: o8 :: l).toArray a.tmps) = true)
    (h0 : ∀ K' : Act → World → Prop, Shut (∀ a w, S w → (S w → wpAnyH P md (o0 :: o1 :: o2 :: o3 :: o4 :: o5 :: o6 :: o7 :: o8 :: l).toArray Q S fuel (listed.setIfInBounds 2 true) a w) → K' a w) → Oper.wp P o2 a w K' Q)
    (h1 : ∀ K' : Act → World → Prop, Shut (∀ a w, S w → (S w → wpAnyH P md (o0 :: o1 :: o2 :: o3 :: o4 :: o5 :: o6 :: o7 :: o8 :: l).toArray Q S fuel (listed.setIfInBounds 8 true) a w) → K' a w) → Oper.wp P o8 a w K' Q) : wpAnyH P md (o0 :: o1 :: o2 :: o3 :: o4 :: o5 :: o6 :: o7 :: o8 :: l).toArray Q S (fuel + 1) listed a w :=
  wpAnyH_ready hr (by simp) (AllReadyH.cons (o := o2) rfl (fun K hK => by rw [if_pos hw0]; exact h0 K hK) (AllReadyH.cons (o := o8) rfl (fun K hK => by rw [if_pos hw1]; exact h1 K hK) AllReadyH.nil))
end
/-- While a lock is let go of: the command's place, that of who lets go. -/
structure RlI (w wr : World) (base D M : Nat) (c : Int) (l : List Lk) (T : List (ByteArray × Nat)) (own : ByteArray → Nat → Prop) (nm : ByteArray) (cm : Array Value) (g : Nat) (x : Wq) : Prop where
  I : LcL wr base D M c (lookK l) T own
  cmd : wr.heap[w.heap.size]? = some (.cells cm cmT (0, 0))
  box : wr.heap[g]? = some (.cells (lcWA x) lcWT (0, 0))
  bel : Below w.heap.size w wr
section
variable {w W wr w' : World} {base D M g : Nat} {c : Int} {l : List Lk} {T : List (ByteArray × Nat)} {own : ByteArray → Nat → Prop} {nm : ByteArray} {cm : Array Value} {x : Wq}
theorem RlI.fresh (h : RlI w wr base D M c l T own nm cm g x) (k : Below wr.heap.size wr w') : RlI w w' base D M c l T own nm cm g x :=
  ⟨h.I.fresh k, (k.block _ (lt_of_block h.cmd)).trans h.cmd, (k.block g (lt_of_block h.box)).trans h.box, h.bel.trans (k.mono h.bel.size)⟩
theorem RlI.c0 (h : RlI w wr base D M c l T own nm cm g x) : wr.cell? ⟨g, 0, none⟩ = some (.int .i64 x.s) := by simp [World.cell?, h.box]
theorem RlI.c1 (h : RlI w wr base D M c l T own nm cm g x) : wr.cell? ⟨g, 1, none⟩ = some (.int .i64 x.n) := by simp [World.cell?, h.box]
theorem RlI.c2 (h : RlI w wr base D M c l T own nm cm g x) : wr.cell? ⟨g, 2, none⟩ = some (.bool x.rd) := by simp [World.cell?, h.box]
theorem RlI.mk' (I : LcL W base D M c (lookK l) T own) (bW : Below w.heap.size w W) (nW : W.heap[w.heap.size]? = some (.cells cm cmT (0, 0))) : RlI w (W.alloc (.cells (lcWA x) lcWT)) base D M c l T own nm cm W.heap.size x := by
  have b2 : Below W.heap.size W (W.alloc (.cells (lcWA x) lcWT)) := (Below.refl _ W).alloc (Nat.le_refl _) _
  exact ⟨I.fresh b2, (b2.block _ (lt_of_block nW)).trans nW, heap_alloc_new W _, bW.trans (b2.mono bW.size)⟩
theorem cells4_alloc {v : World} {o : Obj} {a b : Nat} {x : Wq} {nm : ByteArray} (h : v.cell? ⟨a, 0, none⟩ = some (.int .i64 x.s) ∧ v.cell? ⟨a, 1, none⟩ = some (.int .i64 x.n) ∧ v.cell? ⟨a, 2, none⟩ = some (.bool x.rd) ∧ v.cell? ⟨b, 3, none⟩ = some (.string nm)) : (v.alloc o).cell? ⟨a, 0, none⟩ = some (.int .i64 x.s) ∧ (v.alloc o).cell? ⟨a, 1, none⟩ = some (.int .i64 x.n) ∧ (v.alloc o).cell? ⟨a, 2, none⟩ = some (.bool x.rd) ∧ (v.alloc o).cell? ⟨b, 3, none⟩ = some (.string nm) := by
  have lt : ∀ {g j u}, v.cell? ⟨g, j, none⟩ = some u → (v.alloc o).cell? ⟨g, j, none⟩ = some u := fun {g j u} hc => by
    have hg : g < v.heap.size := by
      cases hb : v.heap[g]? with
      | none => simp [World.cell?, hb] at hc
      | some _ => exact lt_of_block hb
    exact (World.cell?_of_block (a := ⟨g, j, none⟩) (Below.heap_alloc _ _ _ hg)).trans hc
  exact ⟨lt h.1, lt h.2.1, lt h.2.2.1, lt h.2.2.2⟩
theorem cells4_app {v v' : World} {base a b g7 : Nat} {x : Wq} {nm : ByteArray} {u' : Value} (h : v.cell? ⟨a, 0, none⟩ = some (.int .i64 x.s) ∧ v.cell? ⟨a, 1, none⟩ = some (.int .i64 x.n) ∧ v.cell? ⟨a, 2, none⟩ = some (.bool x.rd) ∧ v.cell? ⟨b, 3, none⟩ = some (.string nm)) (ap : Appended base v v' (.slice (some ⟨g7, 0, none⟩) 1 1) u') (hb : b < v.heap.size) (ha : a < v.heap.size) (nb : b ≠ g7) (na : a ≠ g7) : v'.cell? ⟨a, 0, none⟩ = some (.int .i64 x.s) ∧ v'.cell? ⟨a, 1, none⟩ = some (.int .i64 x.n) ∧ v'.cell? ⟨a, 2, none⟩ = some (.bool x.rd) ∧ v'.cell? ⟨b, 3, none⟩ = some (.string nm) := by
  have k : ∀ {g j u}, g < v.heap.size → g ≠ g7 → v.cell? ⟨g, j, none⟩ = some u → v'.cell? ⟨g, j, none⟩ = some u := fun {g j u} h1 h2 hc => (World.cell?_of_block (a := ⟨g, j, none⟩) (ap.rest g h1 (fun e => h2 (by
    have e : some g = some g7 := e
    exact Option.some.inj e)))).trans hc
  exact ⟨k ha na h.1, k ha na h.2.1, k ha na h.2.2.1, k hb nb h.2.2.2⟩
theorem RlI.cells4 {own' : ByteArray → Nat → Prop} {k s n m : Int} (h : RlI w wr base D M c l T own nm (cmA k s n nm m) g x) (hl : ∀ b, setL D M own b → b < w.heap.size) (hk : Kept wr w' (setL D M own) (setL D M own')) (hg : w.heap.size ≤ g) : w'.cell? ⟨g, 0, none⟩ = some (.int .i64 x.s) ∧ w'.cell? ⟨g, 1, none⟩ = some (.int .i64 x.n) ∧ w'.cell? ⟨g, 2, none⟩ = some (.bool x.rd) ∧ w'.cell? ⟨w.heap.size, 3, none⟩ = some (.string nm) := by
  have e1 := (hk.kept g (lt_of_block h.box) (fun e => by have := hl _ e; omega)).trans h.box
  have e2 := (hk.kept _ (lt_of_block h.cmd) (fun e => by have := hl _ e; omega)).trans h.cmd
  exact ⟨by simp [World.cell?, e1], by simp [World.cell?, e1], by simp [World.cell?, e1], by simp [World.cell?, e2]⟩
theorem RlI.cells4s {k s n m : Int} (h : RlI w wr base D M c l T own nm (cmA k s n nm m) g x) : wr.cell? ⟨g, 0, none⟩ = some (.int .i64 x.s) ∧ wr.cell? ⟨g, 1, none⟩ = some (.int .i64 x.n) ∧ wr.cell? ⟨g, 2, none⟩ = some (.bool x.rd) ∧ wr.cell? ⟨w.heap.size, 3, none⟩ = some (.string nm) :=
  ⟨h.c0, h.c1, h.c2, by simp [World.cell?, h.cmd]⟩
theorem AkT.inv {N i X : Nat} {y : Lk} (h : AkT w base D M N c l T own nm i y X) : LkInv y := h.ok.each y (List.mem_of_getElem? h.hi)
theorem AkT.lkK {N i X : Nat} {y : Lk} (h : AkT w base D M N c l T own nm i y X) : lookK l nm = some y := (lookK_iff (srt_nodup h.ok.srt)).2 ⟨List.mem_of_getElem? h.hi, h.hn⟩
theorem AkT.sumN {N i X : Nat} {y : Lk} (h : AkT w base D M N c l T own nm i y X) : y.h.length + y.q.length ≤ N := (h.fit.each y (List.mem_of_getElem? h.hi)).sum
theorem srv_few : ∀ (q : List Wq) (c : Int) (h : List Int) (b : Bool), (srvH q c h b).2.2.2.2.length ≤ q.length
  | [], _, _, _ => Nat.le_refl _
  | x :: q, c, h, b => by
    unfold srvH
    split
    · simp only [List.length_cons]
      have := srv_few q (giveH c h b x).1 (giveH c h b x).2.1 (giveH c h b x).2.2.1
      omega
    · exact Nat.zero_le _
theorem pdK_few {N : Nat} {y : Lk} {s : Int} (h : y.h.length + y.q.length ≤ N) : (pdK y c s).2.2.length ≤ N := by
  have h1 := srv_few (lessQ y.q s) c (dropL y.h s) y.wr
  have h2 : (lessQ y.q s).length ≤ y.q.length := List.length_filter_le _ _
  show (srvH (lessQ y.q s) c (dropL y.h s) y.wr).2.2.2.2.length ≤ N
  omega
theorem LcAt.cellW {X : Nat} {S : Nat → Prop} {h : List Int} {b : Bool} {q : List Wq} (I : LcAt w X S h b q) : w.cell? ⟨X, 1, none⟩ = some (.bool b) := by
  obtain ⟨H, P, L, hs, ps, M⟩ := I.ex
  exact M.cell 1 _ rfl
end
theorem relS_eq {c : Int} {l : List Lk} {i : Nat} {y : Lk} {s : Int} (hy : LkInv y) (hb : hasB y.h s = true) (n : Int) : relS c l i y s n = ((pdK y c s).1, tidyL (l.set i (pdK y c s).2.1), ⟨s, n, 0, 0, 0⟩ :: (pdK y c s).2.2) := by
  have hw : waitB y.q s = false := by
    unfold waitB
    rw [List.any_eq_false]
    intro z hz
    have := hy.pre.ap z hz
    have hne : z.s ≠ s := fun e => by rw [e, hb] at this; cases this
    simpa using hne
  unfold relS pdK
  rw [lessQ_none hw]
theorem AkT.relL {w : World} {base D M N i X : Nat} {c : Int} {l : List Lk} {T : List (ByteArray × Nat)} {own : ByteArray → Nat → Prop} {nm : ByteArray} {y : Lk} (h : AkT w base D M N c l T own nm i y X) {k s n : Int} (hk : ¬ (k ≠ 6 ∧ k ≠ 8)) : relL c l k s n nm = if hasB y.h s = false ∨ y.wr ≠ (k == 6) then (c, l, [⟨s, n, 13, 0, 0⟩]) else relS c l i y s n := by
  have h1 : lookK l nm = some y := (lookK_iff (srt_nodup h.ok.srt)).2 ⟨List.mem_of_getElem? h.hi, h.hn⟩
  rw [← lkIx_look] at h1
  unfold Go.Proofs.Ytmfadmhbkgemmaa.relL
  rw [if_neg hk]
  cases hj : lkIx l nm with
  | none => rw [hj] at h1; cases h1
  | some j =>
    rw [hj] at h1
    have h1 : l[j]? = some y := h1
    obtain ⟨hjl, hje⟩ := List.getElem?_eq_some_iff.1 h1
    obtain ⟨hil, hie⟩ := List.getElem?_eq_some_iff.1 h.hi
    have hij : j = i := by
      have hp := List.pairwise_iff_getElem.1 (srt_nodup h.ok.srt)
      rcases Nat.lt_trichotomy j i with c | c | c
      · exact absurd (by rw [List.getElem_map, List.getElem_map, hje, hie]) (hp j i (by simpa using hjl) (by simpa using hil) c)
      · exact c
      · exact absurd (by rw [List.getElem_map, List.getElem_map, hje, hie]) (hp i j (by simpa using hil) (by simpa using hjl) c)
    subst hij
    simp only [h1]
theorem relL_none {c : Int} {l : List Lk} {k s n : Int} {nm : ByteArray} (hl : lookK l nm = none) (hk : ¬ (k ≠ 6 ∧ k ≠ 8)) : relL c l k s n nm = (c, l, [⟨s, n, 13, 0, 0⟩]) := by
  rw [← lkIx_look] at hl
  unfold relL
  rw [if_neg hk]
  cases hj : lkIx l nm with
  | none => rfl
  | some j =>
    rw [hj] at hl
    have hl : l[j]? = none := hl
    simp only [hl]
/-- The answer at hand, the grants at hand: before they are put behind one another. -/
structure RlQ (w w8 : World) (base D M : Nat) (own : ByteArray → Nat → Prop) (K' : ByteArray → Option Lk) (c' : Int) (g7 : Nat) (r0 : SeR) (u : Value) (ys : List SeR) : Prop where
  one : w8.heap[g7]? = some (.cells (rpA r0) rpT (0, 0))
  lo : w.heap.size ≤ g7
  row : RowAt rpC w8 u ys
  ex : ∃ T' own', LcL w8 base D M c' K' T' own' ∧ Kept w w8 (setL D M own) (setL D M own') ∧ ¬ setL D M own' g7
section
variable {w w6 w7 w8 w9 : World} {base D M g7 : Nat} {own : ByteArray → Nat → Prop} {K K' : ByteArray → Option Lk} {c c' : Int} {r0 : SeR} {u : Value} {ys : List SeR} {nm : ByteArray} {t : Int × Lk × List SeR}
theorem RlQ.own1 (h : RlQ w w8 base D M own K' c' g7 r0 u ys) : w8.ownsRow w.heap.size rpT 5 (.slice (some ⟨g7, 0, none⟩) 1 1) [r0].length (rowL rpC [r0]) :=
  ⟨rfl, Or.inr ⟨g7, 1, rpA r0, rfl, h.lo, h.one, Nat.le_refl _, by decide, rfl, rfl⟩⟩
/-- The answer first, then the grants. -/
theorem RlQ.first (k6 : Kept w w7 (setL D M own) (setL D M own)) (hl : ∀ b, setL D M own b → b < w.heap.size) (n7 : w7.heap[g7]? = some (.cells (rpA r0) rpT (0, 0))) (hg : w.heap.size ≤ g7)
    (ho : w8.ownsRow w7.heap.size rpT 5 u ys.length (rowL rpC ys)) {T' : List (ByteArray × Nat)} {own' : ByteArray → Nat → Prop} (L : LcL w8 base D M c' K' T' own') (k : Kept w7 w8 (setL D M own) (setL D M own')) : RlQ w w8 base D M own K' c' g7 r0 u ys := by
  have h1 : ¬ setL D M own g7 := fun e => by have := hl _ e; omega
  refine ⟨(k.kept g7 (lt_of_block n7) h1).trans n7, hg, RowAt.own rpC_len ho, T', own', L, k6.trans k, fun e => ?_⟩
  rcases k.old g7 e with e | e
  · exact h1 e
  · have := lt_of_block n7
    omega
/-- The grants first, then the answer. -/
theorem RlQ.last (k6 : Kept w w6 (setL D M own) (setL D M own)) (ho : w7.ownsRow w6.heap.size rpT 5 u ys.length (rowL rpC ys)) {T' : List (ByteArray × Nat)} {own' : ByteArray → Nat → Prop} (L : LcL w7 base D M c' K' T' own') (k : Kept w6 w7 (setL D M own) (setL D M own')) : RlQ w (w7.alloc (.cells (rpA r0) rpT)) base D M own K' c' w7.heap.size r0 u ys := by
  have b := (Below.refl _ w7).alloc (Nat.le_refl _) (.cells (rpA r0) rpT)
  refine ⟨heap_alloc_new w7 _, Nat.le_trans k6.size k.size, (RowAt.own rpC_len ho).fresh b, T', own', L.fresh b, k6.trans (k.trans (Kept.of b)), fun e => ?_⟩
  have := (L.bd _ e).2
  omega
theorem RlQ.fin {u9 : Value} (h : RlQ w w8 base D M own K' c' g7 r0 u ys) (a : Appended w.heap.size w8 w9 (.slice (some ⟨g7, 0, none⟩) 1 1) u9) : ∃ T' own', LcL w9 base D M c' K' T' own' ∧ Kept w w9 (setL D M own) (setL D M own') ∧ ∀ g, u9.ownBlock = some g → ¬ setL D M own' g := by
  obtain ⟨T', own', L, k, hn⟩ := h.ex
  have hk : ∀ b, b < w8.heap.size → b ≠ g7 → w9.heap[b]? = w8.heap[b]? := fun b h1 h2 => a.rest b h1 (fun e => h2 (by
    have e : some b = some g7 := e
    exact Option.some.inj e))
  exact ⟨T', own', L.keep fun b hb => hk b (L.bd b hb).2 (fun e => hn (e ▸ hb)), ⟨a.below.os.trans k.os, a.below.tape.trans k.tape, a.below.output.trans k.output, Nat.le_trans k.size a.below.size, k.old, fun b hb hnb => (hk b (Nat.lt_of_lt_of_le hb k.size) (fun e => by have := h.lo; omega)).trans (k.kept b hb hnb)⟩, fun g e e2 => by
    rcases a.lies with e3 | e3
    · have e4 : some g7 = some g := e3.symm.trans e
      exact hn (by rw [Option.some.inj e4]; exact e2)
    · rw [e3] at e
      have e4 : w8.heap.size = g := Option.some.inj e
      have := (L.bd g e2).2
      omega⟩
end
set_option maxRecDepth 100000 in
set_option maxHeartbeats 8000000 in
theorem prel_none {w : World} {base D M N : Nat} {c : Int} {l : List Lk} {T : List (ByteArray × Nat)} {own : ByteArray → Nat → Prop} {nm : ByteArray} (I : LcL w base D M c (lookK l) T own) (ok : LcOk l) (fit : LoFit N c l) (hnn : lookK l nm = none) {k s n m : Int} (hk : k = 6 ∨ k = 8) (hm : nm.size ≤ 1000) :
    Calls Try.prog 12 #[.pointer (some ⟨D, 0, none⟩), .agg (cmA k s n nm m)] w (RepP w base D (setL D M own) N (c, l, [⟨s, n, 13, 0, 0⟩])) := by
  obtain ⟨W, hW⟩ : ∃ W, W = w.alloc (.cells (cmA k s n nm m) cmT) := ⟨_, rfl⟩
  have bW : Below w.heap.size w W := by rw [hW]; exact (Below.refl _ w).alloc (Nat.le_refl _) _
  have nW : W.heap[w.heap.size]? = some (.cells (cmA k s n nm m) cmT (0, 0)) := by rw [hW]; exact heap_alloc_new w _
  have IW := I.fresh bW
  have y0 : W.cell? ⟨w.heap.size, 0, none⟩ = some (.int .i64 k) := by simp [World.cell?, nW]
  have y1 : W.cell? ⟨w.heap.size, 1, none⟩ = some (.int .i64 s) := by simp [World.cell?, nW]
  have y2 : W.cell? ⟨w.heap.size, 2, none⟩ = some (.int .i64 n) := by simp [World.cell?, nW]
  have HW : Hid (w.alloc (.cells #[.int .i64 k, .int .i64 s, .int .i64 n, .string nm, .int .i64 m] cmT) = W) := hW.symm
  have HWL : Hid (w.heap.size ≤ W.heap.size) := bW.size
  have HV0 : Hid (RlI w (W.alloc (.cells (lcWA ⟨s, n, k == 8⟩) lcWT)) base D M c l T own nm (cmA k s n nm m) W.heap.size ⟨s, n, k == 8⟩) := RlI.mk' IW bW nW
  have hlkd := (IW.keep (w' := (W.alloc (.cells (lcWA ⟨s, n, k == 8⟩) lcWT)).drew) fun g hg => Below.heap_alloc _ _ _ (IW.bd g hg).2).look2 (nm := nm) (by unfold maxLen; omega)
  rw [hnn, (IW.no nm hnn).1] at hlkd
  have HLK : Hid _ := hlkd
  have HL : Hid (LcOk l ∧ LoFit N c l) := (show Hid _ from (⟨ok, fit⟩ : _ ∧ _))
  clear I IW bW nW hW hm ok fit hnn hlkd
  rcases hk with rfl | rfl
  · skip
    go_enter Try.func12, Try.ntmps12
    go_upto_region 1 with fail
    rw [HW.out]
    go_upto_region 4 with fail
    obtain ⟨V, hV⟩ : ∃ V, V = W.alloc (.cells (lcWA ⟨s, n, false⟩) lcWT) := ⟨_, rfl⟩
    have HV : Hid (W.alloc (.cells #[.int .i64 s, .int .i64 n, .bool false] lcWT) = V) := hV.symm
    rw [HV.out]
    obtain ⟨x, hx⟩ : ∃ x : Wq, x = ⟨s, n, false⟩ := ⟨_, rfl⟩
    have HX : Hid (x = ⟨s, n, false⟩) := hx
    have HGE : Hid (w.heap.size ≤ W.heap.size) := HWL.out
    have IV : Hid (RlI w V base D M c l T own nm (cmA 6 s n nm m) W.heap.size x) := (show RlI w V base D M c l T own nm (cmA 6 s n nm m) W.heap.size x from by rw [hV, hx]; exact HV0.out)
    have HS0 : Hid ((fun w' : World => w'.cell? ⟨D, 0, none⟩ = some (.map (some M)) ∧ w'.cell? ⟨w.heap.size, 3, none⟩ = some (.string nm) ∧ (Instr.lookup 58 (.map (some M)) (.string nm) true).run Try.prog w' = .ok (.tuple #[.pointer none, .bool false]) w') V.drew) := (show (fun w' : World => w'.cell? ⟨D, 0, none⟩ = some (.map (some M)) ∧ w'.cell? ⟨w.heap.size, 3, none⟩ = some (.string nm) ∧ (Instr.lookup 58 (.map (some M)) (.string nm) true).run Try.prog w' = .ok (.tuple #[.pointer none, .bool false]) w') V.drew from ⟨(IV.out.I).cellM, by have := IV.out.cmd; simp only [World.cell?, show V.drew.heap[w.heap.size]? = _ from this]; rfl, by rw [hV]; exact HLK.out⟩)
    clear hV hx y0 y1 y2 HV0 HLK
    refine wp_region_held_drew (S := (fun w' : World => w'.cell? ⟨D, 0, none⟩ = some (.map (some M)) ∧ w'.cell? ⟨w.heap.size, 3, none⟩ = some (.string nm) ∧ (Instr.lookup 58 (.map (some M)) (.string nm) true).run Try.prog w' = .ok (.tuple #[.pointer none, .bool false]) w')) (by kernel_rfl) ?_ (fun hHeld0 => ?_)
    · exact HS0.out
    refine tk0 (.pointer (some ⟨D, 0, none⟩)) (by kernel_rfl) (by kernel_rfl) (by kernel_rfl) (fun _ _ _ h => h) rfl (fun w hSw => by (try dsimp only at hSw); obtain ⟨q0, q1, q2⟩ := hSw; go_simp) (by assumption) ?_
    try simp only [Act.put, List.setIfInBounds_toArray, List.set_cons_zero, List.set_cons_succ]
    refine tk1 (.pointer (some ⟨D, 0, none⟩)) (by kernel_rfl) (by kernel_rfl) (by kernel_rfl) (fun _ _ _ h => h) rfl (fun w hSw => by (try dsimp only at hSw); obtain ⟨q0, q1, q2⟩ := hSw; go_simp) (by assumption) ?_
    try simp only [Act.put, List.setIfInBounds_toArray, List.set_cons_zero, List.set_cons_succ]
    refine tk2 (.pointer (some ⟨D, 0, none⟩)) (by kernel_rfl) (by kernel_rfl) (by kernel_rfl) (fun _ _ _ h => h) rfl (fun w hSw => by (try dsimp only at hSw); obtain ⟨q0, q1, q2⟩ := hSw; go_simp) (by assumption) ?_
    try simp only [Act.put, List.setIfInBounds_toArray, List.set_cons_zero, List.set_cons_succ]
    refine tk3 (.map (some M)) (by kernel_rfl) (by kernel_rfl) (by kernel_rfl) (fun _ _ _ h => h) rfl (fun w hSw => by (try dsimp only at hSw); obtain ⟨q0, q1, q2⟩ := hSw; go_simp) (by assumption) ?_
    try simp only [Act.put, List.setIfInBounds_toArray, List.set_cons_zero, List.set_cons_succ]
    refine tk4 (.pointer (some ⟨w.heap.size, 3, none⟩)) (by kernel_rfl) (by kernel_rfl) (by kernel_rfl) (fun _ _ _ h => h) rfl (fun w hSw => by (try dsimp only at hSw); obtain ⟨q0, q1, q2⟩ := hSw; go_simp) (by assumption) ?_
    try simp only [Act.put, List.setIfInBounds_toArray, List.set_cons_zero, List.set_cons_succ]
    refine tk5 (.string nm) (by kernel_rfl) (by kernel_rfl) (by kernel_rfl) (fun _ _ _ h => h) rfl (fun w hSw => by (try dsimp only at hSw); obtain ⟨q0, q1, q2⟩ := hSw; go_simp) (by assumption) ?_
    try simp only [Act.put, List.setIfInBounds_toArray, List.set_cons_zero, List.set_cons_succ]
    refine tk6 (.tuple #[.pointer none, .bool false]) (by kernel_rfl) (by kernel_rfl) (by kernel_rfl) (fun _ _ _ h => h) rfl (fun w hSw => by (try dsimp only at hSw); obtain ⟨q0, q1, q2⟩ := hSw; go_simp) (by assumption) ?_
    try simp only [Act.put, List.setIfInBounds_toArray, List.set_cons_zero, List.set_cons_succ]
    refine tk7 (.tuple #[.pointer none, .bool false]) (by kernel_rfl) (by kernel_rfl) (by kernel_rfl) (fun _ _ _ h => h) rfl (fun w hSw => by (try dsimp only at hSw); obtain ⟨q0, q1, q2⟩ := hSw; go_simp) (by assumption) ?_
    try simp only [Act.put, List.setIfInBounds_toArray, List.set_cons_zero, List.set_cons_succ]
    refine tk8 (.pointer none) (by kernel_rfl) (by kernel_rfl) (by kernel_rfl) (fun _ _ _ h => h) rfl (fun w hSw => by (try dsimp only at hSw); obtain ⟨q0, q1, q2⟩ := hSw; go_simp) (by assumption) ?_
    try simp only [Act.put, List.setIfInBounds_toArray, List.set_cons_zero, List.set_cons_succ]
    refine tk9 (.bool false) (by kernel_rfl) (by kernel_rfl) (by kernel_rfl) (fun _ _ _ h => h) rfl (fun w hSw => by (try dsimp only at hSw); obtain ⟨q0, q1, q2⟩ := hSw; go_simp) (by assumption) ?_
    try simp only [Act.put, List.setIfInBounds_toArray, List.set_cons_zero, List.set_cons_succ]
    refine tk10 (.pointer none) (by kernel_rfl) (by kernel_rfl) (by kernel_rfl) (fun _ _ _ h => h) rfl (fun w hSw => by (try dsimp only at hSw); obtain ⟨q0, q1, q2⟩ := hSw; go_simp) (by assumption) ?_
    try simp only [Act.put, List.setIfInBounds_toArray, List.set_cons_zero, List.set_cons_succ]
    refine tk11 (.bool false) (by kernel_rfl) (by kernel_rfl) (by kernel_rfl) (fun _ _ _ h => h) rfl (fun w hSw => by (try dsimp only at hSw); obtain ⟨q0, q1, q2⟩ := hSw; go_simp) (by assumption) ?_
    try simp only [Act.put, List.setIfInBounds_toArray, List.set_cons_zero, List.set_cons_succ]
    refine wpAnyH_done (by kernel_rfl) ?_ _
    go_upto_region 5 with fail
    obtain ⟨V1, hV1⟩ : ∃ V1, V1 = V.drew := ⟨_, rfl⟩
    rw [← hV1]
    refine wp_region_held_drew (S := (fun _ : World => True)) (by kernel_rfl) ?_ (fun hHeld0 => ?_)
    · trivial
    refine tk0 (.bool false) (by kernel_rfl) (by kernel_rfl) (by kernel_rfl) (fun _ _ _ h => h) rfl (fun w hSw => by (try dsimp only at hSw); go_simp) trivial ?_
    try simp only [Act.put, List.setIfInBounds_toArray, List.set_cons_zero, List.set_cons_succ]
    refine tk1 (.bool true) (by kernel_rfl) (by kernel_rfl) (by kernel_rfl) (fun _ _ _ h => h) rfl (fun w hSw => by (try dsimp only at hSw); go_simp) trivial ?_
    try simp only [Act.put, List.setIfInBounds_toArray, List.set_cons_zero, List.set_cons_succ]
    refine tk2 (.bool true) (by kernel_rfl) (by kernel_rfl) (by kernel_rfl) (fun _ _ _ h => h) rfl (fun w hSw => by (try dsimp only at hSw); go_simp) trivial ?_
    try simp only [Act.put, List.setIfInBounds_toArray, List.set_cons_zero, List.set_cons_succ]
    refine sk3 (by kernel_rfl) (by kernel_rfl) (by kernel_rfl) (fun _ _ _ h => h) rfl trivial ?_
    try simp only [Act.put, List.setIfInBounds_toArray, List.set_cons_zero, List.set_cons_succ]
    refine sk4 (by kernel_rfl) (by kernel_rfl) (by kernel_rfl) (fun _ _ _ h => h) rfl trivial ?_
    try simp only [Act.put, List.setIfInBounds_toArray, List.set_cons_zero, List.set_cons_succ]
    refine sk5 (by kernel_rfl) (by kernel_rfl) (by kernel_rfl) (fun _ _ _ h => h) rfl trivial ?_
    try simp only [Act.put, List.setIfInBounds_toArray, List.set_cons_zero, List.set_cons_succ]
    refine sk6 (by kernel_rfl) (by kernel_rfl) (by kernel_rfl) (fun _ _ _ h => h) rfl trivial ?_
    try simp only [Act.put, List.setIfInBounds_toArray, List.set_cons_zero, List.set_cons_succ]
    refine sk7 (by kernel_rfl) (by kernel_rfl) (by kernel_rfl) (fun _ _ _ h => h) rfl trivial ?_
    try simp only [Act.put, List.setIfInBounds_toArray, List.set_cons_zero, List.set_cons_succ]
    refine tk8 (.bool true) (by kernel_rfl) (by kernel_rfl) (by kernel_rfl) (fun _ _ _ h => h) rfl (fun w hSw => by (try dsimp only at hSw); go_simp) trivial ?_
    try simp only [Act.put, List.setIfInBounds_toArray, List.set_cons_zero, List.set_cons_succ]
    refine tk9 (.bool true) (by kernel_rfl) (by kernel_rfl) (by kernel_rfl) (fun _ _ _ h => h) rfl (fun w hSw => by (try dsimp only at hSw); go_simp) trivial ?_
    try simp only [Act.put, List.setIfInBounds_toArray, List.set_cons_zero, List.set_cons_succ]
    refine sk10 (by kernel_rfl) (by kernel_rfl) (by kernel_rfl) (fun _ _ _ h => h) rfl trivial ?_
    try simp only [Act.put, List.setIfInBounds_toArray, List.set_cons_zero, List.set_cons_succ]
    refine sk11 (by kernel_rfl) (by kernel_rfl) (by kernel_rfl) (fun _ _ _ h => h) rfl trivial ?_
    try simp only [Act.put, List.setIfInBounds_toArray, List.set_cons_zero, List.set_cons_succ]
    refine sk12 (by kernel_rfl) (by kernel_rfl) (by kernel_rfl) (fun _ _ _ h => h) rfl trivial ?_
    try simp only [Act.put, List.setIfInBounds_toArray, List.set_cons_zero, List.set_cons_succ]
    refine sk13 (by kernel_rfl) (by kernel_rfl) (by kernel_rfl) (fun _ _ _ h => h) rfl trivial ?_
    try simp only [Act.put, List.setIfInBounds_toArray, List.set_cons_zero, List.set_cons_succ]
    refine sk14 (by kernel_rfl) (by kernel_rfl) (by kernel_rfl) (fun _ _ _ h => h) rfl trivial ?_
    try simp only [Act.put, List.setIfInBounds_toArray, List.set_cons_zero, List.set_cons_succ]
    refine sk15 (by kernel_rfl) (by kernel_rfl) (by kernel_rfl) (fun _ _ _ h => h) rfl trivial ?_
    try simp only [Act.put, List.setIfInBounds_toArray, List.set_cons_zero, List.set_cons_succ]
    refine sk16 (by kernel_rfl) (by kernel_rfl) (by kernel_rfl) (fun _ _ _ h => h) rfl trivial ?_
    try simp only [Act.put, List.setIfInBounds_toArray, List.set_cons_zero, List.set_cons_succ]
    refine tk17 (.bool true) (by kernel_rfl) (by kernel_rfl) (by kernel_rfl) (fun _ _ _ h => h) rfl (fun w hSw => by (try dsimp only at hSw); go_simp) trivial ?_
    try simp only [Act.put, List.setIfInBounds_toArray, List.set_cons_zero, List.set_cons_succ]
    refine wpAnyH_done (by kernel_rfl) ?_ _
    obtain ⟨V2, hV2⟩ : ∃ V2, V2 = V1.drew := ⟨_, rfl⟩
    rw [← hV2]
    have I2 : Hid (RlI w V2 base D M c l T own nm (cmA 6 s n nm m) W.heap.size x) := (show RlI w V2 base D M c l T own nm (cmA 6 s n nm m) W.heap.size x from by rw [hV2, hV1]; exact IV.out.fresh ⟨rfl, rfl, rfl, Nat.le_refl _, fun _ _ => rfl⟩)
    clear hV1 hV2
    go_wp2_with (first | (go_at_call 25; rw [HW6.out]; refine (behind_any (base := w6.heap.size) (xs := []) (World.ownsRow_nil _ _ _ _) R6.out (Nat.le_refl _) (by simp)).mono ?_; rintro e w7 ⟨u7, rfl, o7, a7⟩; obtain ⟨p7, n7, c7, rfl⟩ := own_form o7) | (go_at_call 26; refine (refused_any V2 x 13).mono ?_; rintro e w5 ⟨rfl, b5⟩; obtain ⟨w6, hw6⟩ : ∃ w6, w6 = w5.alloc (.cells (rpA ⟨x.s, x.n, 13, 0, 0⟩) rpT) := ⟨_, rfl⟩; have b6 : Below V2.heap.size V2 w6 := (by rw [hw6]; exact b5.trans (((Below.refl _ w5).alloc (Nat.le_refl _) _).mono b5.size)); have I6 : Hid _ := I2.out.fresh b6; have R6 : Hid (RowAt rpC w6 (.slice (some ⟨w5.heap.size, 0, none⟩) 1 1) [⟨x.s, x.n, 13, 0, 0⟩]) := (by rw [hw6]; exact rp_one); have HW6 : Hid (w5.alloc (.cells #[.int .i64 x.s, .int .i64 x.n, .int .i64 13, .int .u64 0, .int .i64 0] rpT) = w6) := hw6.symm; clear hw6 b6 b5) | (show wpList _ _ _ (⟨_, Op.load lcWT _, _, _, _, _⟩ :: _) _ _; refine load_row_g rfl lcWT _ rfl W.heap.size rfl lcWT (lcWA x) (0, 0) _ I2.out.box Try.underlying70 rfl sizeLw ?_))
    go_ret
    have I7 := I6.out.fresh a7.below
    exact ⟨_, _, rfl, by rw [HX.out] at o7; exact RowAt.own rpC_len o7, ⟨⟨M, T, own, I7.I, rfl⟩, HL.out.1, HL.out.2⟩, Kept.of I7.bel, sep_new o7 fun g hg => (I6.out.I.bd g hg).2⟩
  · skip
    go_enter Try.func12, Try.ntmps12
    go_upto_region 1 with fail
    rw [HW.out]
    go_upto_region 4 with fail
    obtain ⟨V, hV⟩ : ∃ V, V = W.alloc (.cells (lcWA ⟨s, n, true⟩) lcWT) := ⟨_, rfl⟩
    have HV : Hid (W.alloc (.cells #[.int .i64 s, .int .i64 n, .bool true] lcWT) = V) := hV.symm
    rw [HV.out]
    obtain ⟨x, hx⟩ : ∃ x : Wq, x = ⟨s, n, true⟩ := ⟨_, rfl⟩
    have HX : Hid (x = ⟨s, n, true⟩) := hx
    have HGE : Hid (w.heap.size ≤ W.heap.size) := HWL.out
    have IV : Hid (RlI w V base D M c l T own nm (cmA 8 s n nm m) W.heap.size x) := (show RlI w V base D M c l T own nm (cmA 8 s n nm m) W.heap.size x from by rw [hV, hx]; exact HV0.out)
    have HS0 : Hid ((fun w' : World => w'.cell? ⟨D, 0, none⟩ = some (.map (some M)) ∧ w'.cell? ⟨w.heap.size, 3, none⟩ = some (.string nm) ∧ (Instr.lookup 58 (.map (some M)) (.string nm) true).run Try.prog w' = .ok (.tuple #[.pointer none, .bool false]) w') V.drew) := (show (fun w' : World => w'.cell? ⟨D, 0, none⟩ = some (.map (some M)) ∧ w'.cell? ⟨w.heap.size, 3, none⟩ = some (.string nm) ∧ (Instr.lookup 58 (.map (some M)) (.string nm) true).run Try.prog w' = .ok (.tuple #[.pointer none, .bool false]) w') V.drew from ⟨(IV.out.I).cellM, by have := IV.out.cmd; simp only [World.cell?, show V.drew.heap[w.heap.size]? = _ from this]; rfl, by rw [hV]; exact HLK.out⟩)
    clear hV hx y0 y1 y2 HV0 HLK
    refine wp_region_held_drew (S := (fun w' : World => w'.cell? ⟨D, 0, none⟩ = some (.map (some M)) ∧ w'.cell? ⟨w.heap.size, 3, none⟩ = some (.string nm) ∧ (Instr.lookup 58 (.map (some M)) (.string nm) true).run Try.prog w' = .ok (.tuple #[.pointer none, .bool false]) w')) (by kernel_rfl) ?_ (fun hHeld0 => ?_)
    · exact HS0.out
    refine tk0 (.pointer (some ⟨D, 0, none⟩)) (by kernel_rfl) (by kernel_rfl) (by kernel_rfl) (fun _ _ _ h => h) rfl (fun w hSw => by (try dsimp only at hSw); obtain ⟨q0, q1, q2⟩ := hSw; go_simp) (by assumption) ?_
    try simp only [Act.put, List.setIfInBounds_toArray, List.set_cons_zero, List.set_cons_succ]
    refine tk1 (.pointer (some ⟨D, 0, none⟩)) (by kernel_rfl) (by kernel_rfl) (by kernel_rfl) (fun _ _ _ h => h) rfl (fun w hSw => by (try dsimp only at hSw); obtain ⟨q0, q1, q2⟩ := hSw; go_simp) (by assumption) ?_
    try simp only [Act.put, List.setIfInBounds_toArray, List.set_cons_zero, List.set_cons_succ]
    refine tk2 (.pointer (some ⟨D, 0, none⟩)) (by kernel_rfl) (by kernel_rfl) (by kernel_rfl) (fun _ _ _ h => h) rfl (fun w hSw => by (try dsimp only at hSw); obtain ⟨q0, q1, q2⟩ := hSw; go_simp) (by assumption) ?_
    try simp only [Act.put, List.setIfInBounds_toArray, List.set_cons_zero, List.set_cons_succ]
    refine tk3 (.map (some M)) (by kernel_rfl) (by kernel_rfl) (by kernel_rfl) (fun _ _ _ h => h) rfl (fun w hSw => by (try dsimp only at hSw); obtain ⟨q0, q1, q2⟩ := hSw; go_simp) (by assumption) ?_
    try simp only [Act.put, List.setIfInBounds_toArray, List.set_cons_zero, List.set_cons_succ]
    refine tk4 (.pointer (some ⟨w.heap.size, 3, none⟩)) (by kernel_rfl) (by kernel_rfl) (by kernel_rfl) (fun _ _ _ h => h) rfl (fun w hSw => by (try dsimp only at hSw); obtain ⟨q0, q1, q2⟩ := hSw; go_simp) (by assumption) ?_
    try simp only [Act.put, List.setIfInBounds_toArray, List.set_cons_zero, List.set_cons_succ]
    refine tk5 (.string nm) (by kernel_rfl) (by kernel_rfl) (by kernel_rfl) (fun _ _ _ h => h) rfl (fun w hSw => by (try dsimp only at hSw); obtain ⟨q0, q1, q2⟩ := hSw; go_simp) (by assumption) ?_
    try simp only [Act.put, List.setIfInBounds_toArray, List.set_cons_zero, List.set_cons_succ]
    refine tk6 (.tuple #[.pointer none, .bool false]) (by kernel_rfl) (by kernel_rfl) (by kernel_rfl) (fun _ _ _ h => h) rfl (fun w hSw => by (try dsimp only at hSw); obtain ⟨q0, q1, q2⟩ := hSw; go_simp) (by assumption) ?_
    try simp only [Act.put, List.setIfInBounds_toArray, List.set_cons_zero, List.set_cons_succ]
    refine tk7 (.tuple #[.pointer none, .bool false]) (by kernel_rfl) (by kernel_rfl) (by kernel_rfl) (fun _ _ _ h => h) rfl (fun w hSw => by (try dsimp only at hSw); obtain ⟨q0, q1, q2⟩ := hSw; go_simp) (by assumption) ?_
    try simp only [Act.put, List.setIfInBounds_toArray, List.set_cons_zero, List.set_cons_succ]
    refine tk8 (.pointer none) (by kernel_rfl) (by kernel_rfl) (by kernel_rfl) (fun _ _ _ h => h) rfl (fun w hSw => by (try dsimp only at hSw); obtain ⟨q0, q1, q2⟩ := hSw; go_simp) (by assumption) ?_
    try simp only [Act.put, List.setIfInBounds_toArray, List.set_cons_zero, List.set_cons_succ]
    refine tk9 (.bool false) (by kernel_rfl) (by kernel_rfl) (by kernel_rfl) (fun _ _ _ h => h) rfl (fun w hSw => by (try dsimp only at hSw); obtain ⟨q0, q1, q2⟩ := hSw; go_simp) (by assumption) ?_
    try simp only [Act.put, List.setIfInBounds_toArray, List.set_cons_zero, List.set_cons_succ]
    refine tk10 (.pointer none) (by kernel_rfl) (by kernel_rfl) (by kernel_rfl) (fun _ _ _ h => h) rfl (fun w hSw => by (try dsimp only at hSw); obtain ⟨q0, q1, q2⟩ := hSw; go_simp) (by assumption) ?_
    try simp only [Act.put, List.setIfInBounds_toArray, List.set_cons_zero, List.set_cons_succ]
    refine tk11 (.bool false) (by kernel_rfl) (by kernel_rfl) (by kernel_rfl) (fun _ _ _ h => h) rfl (fun w hSw => by (try dsimp only at hSw); obtain ⟨q0, q1, q2⟩ := hSw; go_simp) (by assumption) ?_
    try simp only [Act.put, List.setIfInBounds_toArray, List.set_cons_zero, List.set_cons_succ]
    refine wpAnyH_done (by kernel_rfl) ?_ _
    go_upto_region 5 with fail
    obtain ⟨V1, hV1⟩ : ∃ V1, V1 = V.drew := ⟨_, rfl⟩
    rw [← hV1]
    refine wp_region_held_drew (S := (fun _ : World => True)) (by kernel_rfl) ?_ (fun hHeld0 => ?_)
    · trivial
    refine tk0 (.bool false) (by kernel_rfl) (by kernel_rfl) (by kernel_rfl) (fun _ _ _ h => h) rfl (fun w hSw => by (try dsimp only at hSw); go_simp) trivial ?_
    try simp only [Act.put, List.setIfInBounds_toArray, List.set_cons_zero, List.set_cons_succ]
    refine tk1 (.bool true) (by kernel_rfl) (by kernel_rfl) (by kernel_rfl) (fun _ _ _ h => h) rfl (fun w hSw => by (try dsimp only at hSw); go_simp) trivial ?_
    try simp only [Act.put, List.setIfInBounds_toArray, List.set_cons_zero, List.set_cons_succ]
    refine tk2 (.bool true) (by kernel_rfl) (by kernel_rfl) (by kernel_rfl) (fun _ _ _ h => h) rfl (fun w hSw => by (try dsimp only at hSw); go_simp) trivial ?_
    try simp only [Act.put, List.setIfInBounds_toArray, List.set_cons_zero, List.set_cons_succ]
    refine sk3 (by kernel_rfl) (by kernel_rfl) (by kernel_rfl) (fun _ _ _ h => h) rfl trivial ?_
    try simp only [Act.put, List.setIfInBounds_toArray, List.set_cons_zero, List.set_cons_succ]
    refine sk4 (by kernel_rfl) (by kernel_rfl) (by kernel_rfl) (fun _ _ _ h => h) rfl trivial ?_
    try simp only [Act.put, List.setIfInBounds_toArray, List.set_cons_zero, List.set_cons_succ]
    refine sk5 (by kernel_rfl) (by kernel_rfl) (by kernel_rfl) (fun _ _ _ h => h) rfl trivial ?_
    try simp only [Act.put, List.setIfInBounds_toArray, List.set_cons_zero, List.set_cons_succ]
    refine sk6 (by kernel_rfl) (by kernel_rfl) (by kernel_rfl) (fun _ _ _ h => h) rfl trivial ?_
    try simp only [Act.put, List.setIfInBounds_toArray, List.set_cons_zero, List.set_cons_succ]
    refine sk7 (by kernel_rfl) (by kernel_rfl) (by kernel_rfl) (fun _ _ _ h => h) rfl trivial ?_
    try simp only [Act.put, List.setIfInBounds_toArray, List.set_cons_zero, List.set_cons_succ]
    refine tk8 (.bool true) (by kernel_rfl) (by kernel_rfl) (by kernel_rfl) (fun _ _ _ h => h) rfl (fun w hSw => by (try dsimp only at hSw); go_simp) trivial ?_
    try simp only [Act.put, List.setIfInBounds_toArray, List.set_cons_zero, List.set_cons_succ]
    refine tk9 (.bool true) (by kernel_rfl) (by kernel_rfl) (by kernel_rfl) (fun _ _ _ h => h) rfl (fun w hSw => by (try dsimp only at hSw); go_simp) trivial ?_
    try simp only [Act.put, List.setIfInBounds_toArray, List.set_cons_zero, List.set_cons_succ]
    refine sk10 (by kernel_rfl) (by kernel_rfl) (by kernel_rfl) (fun _ _ _ h => h) rfl trivial ?_
    try simp only [Act.put, List.setIfInBounds_toArray, List.set_cons_zero, List.set_cons_succ]
    refine sk11 (by kernel_rfl) (by kernel_rfl) (by kernel_rfl) (fun _ _ _ h => h) rfl trivial ?_
    try simp only [Act.put, List.setIfInBounds_toArray, List.set_cons_zero, List.set_cons_succ]
    refine sk12 (by kernel_rfl) (by kernel_rfl) (by kernel_rfl) (fun _ _ _ h => h) rfl trivial ?_
    try simp only [Act.put, List.setIfInBounds_toArray, List.set_cons_zero, List.set_cons_succ]
    refine sk13 (by kernel_rfl) (by kernel_rfl) (by kernel_rfl) (fun _ _ _ h => h) rfl trivial ?_
    try simp only [Act.put, List.setIfInBounds_toArray, List.set_cons_zero, List.set_cons_succ]
    refine sk14 (by kernel_rfl) (by kernel_rfl) (by kernel_rfl) (fun _ _ _ h => h) rfl trivial ?_
    try simp only [Act.put, List.setIfInBounds_toArray, List.set_cons_zero, List.set_cons_succ]
    refine sk15 (by kernel_rfl) (by kernel_rfl) (by kernel_rfl) (fun _ _ _ h => h) rfl trivial ?_
    try simp only [Act.put, List.setIfInBounds_toArray, List.set_cons_zero, List.set_cons_succ]
    refine sk16 (by kernel_rfl) (by kernel_rfl) (by kernel_rfl) (fun _ _ _ h => h) rfl trivial ?_
    try simp only [Act.put, List.setIfInBounds_toArray, List.set_cons_zero, List.set_cons_succ]
    refine tk17 (.bool true) (by kernel_rfl) (by kernel_rfl) (by kernel_rfl) (fun _ _ _ h => h) rfl (fun w hSw => by (try dsimp only at hSw); go_simp) trivial ?_
    try simp only [Act.put, List.setIfInBounds_toArray, List.set_cons_zero, List.set_cons_succ]
    refine wpAnyH_done (by kernel_rfl) ?_ _
    obtain ⟨V2, hV2⟩ : ∃ V2, V2 = V1.drew := ⟨_, rfl⟩
    rw [← hV2]
    have I2 : Hid (RlI w V2 base D M c l T own nm (cmA 8 s n nm m) W.heap.size x) := (show RlI w V2 base D M c l T own nm (cmA 8 s n nm m) W.heap.size x from by rw [hV2, hV1]; exact IV.out.fresh ⟨rfl, rfl, rfl, Nat.le_refl _, fun _ _ => rfl⟩)
    clear hV1 hV2
    go_wp2_with (first | (go_at_call 25; rw [HW6.out]; refine (behind_any (base := w6.heap.size) (xs := []) (World.ownsRow_nil _ _ _ _) R6.out (Nat.le_refl _) (by simp)).mono ?_; rintro e w7 ⟨u7, rfl, o7, a7⟩; obtain ⟨p7, n7, c7, rfl⟩ := own_form o7) | (go_at_call 26; refine (refused_any V2 x 13).mono ?_; rintro e w5 ⟨rfl, b5⟩; obtain ⟨w6, hw6⟩ : ∃ w6, w6 = w5.alloc (.cells (rpA ⟨x.s, x.n, 13, 0, 0⟩) rpT) := ⟨_, rfl⟩; have b6 : Below V2.heap.size V2 w6 := (by rw [hw6]; exact b5.trans (((Below.refl _ w5).alloc (Nat.le_refl _) _).mono b5.size)); have I6 : Hid _ := I2.out.fresh b6; have R6 : Hid (RowAt rpC w6 (.slice (some ⟨w5.heap.size, 0, none⟩) 1 1) [⟨x.s, x.n, 13, 0, 0⟩]) := (by rw [hw6]; exact rp_one); have HW6 : Hid (w5.alloc (.cells #[.int .i64 x.s, .int .i64 x.n, .int .i64 13, .int .u64 0, .int .i64 0] rpT) = w6) := hw6.symm; clear hw6 b6 b5) | (show wpList _ _ _ (⟨_, Op.load lcWT _, _, _, _, _⟩ :: _) _ _; refine load_row_g rfl lcWT _ rfl W.heap.size rfl lcWT (lcWA x) (0, 0) _ I2.out.box Try.underlying70 rfl sizeLw ?_))
    go_ret
    have I7 := I6.out.fresh a7.below
    exact ⟨_, _, rfl, by rw [HX.out] at o7; exact RowAt.own rpC_len o7, ⟨⟨M, T, own, I7.I, rfl⟩, HL.out.1, HL.out.2⟩, Kept.of I7.bel, sep_new o7 fun g hg => (I6.out.I.bd g hg).2⟩
set_option maxRecDepth 100000 in
set_option maxHeartbeats 16000000 in
theorem prel_there {w : World} {base D M N i X : Nat} {c : Int} {l : List Lk} {T : List (ByteArray × Nat)} {own : ByteArray → Nat → Prop} {nm : ByteArray} {y : Lk} (A : AkT w base D M N c l T own nm i y X) {k s n m : Int} (hk : k = 6 ∨ k = 8) (hs : okI s) (hm : nm.size ≤ 1000) {qq : Int × List Lk × List SeR} (hqq : qq = if hasB y.h s = false ∨ y.wr ≠ (k == 6) then (c, l, [⟨s, n, 13, 0, 0⟩]) else relS c l i y s n) :
    Calls Try.prog 12 #[.pointer (some ⟨D, 0, none⟩), .agg (cmA k s n nm m)] w (RepP w base D (setL D M own) N qq) := by
  have HQQ : Hid (qq = if hasB y.h s = false ∨ y.wr ≠ (k == 6) then (c, l, [⟨s, n, 13, 0, 0⟩]) else relS c l i y s n) := hqq
  clear hqq
  have I := A.I
  obtain ⟨W, hW⟩ : ∃ W, W = w.alloc (.cells (cmA k s n nm m) cmT) := ⟨_, rfl⟩
  have bW : Below w.heap.size w W := by rw [hW]; exact (Below.refl _ w).alloc (Nat.le_refl _) _
  have nW : W.heap[w.heap.size]? = some (.cells (cmA k s n nm m) cmT (0, 0)) := by rw [hW]; exact heap_alloc_new w _
  have IW := I.fresh bW
  have y0 : W.cell? ⟨w.heap.size, 0, none⟩ = some (.int .i64 k) := by simp [World.cell?, nW]
  have y1 : W.cell? ⟨w.heap.size, 1, none⟩ = some (.int .i64 s) := by simp [World.cell?, nW]
  have y2 : W.cell? ⟨w.heap.size, 2, none⟩ = some (.int .i64 n) := by simp [World.cell?, nW]
  have HW : Hid (w.alloc (.cells #[.int .i64 k, .int .i64 s, .int .i64 n, .string nm, .int .i64 m] cmT) = W) := hW.symm
  have HWL : Hid (w.heap.size ≤ W.heap.size) := bW.size
  have HV0 : Hid (RlI w (W.alloc (.cells (lcWA ⟨s, n, k == 8⟩) lcWT)) base D M c l T own nm (cmA k s n nm m) W.heap.size ⟨s, n, k == 8⟩) := RlI.mk' IW bW nW
  have hlkd := (IW.keep (w' := (W.alloc (.cells (lcWA ⟨s, n, k == 8⟩) lcWT)).drew) fun g hg => Below.heap_alloc _ _ _ (IW.bd g hg).2).look2 (nm := nm) (by unfold maxLen; omega)
  rw [← IW.some', A.hX] at hlkd
  have HLK : Hid _ := hlkd
  have HA : Hid (AkT w base D M N c l T own nm i y X) := A
  have HB : Hid (∀ b, setL D M own b → b < w.heap.size) := fun b hb => (A.I.bd b hb).2
  have HO : Hid (okI s ∧ nm.size ≤ 1000) := (show Hid _ from (⟨hs, hm⟩ : _ ∧ _))
  clear A I IW bW nW hW hm hs hlkd
  rcases hk with rfl | rfl
  · skip
    go_enter Try.func12, Try.ntmps12
    go_upto_region 1 with fail
    rw [HW.out]
    go_upto_region 4 with fail
    obtain ⟨V, hV⟩ : ∃ V, V = W.alloc (.cells (lcWA ⟨s, n, false⟩) lcWT) := ⟨_, rfl⟩
    have HV : Hid (W.alloc (.cells #[.int .i64 s, .int .i64 n, .bool false] lcWT) = V) := hV.symm
    rw [HV.out]
    obtain ⟨x, hx⟩ : ∃ x : Wq, x = ⟨s, n, false⟩ := ⟨_, rfl⟩
    have HX : Hid (x = ⟨s, n, false⟩) := hx
    have HGE : Hid (w.heap.size ≤ W.heap.size) := HWL.out
    have IV : Hid (RlI w V base D M c l T own nm (cmA 6 s n nm m) W.heap.size x) := (show RlI w V base D M c l T own nm (cmA 6 s n nm m) W.heap.size x from by rw [hV, hx]; exact HV0.out)
    have HS0 : Hid ((fun w' : World => w'.cell? ⟨D, 0, none⟩ = some (.map (some M)) ∧ w'.cell? ⟨w.heap.size, 3, none⟩ = some (.string nm) ∧ (Instr.lookup 58 (.map (some M)) (.string nm) true).run Try.prog w' = .ok (.tuple #[.pointer (some ⟨X, 0, none⟩), .bool true]) w') V.drew) := (show (fun w' : World => w'.cell? ⟨D, 0, none⟩ = some (.map (some M)) ∧ w'.cell? ⟨w.heap.size, 3, none⟩ = some (.string nm) ∧ (Instr.lookup 58 (.map (some M)) (.string nm) true).run Try.prog w' = .ok (.tuple #[.pointer (some ⟨X, 0, none⟩), .bool true]) w') V.drew from ⟨(IV.out.I).cellM, by have := IV.out.cmd; simp only [World.cell?, show V.drew.heap[w.heap.size]? = _ from this]; rfl, by rw [hV]; exact HLK.out⟩)
    clear hV hx y0 y1 y2 HV0 HLK
    have AV : Hid (AkT V base D M N c l T own nm i y X) := (show AkT V base D M N c l T own nm i y X from HA.out.fresh IV.out.bel)
    have HOX : Hid (inI x.s ∧ x.s = s ∧ x.n = n ∧ x.rd = false) := (show inI x.s ∧ x.s = s ∧ x.n = n ∧ x.rd = false from by rw [HX.out]; exact ⟨HO.out.1, rfl, rfl, rfl⟩)
    refine wp_region_held_drew (S := (fun w' : World => w'.cell? ⟨D, 0, none⟩ = some (.map (some M)) ∧ w'.cell? ⟨w.heap.size, 3, none⟩ = some (.string nm) ∧ (Instr.lookup 58 (.map (some M)) (.string nm) true).run Try.prog w' = .ok (.tuple #[.pointer (some ⟨X, 0, none⟩), .bool true]) w')) (by kernel_rfl) ?_ (fun hHeld0 => ?_)
    · exact HS0.out
    refine tk0 (.pointer (some ⟨D, 0, none⟩)) (by kernel_rfl) (by kernel_rfl) (by kernel_rfl) (fun _ _ _ h => h) rfl (fun w hSw => by (try dsimp only at hSw); obtain ⟨q0, q1, q2⟩ := hSw; go_simp) (by assumption) ?_
    try simp only [Act.put, List.setIfInBounds_toArray, List.set_cons_zero, List.set_cons_succ]
    refine tk1 (.pointer (some ⟨D, 0, none⟩)) (by kernel_rfl) (by kernel_rfl) (by kernel_rfl) (fun _ _ _ h => h) rfl (fun w hSw => by (try dsimp only at hSw); obtain ⟨q0, q1, q2⟩ := hSw; go_simp) (by assumption) ?_
    try simp only [Act.put, List.setIfInBounds_toArray, List.set_cons_zero, List.set_cons_succ]
    refine tk2 (.pointer (some ⟨D, 0, none⟩)) (by kernel_rfl) (by kernel_rfl) (by kernel_rfl) (fun _ _ _ h => h) rfl (fun w hSw => by (try dsimp only at hSw); obtain ⟨q0, q1, q2⟩ := hSw; go_simp) (by assumption) ?_
    try simp only [Act.put, List.setIfInBounds_toArray, List.set_cons_zero, List.set_cons_succ]
    refine tk3 (.map (some M)) (by kernel_rfl) (by kernel_rfl) (by kernel_rfl) (fun _ _ _ h => h) rfl (fun w hSw => by (try dsimp only at hSw); obtain ⟨q0, q1, q2⟩ := hSw; go_simp) (by assumption) ?_
    try simp only [Act.put, List.setIfInBounds_toArray, List.set_cons_zero, List.set_cons_succ]
    refine tk4 (.pointer (some ⟨w.heap.size, 3, none⟩)) (by kernel_rfl) (by kernel_rfl) (by kernel_rfl) (fun _ _ _ h => h) rfl (fun w hSw => by (try dsimp only at hSw); obtain ⟨q0, q1, q2⟩ := hSw; go_simp) (by assumption) ?_
    try simp only [Act.put, List.setIfInBounds_toArray, List.set_cons_zero, List.set_cons_succ]
    refine tk5 (.string nm) (by kernel_rfl) (by kernel_rfl) (by kernel_rfl) (fun _ _ _ h => h) rfl (fun w hSw => by (try dsimp only at hSw); obtain ⟨q0, q1, q2⟩ := hSw; go_simp) (by assumption) ?_
    try simp only [Act.put, List.setIfInBounds_toArray, List.set_cons_zero, List.set_cons_succ]
    refine tk6 (.tuple #[.pointer (some ⟨X, 0, none⟩), .bool true]) (by kernel_rfl) (by kernel_rfl) (by kernel_rfl) (fun _ _ _ h => h) rfl (fun w hSw => by (try dsimp only at hSw); obtain ⟨q0, q1, q2⟩ := hSw; go_simp) (by assumption) ?_
    try simp only [Act.put, List.setIfInBounds_toArray, List.set_cons_zero, List.set_cons_succ]
    refine tk7 (.tuple #[.pointer (some ⟨X, 0, none⟩), .bool true]) (by kernel_rfl) (by kernel_rfl) (by kernel_rfl) (fun _ _ _ h => h) rfl (fun w hSw => by (try dsimp only at hSw); obtain ⟨q0, q1, q2⟩ := hSw; go_simp) (by assumption) ?_
    try simp only [Act.put, List.setIfInBounds_toArray, List.set_cons_zero, List.set_cons_succ]
    refine tk8 (.pointer (some ⟨X, 0, none⟩)) (by kernel_rfl) (by kernel_rfl) (by kernel_rfl) (fun _ _ _ h => h) rfl (fun w hSw => by (try dsimp only at hSw); obtain ⟨q0, q1, q2⟩ := hSw; go_simp) (by assumption) ?_
    try simp only [Act.put, List.setIfInBounds_toArray, List.set_cons_zero, List.set_cons_succ]
    refine tk9 (.bool true) (by kernel_rfl) (by kernel_rfl) (by kernel_rfl) (fun _ _ _ h => h) rfl (fun w hSw => by (try dsimp only at hSw); obtain ⟨q0, q1, q2⟩ := hSw; go_simp) (by assumption) ?_
    try simp only [Act.put, List.setIfInBounds_toArray, List.set_cons_zero, List.set_cons_succ]
    refine tk10 (.pointer (some ⟨X, 0, none⟩)) (by kernel_rfl) (by kernel_rfl) (by kernel_rfl) (fun _ _ _ h => h) rfl (fun w hSw => by (try dsimp only at hSw); obtain ⟨q0, q1, q2⟩ := hSw; go_simp) (by assumption) ?_
    try simp only [Act.put, List.setIfInBounds_toArray, List.set_cons_zero, List.set_cons_succ]
    refine tk11 (.bool true) (by kernel_rfl) (by kernel_rfl) (by kernel_rfl) (fun _ _ _ h => h) rfl (fun w hSw => by (try dsimp only at hSw); obtain ⟨q0, q1, q2⟩ := hSw; go_simp) (by assumption) ?_
    try simp only [Act.put, List.setIfInBounds_toArray, List.set_cons_zero, List.set_cons_succ]
    refine wpAnyH_done (by kernel_rfl) ?_ _
    go_upto_region 5 with fail
    obtain ⟨V1, hV1⟩ : ∃ V1, V1 = V.drew := ⟨_, rfl⟩
    rw [← hV1]
    have I1 : Hid (RlI w V1 base D M c l T own nm (cmA 6 s n nm m) W.heap.size x) := (show RlI w V1 base D M c l T own nm (cmA 6 s n nm m) W.heap.size x from by rw [hV1]; exact IV.out.fresh ⟨rfl, rfl, rfl, Nat.le_refl _, fun _ _ => rfl⟩)
    have A1 : Hid (AkT V1 base D M N c l T own nm i y X) := (show AkT V1 base D M N c l T own nm i y X from by rw [hV1]; exact AV.out.fresh ⟨rfl, rfl, rfl, Nat.le_refl _, fun _ _ => rfl⟩)
    clear hV1 IV AV HS0 HV HA HW
    cases hb : hasB y.h x.s with
    | false =>
      have HQ : Hid (qq = (c, l, [⟨x.s, x.n, 13, 0, 0⟩])) := (show qq = _ from by rw [HQQ.out, ← HOX.out.2.1, ← HOX.out.2.2.1, if_pos (Or.inl hb)])
      refine wp_region_held_drew (S := (fun w' : World => w'.cell? ⟨W.heap.size, 0, none⟩ = some (.int .i64 x.s) ∧ w'.cell? ⟨W.heap.size, 2, none⟩ = some (.bool false) ∧ w'.cell? ⟨X, 1, none⟩ = some (.bool y.wr))) (by kernel_rfl) ?_ (fun hHeld0 => ?_)
      · exact ⟨I1.out.c0, by have := I1.out.c2; rw [HOX.out.2.2.2] at this; exact this, by have := A1.out.hA.cellW; exact this⟩
      refine tk0 (.bool true) (by kernel_rfl) (by kernel_rfl) (by kernel_rfl) (fun _ _ _ h => h) rfl (fun w hSw => by (try dsimp only at hSw); obtain ⟨q0, q1, q2⟩ := hSw; go_simp) (by assumption) ?_
      try simp only [Act.put, List.setIfInBounds_toArray, List.set_cons_zero, List.set_cons_succ]
      refine tk1 (.bool false) (by kernel_rfl) (by kernel_rfl) (by kernel_rfl) (fun _ _ _ h => h) rfl (fun w hSw => by (try dsimp only at hSw); obtain ⟨q0, q1, q2⟩ := hSw; go_simp) (by assumption) ?_
      try simp only [Act.put, List.setIfInBounds_toArray, List.set_cons_zero, List.set_cons_succ]
      refine tk2 (.bool false) (by kernel_rfl) (by kernel_rfl) (by kernel_rfl) (fun _ _ _ h => h) rfl (fun w hSw => by (try dsimp only at hSw); obtain ⟨q0, q1, q2⟩ := hSw; go_simp) (by assumption) ?_
      try simp only [Act.put, List.setIfInBounds_toArray, List.set_cons_zero, List.set_cons_succ]
      refine tk3 (.pointer (some ⟨X, 0, none⟩)) (by kernel_rfl) (by kernel_rfl) (by kernel_rfl) (fun _ _ _ h => h) rfl (fun w hSw => by (try dsimp only at hSw); obtain ⟨q0, q1, q2⟩ := hSw; go_simp) (by assumption) ?_
      try simp only [Act.put, List.setIfInBounds_toArray, List.set_cons_zero, List.set_cons_succ]
      refine tk4 (.pointer (some ⟨W.heap.size, 0, none⟩)) (by kernel_rfl) (by kernel_rfl) (by kernel_rfl) (fun _ _ _ h => h) rfl (fun w hSw => by (try dsimp only at hSw); obtain ⟨q0, q1, q2⟩ := hSw; go_simp) (by assumption) ?_
      try simp only [Act.put, List.setIfInBounds_toArray, List.set_cons_zero, List.set_cons_succ]
      refine tk5 (.int .i64 x.s) (by kernel_rfl) (by kernel_rfl) (by kernel_rfl) (fun _ _ _ h => h) rfl (fun w hSw => by (try dsimp only at hSw); obtain ⟨q0, q1, q2⟩ := hSw; go_simp) (by assumption) ?_
      try simp only [Act.put, List.setIfInBounds_toArray, List.set_cons_zero, List.set_cons_succ]
      refine cl6 (by kernel_rfl) rfl (fun K hK => ?_)
      go_simp
      go_at_call 23
      refine (holds_any (A1.out.hA.keep (w' := V1.drew) fun _ _ => rfl) HOX.out.1).mono ?_
      rw [hb]
      rintro e w4 ⟨rfl, b4⟩
      have I4 : Hid _ := I1.out.fresh (undrew b4)
      have A4 : Hid _ := A1.out.fresh (undrew b4)
      clear b4
      refine hK.out _ _ ?_ (fun hHeld => ?_)
      · exact ⟨I4.out.c0, by have := I4.out.c2; rw [HOX.out.2.2.2] at this; exact this, by have := A4.out.hA.cellW; exact this⟩
      clear hK K
      try simp only [Act.put, List.setIfInBounds_toArray, List.set_cons_zero, List.set_cons_succ]
      refine tk7 (.bool true) (by kernel_rfl) (by kernel_rfl) (by kernel_rfl) (fun _ _ _ h => h) rfl (fun w hSw => by (try dsimp only at hSw); obtain ⟨q0, q1, q2⟩ := hSw; go_simp) (by assumption) ?_
      try simp only [Act.put, List.setIfInBounds_toArray, List.set_cons_zero, List.set_cons_succ]
      refine tk8 (.bool true) (by kernel_rfl) (by kernel_rfl) (by kernel_rfl) (fun _ _ _ h => h) rfl (fun w hSw => by (try dsimp only at hSw); obtain ⟨q0, q1, q2⟩ := hSw; go_simp) (by assumption) ?_
      try simp only [Act.put, List.setIfInBounds_toArray, List.set_cons_zero, List.set_cons_succ]
      refine tk9 (.bool true) (by kernel_rfl) (by kernel_rfl) (by kernel_rfl) (fun _ _ _ h => h) rfl (fun w hSw => by (try dsimp only at hSw); obtain ⟨q0, q1, q2⟩ := hSw; go_simp) (by assumption) ?_
      try simp only [Act.put, List.setIfInBounds_toArray, List.set_cons_zero, List.set_cons_succ]
      refine sk10 (by kernel_rfl) (by kernel_rfl) (by kernel_rfl) (fun _ _ _ h => h) rfl (by assumption) ?_
      try simp only [Act.put, List.setIfInBounds_toArray, List.set_cons_zero, List.set_cons_succ]
      refine sk11 (by kernel_rfl) (by kernel_rfl) (by kernel_rfl) (fun _ _ _ h => h) rfl (by assumption) ?_
      try simp only [Act.put, List.setIfInBounds_toArray, List.set_cons_zero, List.set_cons_succ]
      refine sk12 (by kernel_rfl) (by kernel_rfl) (by kernel_rfl) (fun _ _ _ h => h) rfl (by assumption) ?_
      try simp only [Act.put, List.setIfInBounds_toArray, List.set_cons_zero, List.set_cons_succ]
      refine sk13 (by kernel_rfl) (by kernel_rfl) (by kernel_rfl) (fun _ _ _ h => h) rfl (by assumption) ?_
      try simp only [Act.put, List.setIfInBounds_toArray, List.set_cons_zero, List.set_cons_succ]
      refine sk14 (by kernel_rfl) (by kernel_rfl) (by kernel_rfl) (fun _ _ _ h => h) rfl (by assumption) ?_
      try simp only [Act.put, List.setIfInBounds_toArray, List.set_cons_zero, List.set_cons_succ]
      refine sk15 (by kernel_rfl) (by kernel_rfl) (by kernel_rfl) (fun _ _ _ h => h) rfl (by assumption) ?_
      try simp only [Act.put, List.setIfInBounds_toArray, List.set_cons_zero, List.set_cons_succ]
      refine sk16 (by kernel_rfl) (by kernel_rfl) (by kernel_rfl) (fun _ _ _ h => h) rfl (by assumption) ?_
      try simp only [Act.put, List.setIfInBounds_toArray, List.set_cons_zero, List.set_cons_succ]
      refine tk17 (.bool true) (by kernel_rfl) (by kernel_rfl) (by kernel_rfl) (fun _ _ _ h => h) rfl (fun w hSw => by (try dsimp only at hSw); obtain ⟨q0, q1, q2⟩ := hSw; go_simp) (by assumption) ?_
      try simp only [Act.put, List.setIfInBounds_toArray, List.set_cons_zero, List.set_cons_succ]
      refine wpAnyH_done (by kernel_rfl) ?_ _
      go_wp2_with (first | (go_at_call 25; rw [HW6.out]; refine (behind_any (base := w6.heap.size) (xs := []) (World.ownsRow_nil _ _ _ _) R6.out (Nat.le_refl _) (by simp)).mono ?_; rintro e w7 ⟨u7, rfl, o7, a7⟩; obtain ⟨p7, n7, c7, rfl⟩ := own_form o7) | (go_at_call 26; refine (refused_any w4 x 13).mono ?_; rintro e w5 ⟨rfl, b5⟩; obtain ⟨w6, hw6⟩ : ∃ w6, w6 = w5.alloc (.cells (rpA ⟨x.s, x.n, 13, 0, 0⟩) rpT) := ⟨_, rfl⟩; have b6 : Below w4.heap.size w4 w6 := (by rw [hw6]; exact b5.trans (((Below.refl _ w5).alloc (Nat.le_refl _) _).mono b5.size)); have I6 : Hid _ := I4.out.fresh b6; have R6 : Hid (RowAt rpC w6 (.slice (some ⟨w5.heap.size, 0, none⟩) 1 1) [⟨x.s, x.n, 13, 0, 0⟩]) := (by rw [hw6]; exact rp_one); have HW6 : Hid (w5.alloc (.cells #[.int .i64 x.s, .int .i64 x.n, .int .i64 13, .int .u64 0, .int .i64 0] rpT) = w6) := hw6.symm; clear hw6 b6 b5) | (show wpList _ _ _ (⟨_, Op.load lcWT _, _, _, _, _⟩ :: _) _ _; refine load_row_g rfl lcWT _ rfl W.heap.size rfl lcWT (lcWA x) (0, 0) _ I4.out.box Try.underlying70 rfl sizeLw ?_))
      go_ret
      rw [HQ.out]
      have I7 := I6.out.fresh a7.below
      exact ⟨_, _, rfl, RowAt.own rpC_len o7, ⟨⟨M, T, own, I7.I, rfl⟩, A1.out.ok, A1.out.fit⟩, Kept.of I7.bel, sep_new o7 fun g hg => (I6.out.I.bd g hg).2⟩
    | true =>
      cases hwv : y.wr with
      | false =>
        have HQ : Hid (qq = (c, l, [⟨x.s, x.n, 13, 0, 0⟩])) := (show qq = _ from by rw [HQQ.out, ← HOX.out.2.1, ← HOX.out.2.2.1, hwv, if_pos (Or.inr (by decide))])
        refine wp_region_held_drew (S := (fun w' : World => w'.cell? ⟨W.heap.size, 0, none⟩ = some (.int .i64 x.s) ∧ w'.cell? ⟨W.heap.size, 2, none⟩ = some (.bool false) ∧ w'.cell? ⟨X, 1, none⟩ = some (.bool false))) (by kernel_rfl) ?_ (fun hHeld0 => ?_)
        · exact ⟨I1.out.c0, by have := I1.out.c2; rw [HOX.out.2.2.2] at this; exact this, by have := A1.out.hA.cellW; rw [hwv] at this; exact this⟩
        refine tk0 (.bool true) (by kernel_rfl) (by kernel_rfl) (by kernel_rfl) (fun _ _ _ h => h) rfl (fun w hSw => by (try dsimp only at hSw); obtain ⟨q0, q1, q2⟩ := hSw; go_simp) (by assumption) ?_
        try simp only [Act.put, List.setIfInBounds_toArray, List.set_cons_zero, List.set_cons_succ]
        refine tk1 (.bool false) (by kernel_rfl) (by kernel_rfl) (by kernel_rfl) (fun _ _ _ h => h) rfl (fun w hSw => by (try dsimp only at hSw); obtain ⟨q0, q1, q2⟩ := hSw; go_simp) (by assumption) ?_
        try simp only [Act.put, List.setIfInBounds_toArray, List.set_cons_zero, List.set_cons_succ]
        refine tk2 (.bool false) (by kernel_rfl) (by kernel_rfl) (by kernel_rfl) (fun _ _ _ h => h) rfl (fun w hSw => by (try dsimp only at hSw); obtain ⟨q0, q1, q2⟩ := hSw; go_simp) (by assumption) ?_
        try simp only [Act.put, List.setIfInBounds_toArray, List.set_cons_zero, List.set_cons_succ]
        refine tk3 (.pointer (some ⟨X, 0, none⟩)) (by kernel_rfl) (by kernel_rfl) (by kernel_rfl) (fun _ _ _ h => h) rfl (fun w hSw => by (try dsimp only at hSw); obtain ⟨q0, q1, q2⟩ := hSw; go_simp) (by assumption) ?_
        try simp only [Act.put, List.setIfInBounds_toArray, List.set_cons_zero, List.set_cons_succ]
        refine tk4 (.pointer (some ⟨W.heap.size, 0, none⟩)) (by kernel_rfl) (by kernel_rfl) (by kernel_rfl) (fun _ _ _ h => h) rfl (fun w hSw => by (try dsimp only at hSw); obtain ⟨q0, q1, q2⟩ := hSw; go_simp) (by assumption) ?_
        try simp only [Act.put, List.setIfInBounds_toArray, List.set_cons_zero, List.set_cons_succ]
        refine tk5 (.int .i64 x.s) (by kernel_rfl) (by kernel_rfl) (by kernel_rfl) (fun _ _ _ h => h) rfl (fun w hSw => by (try dsimp only at hSw); obtain ⟨q0, q1, q2⟩ := hSw; go_simp) (by assumption) ?_
        try simp only [Act.put, List.setIfInBounds_toArray, List.set_cons_zero, List.set_cons_succ]
        refine cl6 (by kernel_rfl) rfl (fun K hK => ?_)
        go_simp
        go_at_call 23
        refine (holds_any (A1.out.hA.keep (w' := V1.drew) fun _ _ => rfl) HOX.out.1).mono ?_
        rw [hb]
        rintro e w4 ⟨rfl, b4⟩
        have I4 : Hid _ := I1.out.fresh (undrew b4)
        have A4 : Hid _ := A1.out.fresh (undrew b4)
        clear b4
        refine hK.out _ _ ?_ (fun hHeld => ?_)
        · exact ⟨I4.out.c0, by have := I4.out.c2; rw [HOX.out.2.2.2] at this; exact this, by have := A4.out.hA.cellW; rw [hwv] at this; exact this⟩
        clear hK K
        try simp only [Act.put, List.setIfInBounds_toArray, List.set_cons_zero, List.set_cons_succ]
        refine tk7 (.bool false) (by kernel_rfl) (by kernel_rfl) (by kernel_rfl) (fun _ _ _ h => h) rfl (fun w hSw => by (try dsimp only at hSw); obtain ⟨q0, q1, q2⟩ := hSw; go_simp) (by assumption) ?_
        try simp only [Act.put, List.setIfInBounds_toArray, List.set_cons_zero, List.set_cons_succ]
        refine tk8 (.bool false) (by kernel_rfl) (by kernel_rfl) (by kernel_rfl) (fun _ _ _ h => h) rfl (fun w hSw => by (try dsimp only at hSw); obtain ⟨q0, q1, q2⟩ := hSw; go_simp) (by assumption) ?_
        try simp only [Act.put, List.setIfInBounds_toArray, List.set_cons_zero, List.set_cons_succ]
        refine tk9 (.bool false) (by kernel_rfl) (by kernel_rfl) (by kernel_rfl) (fun _ _ _ h => h) rfl (fun w hSw => by (try dsimp only at hSw); obtain ⟨q0, q1, q2⟩ := hSw; go_simp) (by assumption) ?_
        try simp only [Act.put, List.setIfInBounds_toArray, List.set_cons_zero, List.set_cons_succ]
        refine tk10 (.pointer (some ⟨X, 0, none⟩)) (by kernel_rfl) (by kernel_rfl) (by kernel_rfl) (fun _ _ _ h => h) rfl (fun w hSw => by (try dsimp only at hSw); obtain ⟨q0, q1, q2⟩ := hSw; go_simp) (by assumption) ?_
        try simp only [Act.put, List.setIfInBounds_toArray, List.set_cons_zero, List.set_cons_succ]
        refine tk11 (.pointer (some ⟨X, 0, none⟩)) (by kernel_rfl) (by kernel_rfl) (by kernel_rfl) (fun _ _ _ h => h) rfl (fun w hSw => by (try dsimp only at hSw); obtain ⟨q0, q1, q2⟩ := hSw; go_simp) (by assumption) ?_
        try simp only [Act.put, List.setIfInBounds_toArray, List.set_cons_zero, List.set_cons_succ]
        refine tk12 (.pointer (some ⟨X, 1, none⟩)) (by kernel_rfl) (by kernel_rfl) (by kernel_rfl) (fun _ _ _ h => h) rfl (fun w hSw => by (try dsimp only at hSw); obtain ⟨q0, q1, q2⟩ := hSw; go_simp) (by assumption) ?_
        try simp only [Act.put, List.setIfInBounds_toArray, List.set_cons_zero, List.set_cons_succ]
        refine tk13 (.bool false) (by kernel_rfl) (by kernel_rfl) (by kernel_rfl) (fun _ _ _ h => h) rfl (fun w hSw => by (try dsimp only at hSw); obtain ⟨q0, q1, q2⟩ := hSw; go_simp) (by assumption) ?_
        try simp only [Act.put, List.setIfInBounds_toArray, List.set_cons_zero, List.set_cons_succ]
        refine tk14 (.pointer (some ⟨W.heap.size, 2, none⟩)) (by kernel_rfl) (by kernel_rfl) (by kernel_rfl) (fun _ _ _ h => h) rfl (fun w hSw => by (try dsimp only at hSw); obtain ⟨q0, q1, q2⟩ := hSw; go_simp) (by assumption) ?_
        try simp only [Act.put, List.setIfInBounds_toArray, List.set_cons_zero, List.set_cons_succ]
        refine tk15 (.bool false) (by kernel_rfl) (by kernel_rfl) (by kernel_rfl) (fun _ _ _ h => h) rfl (fun w hSw => by (try dsimp only at hSw); obtain ⟨q0, q1, q2⟩ := hSw; go_simp) (by assumption) ?_
        try simp only [Act.put, List.setIfInBounds_toArray, List.set_cons_zero, List.set_cons_succ]
        refine tk16 (.bool true) (by kernel_rfl) (by kernel_rfl) (by kernel_rfl) (fun _ _ _ h => h) rfl (fun w hSw => by (try dsimp only at hSw); obtain ⟨q0, q1, q2⟩ := hSw; go_simp) (by assumption) ?_
        try simp only [Act.put, List.setIfInBounds_toArray, List.set_cons_zero, List.set_cons_succ]
        refine tk17 (.bool true) (by kernel_rfl) (by kernel_rfl) (by kernel_rfl) (fun _ _ _ h => h) rfl (fun w hSw => by (try dsimp only at hSw); obtain ⟨q0, q1, q2⟩ := hSw; go_simp) (by assumption) ?_
        try simp only [Act.put, List.setIfInBounds_toArray, List.set_cons_zero, List.set_cons_succ]
        refine wpAnyH_done (by kernel_rfl) ?_ _
        go_wp2_with (first | (go_at_call 25; rw [HW6.out]; refine (behind_any (base := w6.heap.size) (xs := []) (World.ownsRow_nil _ _ _ _) R6.out (Nat.le_refl _) (by simp)).mono ?_; rintro e w7 ⟨u7, rfl, o7, a7⟩; obtain ⟨p7, n7, c7, rfl⟩ := own_form o7) | (go_at_call 26; refine (refused_any w4 x 13).mono ?_; rintro e w5 ⟨rfl, b5⟩; obtain ⟨w6, hw6⟩ : ∃ w6, w6 = w5.alloc (.cells (rpA ⟨x.s, x.n, 13, 0, 0⟩) rpT) := ⟨_, rfl⟩; have b6 : Below w4.heap.size w4 w6 := (by rw [hw6]; exact b5.trans (((Below.refl _ w5).alloc (Nat.le_refl _) _).mono b5.size)); have I6 : Hid _ := I4.out.fresh b6; have R6 : Hid (RowAt rpC w6 (.slice (some ⟨w5.heap.size, 0, none⟩) 1 1) [⟨x.s, x.n, 13, 0, 0⟩]) := (by rw [hw6]; exact rp_one); have HW6 : Hid (w5.alloc (.cells #[.int .i64 x.s, .int .i64 x.n, .int .i64 13, .int .u64 0, .int .i64 0] rpT) = w6) := hw6.symm; clear hw6 b6 b5) | (show wpList _ _ _ (⟨_, Op.load lcWT _, _, _, _, _⟩ :: _) _ _; refine load_row_g rfl lcWT _ rfl W.heap.size rfl lcWT (lcWA x) (0, 0) _ I4.out.box Try.underlying70 rfl sizeLw ?_))
        go_ret
        rw [HQ.out]
        have I7 := I6.out.fresh a7.below
        exact ⟨_, _, rfl, RowAt.own rpC_len o7, ⟨⟨M, T, own, I7.I, rfl⟩, A1.out.ok, A1.out.fit⟩, Kept.of I7.bel, sep_new o7 fun g hg => (I6.out.I.bd g hg).2⟩
      | true =>
        have HQ : Hid (qq = relS c l i y s n ∧ hasB y.h s = true) := (show qq = _ ∧ _ from by rw [HQQ.out, ← HOX.out.2.1, hb, hwv]; exact ⟨if_neg (by decide), rfl⟩)
        refine wp_region_held_drew (S := (fun w' : World => w'.cell? ⟨W.heap.size, 0, none⟩ = some (.int .i64 x.s) ∧ w'.cell? ⟨W.heap.size, 2, none⟩ = some (.bool false) ∧ w'.cell? ⟨X, 1, none⟩ = some (.bool true))) (by kernel_rfl) ?_ (fun hHeld0 => ?_)
        · exact ⟨I1.out.c0, by have := I1.out.c2; rw [HOX.out.2.2.2] at this; exact this, by have := A1.out.hA.cellW; rw [hwv] at this; exact this⟩
        refine tk0 (.bool true) (by kernel_rfl) (by kernel_rfl) (by kernel_rfl) (fun _ _ _ h => h) rfl (fun w hSw => by (try dsimp only at hSw); obtain ⟨q0, q1, q2⟩ := hSw; go_simp) (by assumption) ?_
        try simp only [Act.put, List.setIfInBounds_toArray, List.set_cons_zero, List.set_cons_succ]
        refine tk1 (.bool false) (by kernel_rfl) (by kernel_rfl) (by kernel_rfl) (fun _ _ _ h => h) rfl (fun w hSw => by (try dsimp only at hSw); obtain ⟨q0, q1, q2⟩ := hSw; go_simp) (by assumption) ?_
        try simp only [Act.put, List.setIfInBounds_toArray, List.set_cons_zero, List.set_cons_succ]
        refine tk2 (.bool false) (by kernel_rfl) (by kernel_rfl) (by kernel_rfl) (fun _ _ _ h => h) rfl (fun w hSw => by (try dsimp only at hSw); obtain ⟨q0, q1, q2⟩ := hSw; go_simp) (by assumption) ?_
        try simp only [Act.put, List.setIfInBounds_toArray, List.set_cons_zero, List.set_cons_succ]
        refine tk3 (.pointer (some ⟨X, 0, none⟩)) (by kernel_rfl) (by kernel_rfl) (by kernel_rfl) (fun _ _ _ h => h) rfl (fun w hSw => by (try dsimp only at hSw); obtain ⟨q0, q1, q2⟩ := hSw; go_simp) (by assumption) ?_
        try simp only [Act.put, List.setIfInBounds_toArray, List.set_cons_zero, List.set_cons_succ]
        refine tk4 (.pointer (some ⟨W.heap.size, 0, none⟩)) (by kernel_rfl) (by kernel_rfl) (by kernel_rfl) (fun _ _ _ h => h) rfl (fun w hSw => by (try dsimp only at hSw); obtain ⟨q0, q1, q2⟩ := hSw; go_simp) (by assumption) ?_
        try simp only [Act.put, List.setIfInBounds_toArray, List.set_cons_zero, List.set_cons_succ]
        refine tk5 (.int .i64 x.s) (by kernel_rfl) (by kernel_rfl) (by kernel_rfl) (fun _ _ _ h => h) rfl (fun w hSw => by (try dsimp only at hSw); obtain ⟨q0, q1, q2⟩ := hSw; go_simp) (by assumption) ?_
        try simp only [Act.put, List.setIfInBounds_toArray, List.set_cons_zero, List.set_cons_succ]
        refine cl6 (by kernel_rfl) rfl (fun K hK => ?_)
        go_simp
        go_at_call 23
        refine (holds_any (A1.out.hA.keep (w' := V1.drew) fun _ _ => rfl) HOX.out.1).mono ?_
        rw [hb]
        rintro e w4 ⟨rfl, b4⟩
        have I4 : Hid _ := I1.out.fresh (undrew b4)
        have A4 : Hid _ := A1.out.fresh (undrew b4)
        clear b4
        refine hK.out _ _ ?_ (fun hHeld => ?_)
        · exact ⟨I4.out.c0, by have := I4.out.c2; rw [HOX.out.2.2.2] at this; exact this, by have := A4.out.hA.cellW; rw [hwv] at this; exact this⟩
        clear hK K
        try simp only [Act.put, List.setIfInBounds_toArray, List.set_cons_zero, List.set_cons_succ]
        refine tk7 (.bool false) (by kernel_rfl) (by kernel_rfl) (by kernel_rfl) (fun _ _ _ h => h) rfl (fun w hSw => by (try dsimp only at hSw); obtain ⟨q0, q1, q2⟩ := hSw; go_simp) (by assumption) ?_
        try simp only [Act.put, List.setIfInBounds_toArray, List.set_cons_zero, List.set_cons_succ]
        refine tk8 (.bool false) (by kernel_rfl) (by kernel_rfl) (by kernel_rfl) (fun _ _ _ h => h) rfl (fun w hSw => by (try dsimp only at hSw); obtain ⟨q0, q1, q2⟩ := hSw; go_simp) (by assumption) ?_
        try simp only [Act.put, List.setIfInBounds_toArray, List.set_cons_zero, List.set_cons_succ]
        refine tk9 (.bool false) (by kernel_rfl) (by kernel_rfl) (by kernel_rfl) (fun _ _ _ h => h) rfl (fun w hSw => by (try dsimp only at hSw); obtain ⟨q0, q1, q2⟩ := hSw; go_simp) (by assumption) ?_
        try simp only [Act.put, List.setIfInBounds_toArray, List.set_cons_zero, List.set_cons_succ]
        refine tk10 (.pointer (some ⟨X, 0, none⟩)) (by kernel_rfl) (by kernel_rfl) (by kernel_rfl) (fun _ _ _ h => h) rfl (fun w hSw => by (try dsimp only at hSw); obtain ⟨q0, q1, q2⟩ := hSw; go_simp) (by assumption) ?_
        try simp only [Act.put, List.setIfInBounds_toArray, List.set_cons_zero, List.set_cons_succ]
        refine tk11 (.pointer (some ⟨X, 0, none⟩)) (by kernel_rfl) (by kernel_rfl) (by kernel_rfl) (fun _ _ _ h => h) rfl (fun w hSw => by (try dsimp only at hSw); obtain ⟨q0, q1, q2⟩ := hSw; go_simp) (by assumption) ?_
        try simp only [Act.put, List.setIfInBounds_toArray, List.set_cons_zero, List.set_cons_succ]
        refine tk12 (.pointer (some ⟨X, 1, none⟩)) (by kernel_rfl) (by kernel_rfl) (by kernel_rfl) (fun _ _ _ h => h) rfl (fun w hSw => by (try dsimp only at hSw); obtain ⟨q0, q1, q2⟩ := hSw; go_simp) (by assumption) ?_
        try simp only [Act.put, List.setIfInBounds_toArray, List.set_cons_zero, List.set_cons_succ]
        refine tk13 (.bool true) (by kernel_rfl) (by kernel_rfl) (by kernel_rfl) (fun _ _ _ h => h) rfl (fun w hSw => by (try dsimp only at hSw); obtain ⟨q0, q1, q2⟩ := hSw; go_simp) (by assumption) ?_
        try simp only [Act.put, List.setIfInBounds_toArray, List.set_cons_zero, List.set_cons_succ]
        refine tk14 (.pointer (some ⟨W.heap.size, 2, none⟩)) (by kernel_rfl) (by kernel_rfl) (by kernel_rfl) (fun _ _ _ h => h) rfl (fun w hSw => by (try dsimp only at hSw); obtain ⟨q0, q1, q2⟩ := hSw; go_simp) (by assumption) ?_
        try simp only [Act.put, List.setIfInBounds_toArray, List.set_cons_zero, List.set_cons_succ]
        refine tk15 (.bool false) (by kernel_rfl) (by kernel_rfl) (by kernel_rfl) (fun _ _ _ h => h) rfl (fun w hSw => by (try dsimp only at hSw); obtain ⟨q0, q1, q2⟩ := hSw; go_simp) (by assumption) ?_
        try simp only [Act.put, List.setIfInBounds_toArray, List.set_cons_zero, List.set_cons_succ]
        refine tk16 (.bool false) (by kernel_rfl) (by kernel_rfl) (by kernel_rfl) (fun _ _ _ h => h) rfl (fun w hSw => by (try dsimp only at hSw); obtain ⟨q0, q1, q2⟩ := hSw; go_simp) (by assumption) ?_
        try simp only [Act.put, List.setIfInBounds_toArray, List.set_cons_zero, List.set_cons_succ]
        refine tk17 (.bool false) (by kernel_rfl) (by kernel_rfl) (by kernel_rfl) (fun _ _ _ h => h) rfl (fun w hSw => by (try dsimp only at hSw); obtain ⟨q0, q1, q2⟩ := hSw; go_simp) (by assumption) ?_
        try simp only [Act.put, List.setIfInBounds_toArray, List.set_cons_zero, List.set_cons_succ]
        refine wpAnyH_done (by kernel_rfl) ?_ _
        go_upto_region 7 with fail
        refine wp_region_held_drew (S := (fun w' : World => w'.cell? ⟨W.heap.size, 0, none⟩ = some (.int .i64 x.s) ∧ w'.cell? ⟨W.heap.size, 1, none⟩ = some (.int .i64 x.n) ∧ w'.cell? ⟨W.heap.size, 2, none⟩ = some (.bool x.rd) ∧ w'.cell? ⟨w.heap.size, 3, none⟩ = some (.string nm))) (by kernel_rfl) ?_ (fun hHeld0 => ?_)
        · exact I4.out.cells4s
        refine tk0 (.agg (lcWA x)) (by kernel_rfl) (by kernel_rfl) (by kernel_rfl) (fun _ _ _ h => h) rfl (fun w hSw => by (try dsimp only at hSw); obtain ⟨q0, q1, q2, q3⟩ := hSw; go_simp) (by assumption) ?_
        try simp only [Act.put, List.setIfInBounds_toArray, List.set_cons_zero, List.set_cons_succ]
        refine tk3 (.pointer (some ⟨D, 0, none⟩)) (by kernel_rfl) (by kernel_rfl) (by kernel_rfl) (fun _ _ _ h => h) rfl (fun w hSw => by (try dsimp only at hSw); obtain ⟨q0, q1, q2, q3⟩ := hSw; go_simp) (by assumption) ?_
        try simp only [Act.put, List.setIfInBounds_toArray, List.set_cons_zero, List.set_cons_succ]
        refine tk4 (.pointer (some ⟨w.heap.size, 3, none⟩)) (by kernel_rfl) (by kernel_rfl) (by kernel_rfl) (fun _ _ _ h => h) rfl (fun w hSw => by (try dsimp only at hSw); obtain ⟨q0, q1, q2, q3⟩ := hSw; go_simp) (by assumption) ?_
        try simp only [Act.put, List.setIfInBounds_toArray, List.set_cons_zero, List.set_cons_succ]
        refine tk5 (.string nm) (by kernel_rfl) (by kernel_rfl) (by kernel_rfl) (fun _ _ _ h => h) rfl (fun w hSw => by (try dsimp only at hSw); obtain ⟨q0, q1, q2, q3⟩ := hSw; go_simp) (by assumption) ?_
        try simp only [Act.put, List.setIfInBounds_toArray, List.set_cons_zero, List.set_cons_succ]
        refine tk6 (.pointer (some ⟨W.heap.size, 0, none⟩)) (by kernel_rfl) (by kernel_rfl) (by kernel_rfl) (fun _ _ _ h => h) rfl (fun w hSw => by (try dsimp only at hSw); obtain ⟨q0, q1, q2, q3⟩ := hSw; go_simp) (by assumption) ?_
        try simp only [Act.put, List.setIfInBounds_toArray, List.set_cons_zero, List.set_cons_succ]
        refine tk7 (.int .i64 x.s) (by kernel_rfl) (by kernel_rfl) (by kernel_rfl) (fun _ _ _ h => h) rfl (fun w hSw => by (try dsimp only at hSw); obtain ⟨q0, q1, q2, q3⟩ := hSw; go_simp) (by assumption) ?_
        try simp only [Act.put, List.setIfInBounds_toArray, List.set_cons_zero, List.set_cons_succ]
        refine cl1 (by kernel_rfl) rfl (fun K hK => ?_)
        go_simp
        go_at_call 37
        refine (reply_any _ x).mono ?_
        rintro e w6 ⟨rfl, b6⟩
        have I6 : Hid _ := I4.out.fresh (undrew b6)
        have A6 : Hid _ := A4.out.fresh (undrew b6)
        clear b6
        refine hK.out _ _ ?_ (fun hHeld => ?_)
        · exact I6.out.cells4s
        clear hK K
        try simp only [Act.put, List.setIfInBounds_toArray, List.set_cons_zero, List.set_cons_succ]
        refine rd2_8 (by kernel_rfl) rfl rfl (fun K hK => ?_) (fun K hK => ?_)
        · go_simp
          obtain ⟨w7, hw7⟩ : ∃ w7, w7 = w6.alloc (.cells (rpA (repX x)) rpT) := ⟨_, rfl⟩
          have HW7 : Hid (w6.alloc (.cells #[.int .i64 x.s, .int .i64 x.n, .int .i64 0, .int .u64 0, .int .i64 0] rpT) = w7) := hw7.symm
          rw [HW7.out]
          have b7 : Below w6.heap.size w6 w7 := by rw [hw7]; exact (Below.refl _ w6).alloc (Nat.le_refl _) _
          have N7 : Hid (w7.heap[w6.heap.size]? = some (.cells (rpA (repX x)) rpT (0, 0))) := (show w7.heap[w6.heap.size]? = _ from by rw [hw7]; exact heap_alloc_new w6 _)
          have I7 : Hid _ := I6.out.fresh b7
          have A7 : Hid _ := A6.out.fresh b7
          clear hw7 b7
          refine hK.out _ _ ?_ (fun hHeld => ?_)
          · exact I7.out.cells4s
          clear hK K
          try simp only [Act.put, List.setIfInBounds_toArray, List.set_cons_zero, List.set_cons_succ]
          refine cl8 (by kernel_rfl) rfl (fun K hK => ?_)
          go_simp
          go_at_call 38
          refine (pdrop_any A7.out.I A7.out.lkK (show nm.size ≤ maxLen from by unfold maxLen; have := HO.out.2; omega) HOX.out.1 A7.out.inv.pre.ap A7.out.sumN (by have := A7.out.hN; omega)).mono ?_
          rintro e w8 ⟨u8, T8, own8, rfl, o8, L8, k8, s8⟩
          obtain ⟨p8, n8, c8, rfl⟩ := own_form o8
          have Q8 : Hid (RlQ w w8 base D M own (updK (lookK l) nm (liveO (pdK y c x.s).2.1)) (pdK y c x.s).1 w6.heap.size (repX x) (.slice p8 n8 c8) (pdK y c x.s).2.2) := RlQ.first (Kept.of I7.out.bel) (fun b hb => (HB.out b hb)) N7.out I6.out.bel.size o8 L8 k8
          have HS8 : Hid ((fun w' : World => w'.cell? ⟨W.heap.size, 0, none⟩ = some (.int .i64 x.s) ∧ w'.cell? ⟨W.heap.size, 1, none⟩ = some (.int .i64 x.n) ∧ w'.cell? ⟨W.heap.size, 2, none⟩ = some (.bool x.rd) ∧ w'.cell? ⟨w.heap.size, 3, none⟩ = some (.string nm)) w8) := (show (fun w' : World => w'.cell? ⟨W.heap.size, 0, none⟩ = some (.int .i64 x.s) ∧ w'.cell? ⟨W.heap.size, 1, none⟩ = some (.int .i64 x.n) ∧ w'.cell? ⟨W.heap.size, 2, none⟩ = some (.bool x.rd) ∧ w'.cell? ⟨w.heap.size, 3, none⟩ = some (.string nm)) w8 from I7.out.cells4 HB.out k8 (HGE.out))
          clear o8 L8 k8 s8
          refine hK.out _ _ ?_ (fun hHeld => ?_)
          · exact HS8.out
          clear hK K
          try simp only [Act.put, List.setIfInBounds_toArray, List.set_cons_zero, List.set_cons_succ]
          refine cl9 (by kernel_rfl) rfl (fun K hK => ?_)
          go_simp
          go_at_call 25
          refine (behind_any Q8.out.own1 Q8.out.row (Nat.le_trans Q8.out.lo (Nat.le_of_lt (lt_of_block Q8.out.one))) (by have := pdK_few (c := c) (s := x.s) A6.out.sumN; have := A6.out.hN; simp only [List.length_singleton]; omega)).mono ?_
          rintro e w10 ⟨u10, rfl, o10, a10⟩
          obtain ⟨p10, n10, c10, rfl⟩ := own_form o10
          have F10 : Hid _ := Q8.out.fin a10
          have O10 : Hid _ := o10
          have HS10 : Hid ((fun w' : World => w'.cell? ⟨W.heap.size, 0, none⟩ = some (.int .i64 x.s) ∧ w'.cell? ⟨W.heap.size, 1, none⟩ = some (.int .i64 x.n) ∧ w'.cell? ⟨W.heap.size, 2, none⟩ = some (.bool x.rd) ∧ w'.cell? ⟨w.heap.size, 3, none⟩ = some (.string nm)) w10) := (show (fun w' : World => w'.cell? ⟨W.heap.size, 0, none⟩ = some (.int .i64 x.s) ∧ w'.cell? ⟨W.heap.size, 1, none⟩ = some (.int .i64 x.n) ∧ w'.cell? ⟨W.heap.size, 2, none⟩ = some (.bool x.rd) ∧ w'.cell? ⟨w.heap.size, 3, none⟩ = some (.string nm)) w10 from cells4_app HS8.out a10 (Nat.lt_trans (lt_of_block I6.out.cmd) (lt_of_block Q8.out.one)) (Nat.lt_trans (lt_of_block I6.out.box) (lt_of_block Q8.out.one)) (by have := lt_of_block I6.out.cmd; omega) (by have := lt_of_block I6.out.box; omega))
          clear o10 a10
          refine hK.out _ _ ?_ (fun hHeld => ?_)
          · exact HS10.out
          clear hK K
          try simp only [Act.put, List.setIfInBounds_toArray, List.set_cons_zero, List.set_cons_succ]
          refine tk10 (.slice p10 n10 c10) (by kernel_rfl) (by kernel_rfl) (by kernel_rfl) (fun _ _ _ h => h) rfl (fun w hSw => by (try dsimp only at hSw); obtain ⟨q0, q1, q2, q3⟩ := hSw; go_simp) (by assumption) ?_
          try simp only [Act.put, List.setIfInBounds_toArray, List.set_cons_zero, List.set_cons_succ]
          refine wpAnyH_done (by kernel_rfl) ?_ _
          go_wp2
          go_ret
          have hy := A6.out.inv
          obtain ⟨T9, own9, L9, k9, s9⟩ := F10.out
          have F2 := A6.out.ok.rel A6.out.hi c x.s
          have hfit := A6.out.fit.rel 6 s n nm
          rw [A6.out.relL (by decide), ← HQQ.out, HQ.out.1, relS_eq hy HQ.out.2] at hfit
          rw [HQ.out.1, relS_eq hy HQ.out.2]
          rw [← HOX.out.2.1, ← HOX.out.2.2.1] at hfit ⊢
          refine ⟨_, _, rfl, RowAt.own rpC_len O10.out, ⟨⟨M, T9, own9, ?_, rfl⟩, F2.1, hfit⟩, k9, sep_own O10.out s9⟩
          show LcL w10 base D M (pdK y c x.s).1 (lookK (tidyL (l.set i (pdK y c x.s).2.1))) _ _
          rw [F2.2, A6.out.hn]
          exact L9
        · go_simp
          go_at_call 38
          refine (pdrop_any A6.out.I A6.out.lkK (show nm.size ≤ maxLen from by unfold maxLen; have := HO.out.2; omega) HOX.out.1 A6.out.inv.pre.ap A6.out.sumN (by have := A6.out.hN; omega)).mono ?_
          rintro e w8 ⟨u8, T8, own8, rfl, o8, L8, k8, s8⟩
          obtain ⟨p8, n8, c8, rfl⟩ := own_form o8
          have O8 : Hid _ := o8
          have L8 : Hid _ := L8
          have K8 : Hid _ := k8
          have HS8 : Hid ((fun w' : World => w'.cell? ⟨W.heap.size, 0, none⟩ = some (.int .i64 x.s) ∧ w'.cell? ⟨W.heap.size, 1, none⟩ = some (.int .i64 x.n) ∧ w'.cell? ⟨W.heap.size, 2, none⟩ = some (.bool x.rd) ∧ w'.cell? ⟨w.heap.size, 3, none⟩ = some (.string nm)) w8) := (show (fun w' : World => w'.cell? ⟨W.heap.size, 0, none⟩ = some (.int .i64 x.s) ∧ w'.cell? ⟨W.heap.size, 1, none⟩ = some (.int .i64 x.n) ∧ w'.cell? ⟨W.heap.size, 2, none⟩ = some (.bool x.rd) ∧ w'.cell? ⟨w.heap.size, 3, none⟩ = some (.string nm)) w8 from I6.out.cells4 HB.out k8 (HGE.out))
          clear o8 k8 s8
          refine hK.out _ _ ?_ (fun hHeld => ?_)
          · exact HS8.out
          clear hK K
          try simp only [Act.put, List.setIfInBounds_toArray, List.set_cons_zero, List.set_cons_succ]
          refine cl2 (by kernel_rfl) rfl (fun K hK => ?_)
          go_simp
          have Q8 : Hid (RlQ w (w8.alloc (.cells (rpA (repX x)) rpT)) base D M own (updK (lookK l) nm (liveO (pdK y c x.s).2.1)) (pdK y c x.s).1 w8.heap.size (repX x) (.slice p8 n8 c8) (pdK y c x.s).2.2) := RlQ.last (Kept.of I6.out.bel) O8.out L8.out K8.out
          obtain ⟨w9, hw9⟩ : ∃ w9, w9 = w8.alloc (.cells (rpA (repX x)) rpT) := ⟨_, rfl⟩
          have HW9 : Hid (w8.alloc (.cells #[.int .i64 x.s, .int .i64 x.n, .int .i64 0, .int .u64 0, .int .i64 0] rpT) = w9) := hw9.symm
          rw [HW9.out]
          have HS9 : Hid ((fun w' : World => w'.cell? ⟨W.heap.size, 0, none⟩ = some (.int .i64 x.s) ∧ w'.cell? ⟨W.heap.size, 1, none⟩ = some (.int .i64 x.n) ∧ w'.cell? ⟨W.heap.size, 2, none⟩ = some (.bool x.rd) ∧ w'.cell? ⟨w.heap.size, 3, none⟩ = some (.string nm)) w9) := (show (fun w' : World => w'.cell? ⟨W.heap.size, 0, none⟩ = some (.int .i64 x.s) ∧ w'.cell? ⟨W.heap.size, 1, none⟩ = some (.int .i64 x.n) ∧ w'.cell? ⟨W.heap.size, 2, none⟩ = some (.bool x.rd) ∧ w'.cell? ⟨w.heap.size, 3, none⟩ = some (.string nm)) w9 from by rw [hw9]; exact cells4_alloc HS8.out)
          rw [← hw9] at Q8
          clear hw9
          refine hK.out _ _ ?_ (fun hHeld => ?_)
          · exact HS9.out
          clear hK K
          try simp only [Act.put, List.setIfInBounds_toArray, List.set_cons_zero, List.set_cons_succ]
          refine cl9 (by kernel_rfl) rfl (fun K hK => ?_)
          go_simp
          go_at_call 25
          refine (behind_any Q8.out.own1 Q8.out.row (Nat.le_trans Q8.out.lo (Nat.le_of_lt (lt_of_block Q8.out.one))) (by have := pdK_few (c := c) (s := x.s) A6.out.sumN; have := A6.out.hN; simp only [List.length_singleton]; omega)).mono ?_
          rintro e w10 ⟨u10, rfl, o10, a10⟩
          obtain ⟨p10, n10, c10, rfl⟩ := own_form o10
          have F10 : Hid _ := Q8.out.fin a10
          have O10 : Hid _ := o10
          have HS10 : Hid ((fun w' : World => w'.cell? ⟨W.heap.size, 0, none⟩ = some (.int .i64 x.s) ∧ w'.cell? ⟨W.heap.size, 1, none⟩ = some (.int .i64 x.n) ∧ w'.cell? ⟨W.heap.size, 2, none⟩ = some (.bool x.rd) ∧ w'.cell? ⟨w.heap.size, 3, none⟩ = some (.string nm)) w10) := (show (fun w' : World => w'.cell? ⟨W.heap.size, 0, none⟩ = some (.int .i64 x.s) ∧ w'.cell? ⟨W.heap.size, 1, none⟩ = some (.int .i64 x.n) ∧ w'.cell? ⟨W.heap.size, 2, none⟩ = some (.bool x.rd) ∧ w'.cell? ⟨w.heap.size, 3, none⟩ = some (.string nm)) w10 from cells4_app HS9.out a10 (Nat.lt_of_lt_of_le (lt_of_block I6.out.cmd) (Nat.le_trans K8.out.size (by rw [← HW9.out]; simp))) (Nat.lt_of_lt_of_le (lt_of_block I6.out.box) (Nat.le_trans K8.out.size (by rw [← HW9.out]; simp))) (by have := lt_of_block I6.out.cmd; have := K8.out.size; omega) (by have := lt_of_block I6.out.box; have := K8.out.size; omega))
          clear o10 a10
          refine hK.out _ _ ?_ (fun hHeld => ?_)
          · exact HS10.out
          clear hK K
          try simp only [Act.put, List.setIfInBounds_toArray, List.set_cons_zero, List.set_cons_succ]
          refine tk10 (.slice p10 n10 c10) (by kernel_rfl) (by kernel_rfl) (by kernel_rfl) (fun _ _ _ h => h) rfl (fun w hSw => by (try dsimp only at hSw); obtain ⟨q0, q1, q2, q3⟩ := hSw; go_simp) (by assumption) ?_
          try simp only [Act.put, List.setIfInBounds_toArray, List.set_cons_zero, List.set_cons_succ]
          refine wpAnyH_done (by kernel_rfl) ?_ _
          go_wp2
          go_ret
          have hy := A6.out.inv
          obtain ⟨T9, own9, L9, k9, s9⟩ := F10.out
          have F2 := A6.out.ok.rel A6.out.hi c x.s
          have hfit := A6.out.fit.rel 6 s n nm
          rw [A6.out.relL (by decide), ← HQQ.out, HQ.out.1, relS_eq hy HQ.out.2] at hfit
          rw [HQ.out.1, relS_eq hy HQ.out.2]
          rw [← HOX.out.2.1, ← HOX.out.2.2.1] at hfit ⊢
          refine ⟨_, _, rfl, RowAt.own rpC_len O10.out, ⟨⟨M, T9, own9, ?_, rfl⟩, F2.1, hfit⟩, k9, sep_own O10.out s9⟩
          show LcL w10 base D M (pdK y c x.s).1 (lookK (tidyL (l.set i (pdK y c x.s).2.1))) _ _
          rw [F2.2, A6.out.hn]
          exact L9
  · skip
    go_enter Try.func12, Try.ntmps12
    go_upto_region 1 with fail
    rw [HW.out]
    go_upto_region 4 with fail
    obtain ⟨V, hV⟩ : ∃ V, V = W.alloc (.cells (lcWA ⟨s, n, true⟩) lcWT) := ⟨_, rfl⟩
    have HV : Hid (W.alloc (.cells #[.int .i64 s, .int .i64 n, .bool true] lcWT) = V) := hV.symm
    rw [HV.out]
    obtain ⟨x, hx⟩ : ∃ x : Wq, x = ⟨s, n, true⟩ := ⟨_, rfl⟩
    have HX : Hid (x = ⟨s, n, true⟩) := hx
    have HGE : Hid (w.heap.size ≤ W.heap.size) := HWL.out
    have IV : Hid (RlI w V base D M c l T own nm (cmA 8 s n nm m) W.heap.size x) := (show RlI w V base D M c l T own nm (cmA 8 s n nm m) W.heap.size x from by rw [hV, hx]; exact HV0.out)
    have HS0 : Hid ((fun w' : World => w'.cell? ⟨D, 0, none⟩ = some (.map (some M)) ∧ w'.cell? ⟨w.heap.size, 3, none⟩ = some (.string nm) ∧ (Instr.lookup 58 (.map (some M)) (.string nm) true).run Try.prog w' = .ok (.tuple #[.pointer (some ⟨X, 0, none⟩), .bool true]) w') V.drew) := (show (fun w' : World => w'.cell? ⟨D, 0, none⟩ = some (.map (some M)) ∧ w'.cell? ⟨w.heap.size, 3, none⟩ = some (.string nm) ∧ (Instr.lookup 58 (.map (some M)) (.string nm) true).run Try.prog w' = .ok (.tuple #[.pointer (some ⟨X, 0, none⟩), .bool true]) w') V.drew from ⟨(IV.out.I).cellM, by have := IV.out.cmd; simp only [World.cell?, show V.drew.heap[w.heap.size]? = _ from this]; rfl, by rw [hV]; exact HLK.out⟩)
    clear hV hx y0 y1 y2 HV0 HLK
    have AV : Hid (AkT V base D M N c l T own nm i y X) := (show AkT V base D M N c l T own nm i y X from HA.out.fresh IV.out.bel)
    have HOX : Hid (inI x.s ∧ x.s = s ∧ x.n = n ∧ x.rd = true) := (show inI x.s ∧ x.s = s ∧ x.n = n ∧ x.rd = true from by rw [HX.out]; exact ⟨HO.out.1, rfl, rfl, rfl⟩)
    refine wp_region_held_drew (S := (fun w' : World => w'.cell? ⟨D, 0, none⟩ = some (.map (some M)) ∧ w'.cell? ⟨w.heap.size, 3, none⟩ = some (.string nm) ∧ (Instr.lookup 58 (.map (some M)) (.string nm) true).run Try.prog w' = .ok (.tuple #[.pointer (some ⟨X, 0, none⟩), .bool true]) w')) (by kernel_rfl) ?_ (fun hHeld0 => ?_)
    · exact HS0.out
    refine tk0 (.pointer (some ⟨D, 0, none⟩)) (by kernel_rfl) (by kernel_rfl) (by kernel_rfl) (fun _ _ _ h => h) rfl (fun w hSw => by (try dsimp only at hSw); obtain ⟨q0, q1, q2⟩ := hSw; go_simp) (by assumption) ?_
    try simp only [Act.put, List.setIfInBounds_toArray, List.set_cons_zero, List.set_cons_succ]
    refine tk1 (.pointer (some ⟨D, 0, none⟩)) (by kernel_rfl) (by kernel_rfl) (by kernel_rfl) (fun _ _ _ h => h) rfl (fun w hSw => by (try dsimp only at hSw); obtain ⟨q0, q1, q2⟩ := hSw; go_simp) (by assumption) ?_
    try simp only [Act.put, List.setIfInBounds_toArray, List.set_cons_zero, List.set_cons_succ]
    refine tk2 (.pointer (some ⟨D, 0, none⟩)) (by kernel_rfl) (by kernel_rfl) (by kernel_rfl) (fun _ _ _ h => h) rfl (fun w hSw => by (try dsimp only at hSw); obtain ⟨q0, q1, q2⟩ := hSw; go_simp) (by assumption) ?_
    try simp only [Act.put, List.setIfInBounds_toArray, List.set_cons_zero, List.set_cons_succ]
    refine tk3 (.map (some M)) (by kernel_rfl) (by kernel_rfl) (by kernel_rfl) (fun _ _ _ h => h) rfl (fun w hSw => by (try dsimp only at hSw); obtain ⟨q0, q1, q2⟩ := hSw; go_simp) (by assumption) ?_
    try simp only [Act.put, List.setIfInBounds_toArray, List.set_cons_zero, List.set_cons_succ]
    refine tk4 (.pointer (some ⟨w.heap.size, 3, none⟩)) (by kernel_rfl) (by kernel_rfl) (by kernel_rfl) (fun _ _ _ h => h) rfl (fun w hSw => by (try dsimp only at hSw); obtain ⟨q0, q1, q2⟩ := hSw; go_simp) (by assumption) ?_
    try simp only [Act.put, List.setIfInBounds_toArray, List.set_cons_zero, List.set_cons_succ]
    refine tk5 (.string nm) (by kernel_rfl) (by kernel_rfl) (by kernel_rfl) (fun _ _ _ h => h) rfl (fun w hSw => by (try dsimp only at hSw); obtain ⟨q0, q1, q2⟩ := hSw; go_simp) (by assumption) ?_
    try simp only [Act.put, List.setIfInBounds_toArray, List.set_cons_zero, List.set_cons_succ]
    refine tk6 (.tuple #[.pointer (some ⟨X, 0, none⟩), .bool true]) (by kernel_rfl) (by kernel_rfl) (by kernel_rfl) (fun _ _ _ h => h) rfl (fun w hSw => by (try dsimp only at hSw); obtain ⟨q0, q1, q2⟩ := hSw; go_simp) (by assumption) ?_
    try simp only [Act.put, List.setIfInBounds_toArray, List.set_cons_zero, List.set_cons_succ]
    refine tk7 (.tuple #[.pointer (some ⟨X, 0, none⟩), .bool true]) (by kernel_rfl) (by kernel_rfl) (by kernel_rfl) (fun _ _ _ h => h) rfl (fun w hSw => by (try dsimp only at hSw); obtain ⟨q0, q1, q2⟩ := hSw; go_simp) (by assumption) ?_
    try simp only [Act.put, List.setIfInBounds_toArray, List.set_cons_zero, List.set_cons_succ]
    refine tk8 (.pointer (some ⟨X, 0, none⟩)) (by kernel_rfl) (by kernel_rfl) (by kernel_rfl) (fun _ _ _ h => h) rfl (fun w hSw => by (try dsimp only at hSw); obtain ⟨q0, q1, q2⟩ := hSw; go_simp) (by assumption) ?_
    try simp only [Act.put, List.setIfInBounds_toArray, List.set_cons_zero, List.set_cons_succ]
    refine tk9 (.bool true) (by kernel_rfl) (by kernel_rfl) (by kernel_rfl) (fun _ _ _ h => h) rfl (fun w hSw => by (try dsimp only at hSw); obtain ⟨q0, q1, q2⟩ := hSw; go_simp) (by assumption) ?_
    try simp only [Act.put, List.setIfInBounds_toArray, List.set_cons_zero, List.set_cons_succ]
    refine tk10 (.pointer (some ⟨X, 0, none⟩)) (by kernel_rfl) (by kernel_rfl) (by kernel_rfl) (fun _ _ _ h => h) rfl (fun w hSw => by (try dsimp only at hSw); obtain ⟨q0, q1, q2⟩ := hSw; go_simp) (by assumption) ?_
    try simp only [Act.put, List.setIfInBounds_toArray, List.set_cons_zero, List.set_cons_succ]
    refine tk11 (.bool true) (by kernel_rfl) (by kernel_rfl) (by kernel_rfl) (fun _ _ _ h => h) rfl (fun w hSw => by (try dsimp only at hSw); obtain ⟨q0, q1, q2⟩ := hSw; go_simp) (by assumption) ?_
    try simp only [Act.put, List.setIfInBounds_toArray, List.set_cons_zero, List.set_cons_succ]
    refine wpAnyH_done (by kernel_rfl) ?_ _
    go_upto_region 5 with fail
    obtain ⟨V1, hV1⟩ : ∃ V1, V1 = V.drew := ⟨_, rfl⟩
    rw [← hV1]
    have I1 : Hid (RlI w V1 base D M c l T own nm (cmA 8 s n nm m) W.heap.size x) := (show RlI w V1 base D M c l T own nm (cmA 8 s n nm m) W.heap.size x from by rw [hV1]; exact IV.out.fresh ⟨rfl, rfl, rfl, Nat.le_refl _, fun _ _ => rfl⟩)
    have A1 : Hid (AkT V1 base D M N c l T own nm i y X) := (show AkT V1 base D M N c l T own nm i y X from by rw [hV1]; exact AV.out.fresh ⟨rfl, rfl, rfl, Nat.le_refl _, fun _ _ => rfl⟩)
    clear hV1 IV AV HS0 HV HA HW
    cases hb : hasB y.h x.s with
    | false =>
      have HQ : Hid (qq = (c, l, [⟨x.s, x.n, 13, 0, 0⟩])) := (show qq = _ from by rw [HQQ.out, ← HOX.out.2.1, ← HOX.out.2.2.1, if_pos (Or.inl hb)])
      refine wp_region_held_drew (S := (fun w' : World => w'.cell? ⟨W.heap.size, 0, none⟩ = some (.int .i64 x.s) ∧ w'.cell? ⟨W.heap.size, 2, none⟩ = some (.bool true) ∧ w'.cell? ⟨X, 1, none⟩ = some (.bool y.wr))) (by kernel_rfl) ?_ (fun hHeld0 => ?_)
      · exact ⟨I1.out.c0, by have := I1.out.c2; rw [HOX.out.2.2.2] at this; exact this, by have := A1.out.hA.cellW; exact this⟩
      refine tk0 (.bool true) (by kernel_rfl) (by kernel_rfl) (by kernel_rfl) (fun _ _ _ h => h) rfl (fun w hSw => by (try dsimp only at hSw); obtain ⟨q0, q1, q2⟩ := hSw; go_simp) (by assumption) ?_
      try simp only [Act.put, List.setIfInBounds_toArray, List.set_cons_zero, List.set_cons_succ]
      refine tk1 (.bool false) (by kernel_rfl) (by kernel_rfl) (by kernel_rfl) (fun _ _ _ h => h) rfl (fun w hSw => by (try dsimp only at hSw); obtain ⟨q0, q1, q2⟩ := hSw; go_simp) (by assumption) ?_
      try simp only [Act.put, List.setIfInBounds_toArray, List.set_cons_zero, List.set_cons_succ]
      refine tk2 (.bool false) (by kernel_rfl) (by kernel_rfl) (by kernel_rfl) (fun _ _ _ h => h) rfl (fun w hSw => by (try dsimp only at hSw); obtain ⟨q0, q1, q2⟩ := hSw; go_simp) (by assumption) ?_
      try simp only [Act.put, List.setIfInBounds_toArray, List.set_cons_zero, List.set_cons_succ]
      refine tk3 (.pointer (some ⟨X, 0, none⟩)) (by kernel_rfl) (by kernel_rfl) (by kernel_rfl) (fun _ _ _ h => h) rfl (fun w hSw => by (try dsimp only at hSw); obtain ⟨q0, q1, q2⟩ := hSw; go_simp) (by assumption) ?_
      try simp only [Act.put, List.setIfInBounds_toArray, List.set_cons_zero, List.set_cons_succ]
      refine tk4 (.pointer (some ⟨W.heap.size, 0, none⟩)) (by kernel_rfl) (by kernel_rfl) (by kernel_rfl) (fun _ _ _ h => h) rfl (fun w hSw => by (try dsimp only at hSw); obtain ⟨q0, q1, q2⟩ := hSw; go_simp) (by assumption) ?_
      try simp only [Act.put, List.setIfInBounds_toArray, List.set_cons_zero, List.set_cons_succ]
      refine tk5 (.int .i64 x.s) (by kernel_rfl) (by kernel_rfl) (by kernel_rfl) (fun _ _ _ h => h) rfl (fun w hSw => by (try dsimp only at hSw); obtain ⟨q0, q1, q2⟩ := hSw; go_simp) (by assumption) ?_
      try simp only [Act.put, List.setIfInBounds_toArray, List.set_cons_zero, List.set_cons_succ]
      refine cl6 (by kernel_rfl) rfl (fun K hK => ?_)
      go_simp
      go_at_call 23
      refine (holds_any (A1.out.hA.keep (w' := V1.drew) fun _ _ => rfl) HOX.out.1).mono ?_
      rw [hb]
      rintro e w4 ⟨rfl, b4⟩
      have I4 : Hid _ := I1.out.fresh (undrew b4)
      have A4 : Hid _ := A1.out.fresh (undrew b4)
      clear b4
      refine hK.out _ _ ?_ (fun hHeld => ?_)
      · exact ⟨I4.out.c0, by have := I4.out.c2; rw [HOX.out.2.2.2] at this; exact this, by have := A4.out.hA.cellW; exact this⟩
      clear hK K
      try simp only [Act.put, List.setIfInBounds_toArray, List.set_cons_zero, List.set_cons_succ]
      refine tk7 (.bool true) (by kernel_rfl) (by kernel_rfl) (by kernel_rfl) (fun _ _ _ h => h) rfl (fun w hSw => by (try dsimp only at hSw); obtain ⟨q0, q1, q2⟩ := hSw; go_simp) (by assumption) ?_
      try simp only [Act.put, List.setIfInBounds_toArray, List.set_cons_zero, List.set_cons_succ]
      refine tk8 (.bool true) (by kernel_rfl) (by kernel_rfl) (by kernel_rfl) (fun _ _ _ h => h) rfl (fun w hSw => by (try dsimp only at hSw); obtain ⟨q0, q1, q2⟩ := hSw; go_simp) (by assumption) ?_
      try simp only [Act.put, List.setIfInBounds_toArray, List.set_cons_zero, List.set_cons_succ]
      refine tk9 (.bool true) (by kernel_rfl) (by kernel_rfl) (by kernel_rfl) (fun _ _ _ h => h) rfl (fun w hSw => by (try dsimp only at hSw); obtain ⟨q0, q1, q2⟩ := hSw; go_simp) (by assumption) ?_
      try simp only [Act.put, List.setIfInBounds_toArray, List.set_cons_zero, List.set_cons_succ]
      refine sk10 (by kernel_rfl) (by kernel_rfl) (by kernel_rfl) (fun _ _ _ h => h) rfl (by assumption) ?_
      try simp only [Act.put, List.setIfInBounds_toArray, List.set_cons_zero, List.set_cons_succ]
      refine sk11 (by kernel_rfl) (by kernel_rfl) (by kernel_rfl) (fun _ _ _ h => h) rfl (by assumption) ?_
      try simp only [Act.put, List.setIfInBounds_toArray, List.set_cons_zero, List.set_cons_succ]
      refine sk12 (by kernel_rfl) (by kernel_rfl) (by kernel_rfl) (fun _ _ _ h => h) rfl (by assumption) ?_
      try simp only [Act.put, List.setIfInBounds_toArray, List.set_cons_zero, List.set_cons_succ]
      refine sk13 (by kernel_rfl) (by kernel_rfl) (by kernel_rfl) (fun _ _ _ h => h) rfl (by assumption) ?_
      try simp only [Act.put, List.setIfInBounds_toArray, List.set_cons_zero, List.set_cons_succ]
      refine sk14 (by kernel_rfl) (by kernel_rfl) (by kernel_rfl) (fun _ _ _ h => h) rfl (by assumption) ?_
      try simp only [Act.put, List.setIfInBounds_toArray, List.set_cons_zero, List.set_cons_succ]
      refine sk15 (by kernel_rfl) (by kernel_rfl) (by kernel_rfl) (fun _ _ _ h => h) rfl (by assumption) ?_
      try simp only [Act.put, List.setIfInBounds_toArray, List.set_cons_zero, List.set_cons_succ]
      refine sk16 (by kernel_rfl) (by kernel_rfl) (by kernel_rfl) (fun _ _ _ h => h) rfl (by assumption) ?_
      try simp only [Act.put, List.setIfInBounds_toArray, List.set_cons_zero, List.set_cons_succ]
      refine tk17 (.bool true) (by kernel_rfl) (by kernel_rfl) (by kernel_rfl) (fun _ _ _ h => h) rfl (fun w hSw => by (try dsimp only at hSw); obtain ⟨q0, q1, q2⟩ := hSw; go_simp) (by assumption) ?_
      try simp only [Act.put, List.setIfInBounds_toArray, List.set_cons_zero, List.set_cons_succ]
      refine wpAnyH_done (by kernel_rfl) ?_ _
      go_wp2_with (first | (go_at_call 25; rw [HW6.out]; refine (behind_any (base := w6.heap.size) (xs := []) (World.ownsRow_nil _ _ _ _) R6.out (Nat.le_refl _) (by simp)).mono ?_; rintro e w7 ⟨u7, rfl, o7, a7⟩; obtain ⟨p7, n7, c7, rfl⟩ := own_form o7) | (go_at_call 26; refine (refused_any w4 x 13).mono ?_; rintro e w5 ⟨rfl, b5⟩; obtain ⟨w6, hw6⟩ : ∃ w6, w6 = w5.alloc (.cells (rpA ⟨x.s, x.n, 13, 0, 0⟩) rpT) := ⟨_, rfl⟩; have b6 : Below w4.heap.size w4 w6 := (by rw [hw6]; exact b5.trans (((Below.refl _ w5).alloc (Nat.le_refl _) _).mono b5.size)); have I6 : Hid _ := I4.out.fresh b6; have R6 : Hid (RowAt rpC w6 (.slice (some ⟨w5.heap.size, 0, none⟩) 1 1) [⟨x.s, x.n, 13, 0, 0⟩]) := (by rw [hw6]; exact rp_one); have HW6 : Hid (w5.alloc (.cells #[.int .i64 x.s, .int .i64 x.n, .int .i64 13, .int .u64 0, .int .i64 0] rpT) = w6) := hw6.symm; clear hw6 b6 b5) | (show wpList _ _ _ (⟨_, Op.load lcWT _, _, _, _, _⟩ :: _) _ _; refine load_row_g rfl lcWT _ rfl W.heap.size rfl lcWT (lcWA x) (0, 0) _ I4.out.box Try.underlying70 rfl sizeLw ?_))
      go_ret
      rw [HQ.out]
      have I7 := I6.out.fresh a7.below
      exact ⟨_, _, rfl, RowAt.own rpC_len o7, ⟨⟨M, T, own, I7.I, rfl⟩, A1.out.ok, A1.out.fit⟩, Kept.of I7.bel, sep_new o7 fun g hg => (I6.out.I.bd g hg).2⟩
    | true =>
      cases hwv : y.wr with
      | true =>
        have HQ : Hid (qq = (c, l, [⟨x.s, x.n, 13, 0, 0⟩])) := (show qq = _ from by rw [HQQ.out, ← HOX.out.2.1, ← HOX.out.2.2.1, hwv, if_pos (Or.inr (by decide))])
        refine wp_region_held_drew (S := (fun w' : World => w'.cell? ⟨W.heap.size, 0, none⟩ = some (.int .i64 x.s) ∧ w'.cell? ⟨W.heap.size, 2, none⟩ = some (.bool true) ∧ w'.cell? ⟨X, 1, none⟩ = some (.bool true))) (by kernel_rfl) ?_ (fun hHeld0 => ?_)
        · exact ⟨I1.out.c0, by have := I1.out.c2; rw [HOX.out.2.2.2] at this; exact this, by have := A1.out.hA.cellW; rw [hwv] at this; exact this⟩
        refine tk0 (.bool true) (by kernel_rfl) (by kernel_rfl) (by kernel_rfl) (fun _ _ _ h => h) rfl (fun w hSw => by (try dsimp only at hSw); obtain ⟨q0, q1, q2⟩ := hSw; go_simp) (by assumption) ?_
        try simp only [Act.put, List.setIfInBounds_toArray, List.set_cons_zero, List.set_cons_succ]
        refine tk1 (.bool false) (by kernel_rfl) (by kernel_rfl) (by kernel_rfl) (fun _ _ _ h => h) rfl (fun w hSw => by (try dsimp only at hSw); obtain ⟨q0, q1, q2⟩ := hSw; go_simp) (by assumption) ?_
        try simp only [Act.put, List.setIfInBounds_toArray, List.set_cons_zero, List.set_cons_succ]
        refine tk2 (.bool false) (by kernel_rfl) (by kernel_rfl) (by kernel_rfl) (fun _ _ _ h => h) rfl (fun w hSw => by (try dsimp only at hSw); obtain ⟨q0, q1, q2⟩ := hSw; go_simp) (by assumption) ?_
        try simp only [Act.put, List.setIfInBounds_toArray, List.set_cons_zero, List.set_cons_succ]
        refine tk3 (.pointer (some ⟨X, 0, none⟩)) (by kernel_rfl) (by kernel_rfl) (by kernel_rfl) (fun _ _ _ h => h) rfl (fun w hSw => by (try dsimp only at hSw); obtain ⟨q0, q1, q2⟩ := hSw; go_simp) (by assumption) ?_
        try simp only [Act.put, List.setIfInBounds_toArray, List.set_cons_zero, List.set_cons_succ]
        refine tk4 (.pointer (some ⟨W.heap.size, 0, none⟩)) (by kernel_rfl) (by kernel_rfl) (by kernel_rfl) (fun _ _ _ h => h) rfl (fun w hSw => by (try dsimp only at hSw); obtain ⟨q0, q1, q2⟩ := hSw; go_simp) (by assumption) ?_
        try simp only [Act.put, List.setIfInBounds_toArray, List.set_cons_zero, List.set_cons_succ]
        refine tk5 (.int .i64 x.s) (by kernel_rfl) (by kernel_rfl) (by kernel_rfl) (fun _ _ _ h => h) rfl (fun w hSw => by (try dsimp only at hSw); obtain ⟨q0, q1, q2⟩ := hSw; go_simp) (by assumption) ?_
        try simp only [Act.put, List.setIfInBounds_toArray, List.set_cons_zero, List.set_cons_succ]
        refine cl6 (by kernel_rfl) rfl (fun K hK => ?_)
        go_simp
        go_at_call 23
        refine (holds_any (A1.out.hA.keep (w' := V1.drew) fun _ _ => rfl) HOX.out.1).mono ?_
        rw [hb]
        rintro e w4 ⟨rfl, b4⟩
        have I4 : Hid _ := I1.out.fresh (undrew b4)
        have A4 : Hid _ := A1.out.fresh (undrew b4)
        clear b4
        refine hK.out _ _ ?_ (fun hHeld => ?_)
        · exact ⟨I4.out.c0, by have := I4.out.c2; rw [HOX.out.2.2.2] at this; exact this, by have := A4.out.hA.cellW; rw [hwv] at this; exact this⟩
        clear hK K
        try simp only [Act.put, List.setIfInBounds_toArray, List.set_cons_zero, List.set_cons_succ]
        refine tk7 (.bool false) (by kernel_rfl) (by kernel_rfl) (by kernel_rfl) (fun _ _ _ h => h) rfl (fun w hSw => by (try dsimp only at hSw); obtain ⟨q0, q1, q2⟩ := hSw; go_simp) (by assumption) ?_
        try simp only [Act.put, List.setIfInBounds_toArray, List.set_cons_zero, List.set_cons_succ]
        refine tk8 (.bool false) (by kernel_rfl) (by kernel_rfl) (by kernel_rfl) (fun _ _ _ h => h) rfl (fun w hSw => by (try dsimp only at hSw); obtain ⟨q0, q1, q2⟩ := hSw; go_simp) (by assumption) ?_
        try simp only [Act.put, List.setIfInBounds_toArray, List.set_cons_zero, List.set_cons_succ]
        refine tk9 (.bool false) (by kernel_rfl) (by kernel_rfl) (by kernel_rfl) (fun _ _ _ h => h) rfl (fun w hSw => by (try dsimp only at hSw); obtain ⟨q0, q1, q2⟩ := hSw; go_simp) (by assumption) ?_
        try simp only [Act.put, List.setIfInBounds_toArray, List.set_cons_zero, List.set_cons_succ]
        refine tk10 (.pointer (some ⟨X, 0, none⟩)) (by kernel_rfl) (by kernel_rfl) (by kernel_rfl) (fun _ _ _ h => h) rfl (fun w hSw => by (try dsimp only at hSw); obtain ⟨q0, q1, q2⟩ := hSw; go_simp) (by assumption) ?_
        try simp only [Act.put, List.setIfInBounds_toArray, List.set_cons_zero, List.set_cons_succ]
        refine tk11 (.pointer (some ⟨X, 0, none⟩)) (by kernel_rfl) (by kernel_rfl) (by kernel_rfl) (fun _ _ _ h => h) rfl (fun w hSw => by (try dsimp only at hSw); obtain ⟨q0, q1, q2⟩ := hSw; go_simp) (by assumption) ?_
        try simp only [Act.put, List.setIfInBounds_toArray, List.set_cons_zero, List.set_cons_succ]
        refine tk12 (.pointer (some ⟨X, 1, none⟩)) (by kernel_rfl) (by kernel_rfl) (by kernel_rfl) (fun _ _ _ h => h) rfl (fun w hSw => by (try dsimp only at hSw); obtain ⟨q0, q1, q2⟩ := hSw; go_simp) (by assumption) ?_
        try simp only [Act.put, List.setIfInBounds_toArray, List.set_cons_zero, List.set_cons_succ]
        refine tk13 (.bool true) (by kernel_rfl) (by kernel_rfl) (by kernel_rfl) (fun _ _ _ h => h) rfl (fun w hSw => by (try dsimp only at hSw); obtain ⟨q0, q1, q2⟩ := hSw; go_simp) (by assumption) ?_
        try simp only [Act.put, List.setIfInBounds_toArray, List.set_cons_zero, List.set_cons_succ]
        refine tk14 (.pointer (some ⟨W.heap.size, 2, none⟩)) (by kernel_rfl) (by kernel_rfl) (by kernel_rfl) (fun _ _ _ h => h) rfl (fun w hSw => by (try dsimp only at hSw); obtain ⟨q0, q1, q2⟩ := hSw; go_simp) (by assumption) ?_
        try simp only [Act.put, List.setIfInBounds_toArray, List.set_cons_zero, List.set_cons_succ]
        refine tk15 (.bool true) (by kernel_rfl) (by kernel_rfl) (by kernel_rfl) (fun _ _ _ h => h) rfl (fun w hSw => by (try dsimp only at hSw); obtain ⟨q0, q1, q2⟩ := hSw; go_simp) (by assumption) ?_
        try simp only [Act.put, List.setIfInBounds_toArray, List.set_cons_zero, List.set_cons_succ]
        refine tk16 (.bool true) (by kernel_rfl) (by kernel_rfl) (by kernel_rfl) (fun _ _ _ h => h) rfl (fun w hSw => by (try dsimp only at hSw); obtain ⟨q0, q1, q2⟩ := hSw; go_simp) (by assumption) ?_
        try simp only [Act.put, List.setIfInBounds_toArray, List.set_cons_zero, List.set_cons_succ]
        refine tk17 (.bool true) (by kernel_rfl) (by kernel_rfl) (by kernel_rfl) (fun _ _ _ h => h) rfl (fun w hSw => by (try dsimp only at hSw); obtain ⟨q0, q1, q2⟩ := hSw; go_simp) (by assumption) ?_
        try simp only [Act.put, List.setIfInBounds_toArray, List.set_cons_zero, List.set_cons_succ]
        refine wpAnyH_done (by kernel_rfl) ?_ _
        go_wp2_with (first | (go_at_call 25; rw [HW6.out]; refine (behind_any (base := w6.heap.size) (xs := []) (World.ownsRow_nil _ _ _ _) R6.out (Nat.le_refl _) (by simp)).mono ?_; rintro e w7 ⟨u7, rfl, o7, a7⟩; obtain ⟨p7, n7, c7, rfl⟩ := own_form o7) | (go_at_call 26; refine (refused_any w4 x 13).mono ?_; rintro e w5 ⟨rfl, b5⟩; obtain ⟨w6, hw6⟩ : ∃ w6, w6 = w5.alloc (.cells (rpA ⟨x.s, x.n, 13, 0, 0⟩) rpT) := ⟨_, rfl⟩; have b6 : Below w4.heap.size w4 w6 := (by rw [hw6]; exact b5.trans (((Below.refl _ w5).alloc (Nat.le_refl _) _).mono b5.size)); have I6 : Hid _ := I4.out.fresh b6; have R6 : Hid (RowAt rpC w6 (.slice (some ⟨w5.heap.size, 0, none⟩) 1 1) [⟨x.s, x.n, 13, 0, 0⟩]) := (by rw [hw6]; exact rp_one); have HW6 : Hid (w5.alloc (.cells #[.int .i64 x.s, .int .i64 x.n, .int .i64 13, .int .u64 0, .int .i64 0] rpT) = w6) := hw6.symm; clear hw6 b6 b5) | (show wpList _ _ _ (⟨_, Op.load lcWT _, _, _, _, _⟩ :: _) _ _; refine load_row_g rfl lcWT _ rfl W.heap.size rfl lcWT (lcWA x) (0, 0) _ I4.out.box Try.underlying70 rfl sizeLw ?_))
        go_ret
        rw [HQ.out]
        have I7 := I6.out.fresh a7.below
        exact ⟨_, _, rfl, RowAt.own rpC_len o7, ⟨⟨M, T, own, I7.I, rfl⟩, A1.out.ok, A1.out.fit⟩, Kept.of I7.bel, sep_new o7 fun g hg => (I6.out.I.bd g hg).2⟩
      | false =>
        have HQ : Hid (qq = relS c l i y s n ∧ hasB y.h s = true) := (show qq = _ ∧ _ from by rw [HQQ.out, ← HOX.out.2.1, hb, hwv]; exact ⟨if_neg (by decide), rfl⟩)
        refine wp_region_held_drew (S := (fun w' : World => w'.cell? ⟨W.heap.size, 0, none⟩ = some (.int .i64 x.s) ∧ w'.cell? ⟨W.heap.size, 2, none⟩ = some (.bool true) ∧ w'.cell? ⟨X, 1, none⟩ = some (.bool false))) (by kernel_rfl) ?_ (fun hHeld0 => ?_)
        · exact ⟨I1.out.c0, by have := I1.out.c2; rw [HOX.out.2.2.2] at this; exact this, by have := A1.out.hA.cellW; rw [hwv] at this; exact this⟩
        refine tk0 (.bool true) (by kernel_rfl) (by kernel_rfl) (by kernel_rfl) (fun _ _ _ h => h) rfl (fun w hSw => by (try dsimp only at hSw); obtain ⟨q0, q1, q2⟩ := hSw; go_simp) (by assumption) ?_
        try simp only [Act.put, List.setIfInBounds_toArray, List.set_cons_zero, List.set_cons_succ]
        refine tk1 (.bool false) (by kernel_rfl) (by kernel_rfl) (by kernel_rfl) (fun _ _ _ h => h) rfl (fun w hSw => by (try dsimp only at hSw); obtain ⟨q0, q1, q2⟩ := hSw; go_simp) (by assumption) ?_
        try simp only [Act.put, List.setIfInBounds_toArray, List.set_cons_zero, List.set_cons_succ]
        refine tk2 (.bool false) (by kernel_rfl) (by kernel_rfl) (by kernel_rfl) (fun _ _ _ h => h) rfl (fun w hSw => by (try dsimp only at hSw); obtain ⟨q0, q1, q2⟩ := hSw; go_simp) (by assumption) ?_
        try simp only [Act.put, List.setIfInBounds_toArray, List.set_cons_zero, List.set_cons_succ]
        refine tk3 (.pointer (some ⟨X, 0, none⟩)) (by kernel_rfl) (by kernel_rfl) (by kernel_rfl) (fun _ _ _ h => h) rfl (fun w hSw => by (try dsimp only at hSw); obtain ⟨q0, q1, q2⟩ := hSw; go_simp) (by assumption) ?_
        try simp only [Act.put, List.setIfInBounds_toArray, List.set_cons_zero, List.set_cons_succ]
        refine tk4 (.pointer (some ⟨W.heap.size, 0, none⟩)) (by kernel_rfl) (by kernel_rfl) (by kernel_rfl) (fun _ _ _ h => h) rfl (fun w hSw => by (try dsimp only at hSw); obtain ⟨q0, q1, q2⟩ := hSw; go_simp) (by assumption) ?_
        try simp only [Act.put, List.setIfInBounds_toArray, List.set_cons_zero, List.set_cons_succ]
        refine tk5 (.int .i64 x.s) (by kernel_rfl) (by kernel_rfl) (by kernel_rfl) (fun _ _ _ h => h) rfl (fun w hSw => by (try dsimp only at hSw); obtain ⟨q0, q1, q2⟩ := hSw; go_simp) (by assumption) ?_
        try simp only [Act.put, List.setIfInBounds_toArray, List.set_cons_zero, List.set_cons_succ]
        refine cl6 (by kernel_rfl) rfl (fun K hK => ?_)
        go_simp
        go_at_call 23
        refine (holds_any (A1.out.hA.keep (w' := V1.drew) fun _ _ => rfl) HOX.out.1).mono ?_
        rw [hb]
        rintro e w4 ⟨rfl, b4⟩
        have I4 : Hid _ := I1.out.fresh (undrew b4)
        have A4 : Hid _ := A1.out.fresh (undrew b4)
        clear b4
        refine hK.out _ _ ?_ (fun hHeld => ?_)
        · exact ⟨I4.out.c0, by have := I4.out.c2; rw [HOX.out.2.2.2] at this; exact this, by have := A4.out.hA.cellW; rw [hwv] at this; exact this⟩
        clear hK K
        try simp only [Act.put, List.setIfInBounds_toArray, List.set_cons_zero, List.set_cons_succ]
        refine tk7 (.bool false) (by kernel_rfl) (by kernel_rfl) (by kernel_rfl) (fun _ _ _ h => h) rfl (fun w hSw => by (try dsimp only at hSw); obtain ⟨q0, q1, q2⟩ := hSw; go_simp) (by assumption) ?_
        try simp only [Act.put, List.setIfInBounds_toArray, List.set_cons_zero, List.set_cons_succ]
        refine tk8 (.bool false) (by kernel_rfl) (by kernel_rfl) (by kernel_rfl) (fun _ _ _ h => h) rfl (fun w hSw => by (try dsimp only at hSw); obtain ⟨q0, q1, q2⟩ := hSw; go_simp) (by assumption) ?_
        try simp only [Act.put, List.setIfInBounds_toArray, List.set_cons_zero, List.set_cons_succ]
        refine tk9 (.bool false) (by kernel_rfl) (by kernel_rfl) (by kernel_rfl) (fun _ _ _ h => h) rfl (fun w hSw => by (try dsimp only at hSw); obtain ⟨q0, q1, q2⟩ := hSw; go_simp) (by assumption) ?_
        try simp only [Act.put, List.setIfInBounds_toArray, List.set_cons_zero, List.set_cons_succ]
        refine tk10 (.pointer (some ⟨X, 0, none⟩)) (by kernel_rfl) (by kernel_rfl) (by kernel_rfl) (fun _ _ _ h => h) rfl (fun w hSw => by (try dsimp only at hSw); obtain ⟨q0, q1, q2⟩ := hSw; go_simp) (by assumption) ?_
        try simp only [Act.put, List.setIfInBounds_toArray, List.set_cons_zero, List.set_cons_succ]
        refine tk11 (.pointer (some ⟨X, 0, none⟩)) (by kernel_rfl) (by kernel_rfl) (by kernel_rfl) (fun _ _ _ h => h) rfl (fun w hSw => by (try dsimp only at hSw); obtain ⟨q0, q1, q2⟩ := hSw; go_simp) (by assumption) ?_
        try simp only [Act.put, List.setIfInBounds_toArray, List.set_cons_zero, List.set_cons_succ]
        refine tk12 (.pointer (some ⟨X, 1, none⟩)) (by kernel_rfl) (by kernel_rfl) (by kernel_rfl) (fun _ _ _ h => h) rfl (fun w hSw => by (try dsimp only at hSw); obtain ⟨q0, q1, q2⟩ := hSw; go_simp) (by assumption) ?_
        try simp only [Act.put, List.setIfInBounds_toArray, List.set_cons_zero, List.set_cons_succ]
        refine tk13 (.bool false) (by kernel_rfl) (by kernel_rfl) (by kernel_rfl) (fun _ _ _ h => h) rfl (fun w hSw => by (try dsimp only at hSw); obtain ⟨q0, q1, q2⟩ := hSw; go_simp) (by assumption) ?_
        try simp only [Act.put, List.setIfInBounds_toArray, List.set_cons_zero, List.set_cons_succ]
        refine tk14 (.pointer (some ⟨W.heap.size, 2, none⟩)) (by kernel_rfl) (by kernel_rfl) (by kernel_rfl) (fun _ _ _ h => h) rfl (fun w hSw => by (try dsimp only at hSw); obtain ⟨q0, q1, q2⟩ := hSw; go_simp) (by assumption) ?_
        try simp only [Act.put, List.setIfInBounds_toArray, List.set_cons_zero, List.set_cons_succ]
        refine tk15 (.bool true) (by kernel_rfl) (by kernel_rfl) (by kernel_rfl) (fun _ _ _ h => h) rfl (fun w hSw => by (try dsimp only at hSw); obtain ⟨q0, q1, q2⟩ := hSw; go_simp) (by assumption) ?_
        try simp only [Act.put, List.setIfInBounds_toArray, List.set_cons_zero, List.set_cons_succ]
        refine tk16 (.bool false) (by kernel_rfl) (by kernel_rfl) (by kernel_rfl) (fun _ _ _ h => h) rfl (fun w hSw => by (try dsimp only at hSw); obtain ⟨q0, q1, q2⟩ := hSw; go_simp) (by assumption) ?_
        try simp only [Act.put, List.setIfInBounds_toArray, List.set_cons_zero, List.set_cons_succ]
        refine tk17 (.bool false) (by kernel_rfl) (by kernel_rfl) (by kernel_rfl) (fun _ _ _ h => h) rfl (fun w hSw => by (try dsimp only at hSw); obtain ⟨q0, q1, q2⟩ := hSw; go_simp) (by assumption) ?_
        try simp only [Act.put, List.setIfInBounds_toArray, List.set_cons_zero, List.set_cons_succ]
        refine wpAnyH_done (by kernel_rfl) ?_ _
        go_upto_region 7 with fail
        refine wp_region_held_drew (S := (fun w' : World => w'.cell? ⟨W.heap.size, 0, none⟩ = some (.int .i64 x.s) ∧ w'.cell? ⟨W.heap.size, 1, none⟩ = some (.int .i64 x.n) ∧ w'.cell? ⟨W.heap.size, 2, none⟩ = some (.bool x.rd) ∧ w'.cell? ⟨w.heap.size, 3, none⟩ = some (.string nm))) (by kernel_rfl) ?_ (fun hHeld0 => ?_)
        · exact I4.out.cells4s
        refine tk0 (.agg (lcWA x)) (by kernel_rfl) (by kernel_rfl) (by kernel_rfl) (fun _ _ _ h => h) rfl (fun w hSw => by (try dsimp only at hSw); obtain ⟨q0, q1, q2, q3⟩ := hSw; go_simp) (by assumption) ?_
        try simp only [Act.put, List.setIfInBounds_toArray, List.set_cons_zero, List.set_cons_succ]
        refine tk3 (.pointer (some ⟨D, 0, none⟩)) (by kernel_rfl) (by kernel_rfl) (by kernel_rfl) (fun _ _ _ h => h) rfl (fun w hSw => by (try dsimp only at hSw); obtain ⟨q0, q1, q2, q3⟩ := hSw; go_simp) (by assumption) ?_
        try simp only [Act.put, List.setIfInBounds_toArray, List.set_cons_zero, List.set_cons_succ]
        refine tk4 (.pointer (some ⟨w.heap.size, 3, none⟩)) (by kernel_rfl) (by kernel_rfl) (by kernel_rfl) (fun _ _ _ h => h) rfl (fun w hSw => by (try dsimp only at hSw); obtain ⟨q0, q1, q2, q3⟩ := hSw; go_simp) (by assumption) ?_
        try simp only [Act.put, List.setIfInBounds_toArray, List.set_cons_zero, List.set_cons_succ]
        refine tk5 (.string nm) (by kernel_rfl) (by kernel_rfl) (by kernel_rfl) (fun _ _ _ h => h) rfl (fun w hSw => by (try dsimp only at hSw); obtain ⟨q0, q1, q2, q3⟩ := hSw; go_simp) (by assumption) ?_
        try simp only [Act.put, List.setIfInBounds_toArray, List.set_cons_zero, List.set_cons_succ]
        refine tk6 (.pointer (some ⟨W.heap.size, 0, none⟩)) (by kernel_rfl) (by kernel_rfl) (by kernel_rfl) (fun _ _ _ h => h) rfl (fun w hSw => by (try dsimp only at hSw); obtain ⟨q0, q1, q2, q3⟩ := hSw; go_simp) (by assumption) ?_
        try simp only [Act.put, List.setIfInBounds_toArray, List.set_cons_zero, List.set_cons_succ]
        refine tk7 (.int .i64 x.s) (by kernel_rfl) (by kernel_rfl) (by kernel_rfl) (fun _ _ _ h => h) rfl (fun w hSw => by (try dsimp only at hSw); obtain ⟨q0, q1, q2, q3⟩ := hSw; go_simp) (by assumption) ?_
        try simp only [Act.put, List.setIfInBounds_toArray, List.set_cons_zero, List.set_cons_succ]
        refine cl1 (by kernel_rfl) rfl (fun K hK => ?_)
        go_simp
        go_at_call 37
        refine (reply_any _ x).mono ?_
        rintro e w6 ⟨rfl, b6⟩
        have I6 : Hid _ := I4.out.fresh (undrew b6)
        have A6 : Hid _ := A4.out.fresh (undrew b6)
        clear b6
        refine hK.out _ _ ?_ (fun hHeld => ?_)
        · exact I6.out.cells4s
        clear hK K
        try simp only [Act.put, List.setIfInBounds_toArray, List.set_cons_zero, List.set_cons_succ]
        refine rd2_8 (by kernel_rfl) rfl rfl (fun K hK => ?_) (fun K hK => ?_)
        · go_simp
          obtain ⟨w7, hw7⟩ : ∃ w7, w7 = w6.alloc (.cells (rpA (repX x)) rpT) := ⟨_, rfl⟩
          have HW7 : Hid (w6.alloc (.cells #[.int .i64 x.s, .int .i64 x.n, .int .i64 0, .int .u64 0, .int .i64 0] rpT) = w7) := hw7.symm
          rw [HW7.out]
          have b7 : Below w6.heap.size w6 w7 := by rw [hw7]; exact (Below.refl _ w6).alloc (Nat.le_refl _) _
          have N7 : Hid (w7.heap[w6.heap.size]? = some (.cells (rpA (repX x)) rpT (0, 0))) := (show w7.heap[w6.heap.size]? = _ from by rw [hw7]; exact heap_alloc_new w6 _)
          have I7 : Hid _ := I6.out.fresh b7
          have A7 : Hid _ := A6.out.fresh b7
          clear hw7 b7
          refine hK.out _ _ ?_ (fun hHeld => ?_)
          · exact I7.out.cells4s
          clear hK K
          try simp only [Act.put, List.setIfInBounds_toArray, List.set_cons_zero, List.set_cons_succ]
          refine cl8 (by kernel_rfl) rfl (fun K hK => ?_)
          go_simp
          go_at_call 38
          refine (pdrop_any A7.out.I A7.out.lkK (show nm.size ≤ maxLen from by unfold maxLen; have := HO.out.2; omega) HOX.out.1 A7.out.inv.pre.ap A7.out.sumN (by have := A7.out.hN; omega)).mono ?_
          rintro e w8 ⟨u8, T8, own8, rfl, o8, L8, k8, s8⟩
          obtain ⟨p8, n8, c8, rfl⟩ := own_form o8
          have Q8 : Hid (RlQ w w8 base D M own (updK (lookK l) nm (liveO (pdK y c x.s).2.1)) (pdK y c x.s).1 w6.heap.size (repX x) (.slice p8 n8 c8) (pdK y c x.s).2.2) := RlQ.first (Kept.of I7.out.bel) (fun b hb => (HB.out b hb)) N7.out I6.out.bel.size o8 L8 k8
          have HS8 : Hid ((fun w' : World => w'.cell? ⟨W.heap.size, 0, none⟩ = some (.int .i64 x.s) ∧ w'.cell? ⟨W.heap.size, 1, none⟩ = some (.int .i64 x.n) ∧ w'.cell? ⟨W.heap.size, 2, none⟩ = some (.bool x.rd) ∧ w'.cell? ⟨w.heap.size, 3, none⟩ = some (.string nm)) w8) := (show (fun w' : World => w'.cell? ⟨W.heap.size, 0, none⟩ = some (.int .i64 x.s) ∧ w'.cell? ⟨W.heap.size, 1, none⟩ = some (.int .i64 x.n) ∧ w'.cell? ⟨W.heap.size, 2, none⟩ = some (.bool x.rd) ∧ w'.cell? ⟨w.heap.size, 3, none⟩ = some (.string nm)) w8 from I7.out.cells4 HB.out k8 (HGE.out))
          clear o8 L8 k8 s8
          refine hK.out _ _ ?_ (fun hHeld => ?_)
          · exact HS8.out
          clear hK K
          try simp only [Act.put, List.setIfInBounds_toArray, List.set_cons_zero, List.set_cons_succ]
          refine cl9 (by kernel_rfl) rfl (fun K hK => ?_)
          go_simp
          go_at_call 25
          refine (behind_any Q8.out.own1 Q8.out.row (Nat.le_trans Q8.out.lo (Nat.le_of_lt (lt_of_block Q8.out.one))) (by have := pdK_few (c := c) (s := x.s) A6.out.sumN; have := A6.out.hN; simp only [List.length_singleton]; omega)).mono ?_
          rintro e w10 ⟨u10, rfl, o10, a10⟩
          obtain ⟨p10, n10, c10, rfl⟩ := own_form o10
          have F10 : Hid _ := Q8.out.fin a10
          have O10 : Hid _ := o10
          have HS10 : Hid ((fun w' : World => w'.cell? ⟨W.heap.size, 0, none⟩ = some (.int .i64 x.s) ∧ w'.cell? ⟨W.heap.size, 1, none⟩ = some (.int .i64 x.n) ∧ w'.cell? ⟨W.heap.size, 2, none⟩ = some (.bool x.rd) ∧ w'.cell? ⟨w.heap.size, 3, none⟩ = some (.string nm)) w10) := (show (fun w' : World => w'.cell? ⟨W.heap.size, 0, none⟩ = some (.int .i64 x.s) ∧ w'.cell? ⟨W.heap.size, 1, none⟩ = some (.int .i64 x.n) ∧ w'.cell? ⟨W.heap.size, 2, none⟩ = some (.bool x.rd) ∧ w'.cell? ⟨w.heap.size, 3, none⟩ = some (.string nm)) w10 from cells4_app HS8.out a10 (Nat.lt_trans (lt_of_block I6.out.cmd) (lt_of_block Q8.out.one)) (Nat.lt_trans (lt_of_block I6.out.box) (lt_of_block Q8.out.one)) (by have := lt_of_block I6.out.cmd; omega) (by have := lt_of_block I6.out.box; omega))
          clear o10 a10
          refine hK.out _ _ ?_ (fun hHeld => ?_)
          · exact HS10.out
          clear hK K
          try simp only [Act.put, List.setIfInBounds_toArray, List.set_cons_zero, List.set_cons_succ]
          refine tk10 (.slice p10 n10 c10) (by kernel_rfl) (by kernel_rfl) (by kernel_rfl) (fun _ _ _ h => h) rfl (fun w hSw => by (try dsimp only at hSw); obtain ⟨q0, q1, q2, q3⟩ := hSw; go_simp) (by assumption) ?_
          try simp only [Act.put, List.setIfInBounds_toArray, List.set_cons_zero, List.set_cons_succ]
          refine wpAnyH_done (by kernel_rfl) ?_ _
          go_wp2
          go_ret
          have hy := A6.out.inv
          obtain ⟨T9, own9, L9, k9, s9⟩ := F10.out
          have F2 := A6.out.ok.rel A6.out.hi c x.s
          have hfit := A6.out.fit.rel 8 s n nm
          rw [A6.out.relL (by decide), ← HQQ.out, HQ.out.1, relS_eq hy HQ.out.2] at hfit
          rw [HQ.out.1, relS_eq hy HQ.out.2]
          rw [← HOX.out.2.1, ← HOX.out.2.2.1] at hfit ⊢
          refine ⟨_, _, rfl, RowAt.own rpC_len O10.out, ⟨⟨M, T9, own9, ?_, rfl⟩, F2.1, hfit⟩, k9, sep_own O10.out s9⟩
          show LcL w10 base D M (pdK y c x.s).1 (lookK (tidyL (l.set i (pdK y c x.s).2.1))) _ _
          rw [F2.2, A6.out.hn]
          exact L9
        · go_simp
          go_at_call 38
          refine (pdrop_any A6.out.I A6.out.lkK (show nm.size ≤ maxLen from by unfold maxLen; have := HO.out.2; omega) HOX.out.1 A6.out.inv.pre.ap A6.out.sumN (by have := A6.out.hN; omega)).mono ?_
          rintro e w8 ⟨u8, T8, own8, rfl, o8, L8, k8, s8⟩
          obtain ⟨p8, n8, c8, rfl⟩ := own_form o8
          have O8 : Hid _ := o8
          have L8 : Hid _ := L8
          have K8 : Hid _ := k8
          have HS8 : Hid ((fun w' : World => w'.cell? ⟨W.heap.size, 0, none⟩ = some (.int .i64 x.s) ∧ w'.cell? ⟨W.heap.size, 1, none⟩ = some (.int .i64 x.n) ∧ w'.cell? ⟨W.heap.size, 2, none⟩ = some (.bool x.rd) ∧ w'.cell? ⟨w.heap.size, 3, none⟩ = some (.string nm)) w8) := (show (fun w' : World => w'.cell? ⟨W.heap.size, 0, none⟩ = some (.int .i64 x.s) ∧ w'.cell? ⟨W.heap.size, 1, none⟩ = some (.int .i64 x.n) ∧ w'.cell? ⟨W.heap.size, 2, none⟩ = some (.bool x.rd) ∧ w'.cell? ⟨w.heap.size, 3, none⟩ = some (.string nm)) w8 from I6.out.cells4 HB.out k8 (HGE.out))
          clear o8 k8 s8
          refine hK.out _ _ ?_ (fun hHeld => ?_)
          · exact HS8.out
          clear hK K
          try simp only [Act.put, List.setIfInBounds_toArray, List.set_cons_zero, List.set_cons_succ]
          refine cl2 (by kernel_rfl) rfl (fun K hK => ?_)
          go_simp
          have Q8 : Hid (RlQ w (w8.alloc (.cells (rpA (repX x)) rpT)) base D M own (updK (lookK l) nm (liveO (pdK y c x.s).2.1)) (pdK y c x.s).1 w8.heap.size (repX x) (.slice p8 n8 c8) (pdK y c x.s).2.2) := RlQ.last (Kept.of I6.out.bel) O8.out L8.out K8.out
          obtain ⟨w9, hw9⟩ : ∃ w9, w9 = w8.alloc (.cells (rpA (repX x)) rpT) := ⟨_, rfl⟩
          have HW9 : Hid (w8.alloc (.cells #[.int .i64 x.s, .int .i64 x.n, .int .i64 0, .int .u64 0, .int .i64 0] rpT) = w9) := hw9.symm
          rw [HW9.out]
          have HS9 : Hid ((fun w' : World => w'.cell? ⟨W.heap.size, 0, none⟩ = some (.int .i64 x.s) ∧ w'.cell? ⟨W.heap.size, 1, none⟩ = some (.int .i64 x.n) ∧ w'.cell? ⟨W.heap.size, 2, none⟩ = some (.bool x.rd) ∧ w'.cell? ⟨w.heap.size, 3, none⟩ = some (.string nm)) w9) := (show (fun w' : World => w'.cell? ⟨W.heap.size, 0, none⟩ = some (.int .i64 x.s) ∧ w'.cell? ⟨W.heap.size, 1, none⟩ = some (.int .i64 x.n) ∧ w'.cell? ⟨W.heap.size, 2, none⟩ = some (.bool x.rd) ∧ w'.cell? ⟨w.heap.size, 3, none⟩ = some (.string nm)) w9 from by rw [hw9]; exact cells4_alloc HS8.out)
          rw [← hw9] at Q8
          clear hw9
          refine hK.out _ _ ?_ (fun hHeld => ?_)
          · exact HS9.out
          clear hK K
          try simp only [Act.put, List.setIfInBounds_toArray, List.set_cons_zero, List.set_cons_succ]
          refine cl9 (by kernel_rfl) rfl (fun K hK => ?_)
          go_simp
          go_at_call 25
          refine (behind_any Q8.out.own1 Q8.out.row (Nat.le_trans Q8.out.lo (Nat.le_of_lt (lt_of_block Q8.out.one))) (by have := pdK_few (c := c) (s := x.s) A6.out.sumN; have := A6.out.hN; simp only [List.length_singleton]; omega)).mono ?_
          rintro e w10 ⟨u10, rfl, o10, a10⟩
          obtain ⟨p10, n10, c10, rfl⟩ := own_form o10
          have F10 : Hid _ := Q8.out.fin a10
          have O10 : Hid _ := o10
          have HS10 : Hid ((fun w' : World => w'.cell? ⟨W.heap.size, 0, none⟩ = some (.int .i64 x.s) ∧ w'.cell? ⟨W.heap.size, 1, none⟩ = some (.int .i64 x.n) ∧ w'.cell? ⟨W.heap.size, 2, none⟩ = some (.bool x.rd) ∧ w'.cell? ⟨w.heap.size, 3, none⟩ = some (.string nm)) w10) := (show (fun w' : World => w'.cell? ⟨W.heap.size, 0, none⟩ = some (.int .i64 x.s) ∧ w'.cell? ⟨W.heap.size, 1, none⟩ = some (.int .i64 x.n) ∧ w'.cell? ⟨W.heap.size, 2, none⟩ = some (.bool x.rd) ∧ w'.cell? ⟨w.heap.size, 3, none⟩ = some (.string nm)) w10 from cells4_app HS9.out a10 (Nat.lt_of_lt_of_le (lt_of_block I6.out.cmd) (Nat.le_trans K8.out.size (by rw [← HW9.out]; simp))) (Nat.lt_of_lt_of_le (lt_of_block I6.out.box) (Nat.le_trans K8.out.size (by rw [← HW9.out]; simp))) (by have := lt_of_block I6.out.cmd; have := K8.out.size; omega) (by have := lt_of_block I6.out.box; have := K8.out.size; omega))
          clear o10 a10
          refine hK.out _ _ ?_ (fun hHeld => ?_)
          · exact HS10.out
          clear hK K
          try simp only [Act.put, List.setIfInBounds_toArray, List.set_cons_zero, List.set_cons_succ]
          refine tk10 (.slice p10 n10 c10) (by kernel_rfl) (by kernel_rfl) (by kernel_rfl) (fun _ _ _ h => h) rfl (fun w hSw => by (try dsimp only at hSw); obtain ⟨q0, q1, q2, q3⟩ := hSw; go_simp) (by assumption) ?_
          try simp only [Act.put, List.setIfInBounds_toArray, List.set_cons_zero, List.set_cons_succ]
          refine wpAnyH_done (by kernel_rfl) ?_ _
          go_wp2
          go_ret
          have hy := A6.out.inv
          obtain ⟨T9, own9, L9, k9, s9⟩ := F10.out
          have F2 := A6.out.ok.rel A6.out.hi c x.s
          have hfit := A6.out.fit.rel 8 s n nm
          rw [A6.out.relL (by decide), ← HQQ.out, HQ.out.1, relS_eq hy HQ.out.2] at hfit
          rw [HQ.out.1, relS_eq hy HQ.out.2]
          rw [← HOX.out.2.1, ← HOX.out.2.2.1] at hfit ⊢
          refine ⟨_, _, rfl, RowAt.own rpC_len O10.out, ⟨⟨M, T9, own9, ?_, rfl⟩, F2.1, hfit⟩, k9, sep_own O10.out s9⟩
          show LcL w10 base D M (pdK y c x.s).1 (lookK (tidyL (l.set i (pdK y c x.s).2.1))) _ _
          rw [F2.2, A6.out.hn]
          exact L9
set_option maxRecDepth 100000 in
set_option maxHeartbeats 4000000 in
theorem prel_other (w : World) (D : Nat) {k s n m : Int} {nm : ByteArray} (h5 : k ≠ 6) (h7 : k ≠ 8) :
    Calls Try.prog 12 #[.pointer (some ⟨D, 0, none⟩), .agg (cmA k s n nm m)] w fun e w' => e = .returned (.slice none 0 0) ∧ Below w.heap.size w w' := by
  obtain ⟨W, hW⟩ : ∃ W, W = w.alloc (.cells (cmA k s n nm m) cmT) := ⟨_, rfl⟩
  have bW : Below w.heap.size w W := by rw [hW]; exact (Below.refl _ w).alloc (Nat.le_refl _) _
  have nW : W.heap[w.heap.size]? = some (.cells (cmA k s n nm m) cmT (0, 0)) := by rw [hW]; exact heap_alloc_new w _
  have y0 : W.cell? ⟨w.heap.size, 0, none⟩ = some (.int .i64 k) := by simp [World.cell?, nW]
  have HW : Hid (w.alloc (.cells #[.int .i64 k, .int .i64 s, .int .i64 n, .string nm, .int .i64 m] cmT) = W) := hW.symm
  have HB : Hid _ := bW
  have t5 : (k == 6) = false := by simpa using h5
  have t7 : (k == 8) = false := by simpa using h7
  have t5' : (k != 6) = true := by simpa using h5
  have t7' : (k != 8) = true := by simpa using h7
  clear hW bW nW h5 h7
  go_enter Try.func12, Try.ntmps12
  go_upto_region 1 with fail
  rw [HW.out]
  go_wp2
  go_ret
  exact ⟨rfl, HB.out⟩
theorem LcW.rel {w : World} {base D N : Nat} {S : Nat → Prop} {c : Int} {l : List Lk} (h : LcW w base D S N c l) (hN : N < 32767) (k s n : Int) (nm : ByteArray) (m : Int) (hs : okI s) (hm : nm.size ≤ 1000) :
    Calls Try.prog 12 #[.pointer (some ⟨D, 0, none⟩), .agg (cmA k s n nm m)] w (RepP w base D S N (relL c l k s n nm)) := by
  have hw := h
  obtain ⟨M, T, own, I, rfl⟩ := h.ex
  by_cases hk : k ≠ 6 ∧ k ≠ 8
  · refine (prel_other w D hk.1 hk.2).mono ?_
    rintro e w' ⟨rfl, b⟩
    have e2 : relL c l k s n nm = (c, l, []) := by unfold relL; rw [if_pos hk]
    rw [e2]
    exact ⟨_, _, rfl, RowAt.nil _, hw.fresh b, Kept.of b, sep_nil _⟩
  · have hk2 : k = 6 ∨ k = 8 := by omega
    cases hl : lookK l nm with
    | none =>
      rw [relL_none hl hk]
      exact prel_none I h.ok h.fit hl hk2 hm
    | some y =>
      obtain ⟨X, hX, hA⟩ := I.at' nm y hl
      have hl2 := hl
      rw [← lkIx_look] at hl2
      cases hj : lkIx l nm with
      | none => rw [hj] at hl2; cases hl2
      | some i =>
        rw [hj] at hl2
        have hi : l[i]? = some y := hl2
        have A : AkT w base D M N c l T own nm i y X := ⟨I, h.ok, h.fit, hi, (lookK_name hl).1, hX, hA, hN⟩
        exact prel_there A hk2 hs hm (A.relL hk)
end Go.Proofs.Ytmfadmhbkgemmaa
