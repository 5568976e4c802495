/-
  Package proposer: it becomes ready: all slots that promises told of are open, those between, and one behind them. The condition: the slots are far from the ends of an int.
-/
import Derived.Test.YtmlgoecdefeapaaPPxEnd
import Derived.Lib.MinMax
namespace Go.Proofs.Ytmlgoecdefeapaa
open Go.RowKit

/-- The greatest slot of the best, at least z. -/
def maxK (z : Int) (l : List (Int × En)) : Int := l.foldl (fun m x => max m x.1) z
theorem maxK_max : ∀ (l : List (Int × En)) (z e : Int), maxK (max z e) l = max (maxK z l) e
  | [], _, _ => rfl
  | x :: l, z, e => by
    show maxK (max (max z e) x.1) l = max (maxK (max z x.1) l) e
    rw [show max (max z e) x.1 = max (max z x.1) e by omega, maxK_max l]
theorem maxK_mid (A B : List (Int × En)) (x : Int × En) (z : Int) : maxK z (A ++ x :: B) = maxK (max z x.1) (A ++ B) := by
  unfold maxK
  rw [List.foldl_append, List.foldl_append, List.foldl_cons]
  show maxK (max (maxK z A) x.1) B = maxK (maxK (max z x.1) A) B
  rw [maxK_max A]
theorem maxK_ge : ∀ (l : List (Int × En)) (z : Int), z ≤ maxK z l
  | [], _ => Int.le_refl _
  | x :: l, z => by
    have := maxK_ge l (max z x.1)
    show z ≤ maxK (max z x.1) l
    omega
theorem maxK_le {k : Int} : ∀ {l : List (Int × En)} {z : Int}, z ≤ k → (∀ x ∈ l, x.1 ≤ k) → maxK z l ≤ k
  | [], _, h, _ => h
  | x :: l, z, h, hl => maxK_le (l := l) (z := max z x.1) (by have := hl x List.mem_cons_self; omega) (fun y hy => hl y (List.mem_cons_of_mem _ hy))
section
variable {w : World} {base X : Nat} {S : Nat → Prop} {n b f : Int} {is : Bool} {p : Px} {mp : Option Nat} {mb ma : Nat} {v : Value}
/-- Who promised is told no more. -/
theorem PxAt.noP (h : PxAt w base X S n b f is p mp mb ma v) : PxAt (w.setCell ⟨X, 3, none⟩ (.map none)) base X (fun g => g = X ∨ v.ownBlock = some g ∨ g ∈ mapsP p none mb ma) n b f is p none mb ma v ∧ Kept w (w.setCell ⟨X, 3, none⟩ (.map none)) S (fun g => g = X ∨ v.ownBlock = some g ∨ g ∈ mapsP p none mb ma) := by
  have hs : ∀ g, g ≠ X → (w.setCell ⟨X, 3, none⟩ (.map none)).heap[g]? = w.heap[g]? := fun g hg => heap_setCell_other _ _ _ _ hg
  have hsub : ∀ g, g ∈ mapsP p none mb ma → g ∈ mapsP p mp mb ma := fun g hg => by
    simp only [mapsP, List.mem_cons, List.mem_append, Option.toList_none, List.not_mem_nil, false_or] at hg ⊢
    rcases hg with h | h | h
    · exact Or.inl h
    · exact Or.inr (Or.inl h)
    · exact Or.inr (Or.inr (Or.inr h))
  have hsubS : ∀ g, (g = X ∨ v.ownBlock = some g ∨ g ∈ mapsP p none mb ma) → S g := fun g hg => (h.set g).2 (hg.imp id (fun h => h.imp id (hsub g)))
  refine ⟨⟨?_, fun M e => (by cases e), h.best.keep (hs mb (h.neX (by simp [mapsP]))), h.acc.keep (hs ma (h.neX (by simp [mapsP]))), fun x hx => (h.sets x hx).keep (hs _ (h.neX (by
    simp only [mapsP, List.mem_cons, List.mem_append, List.mem_map]
    exact Or.inr (Or.inr (Or.inr ⟨x, hx, rfl⟩))))), own_keep h.rows fun g e => hs g (fun e2 => h.neVX (by rw [e, e2])), ?_, fun g hg => h.lo g (hsubS g hg), fun _ => Iff.rfl⟩, rfl, rfl, rfl, by simp, fun g hg => Or.inl (hsubS g hg), fun g _ hn => hs g (fun e => hn (by rw [e]; exact h.inX))⟩
  · rw [heap_setCell_same w X 3 _ _ _ h.blk]
    rfl
  · refine List.Nodup.sublist ?_ h.nd
    simp only [mapsP, Option.toList_none, List.nil_append]
    exact ((List.sublist_append_right _ _).cons_cons _).cons_cons _
open Classical in
/-- How many are still to come, read off the world. -/
noncomputable def leftN (M r : Nat) (w : World) : Nat := if h : ∃ x : List (Int × En) × List (Int × En), mBest.Ranging w M r x.1 x.2 then (Classical.choose h).2.length else 0
theorem leftN_eq {M r : Nat} {w : World} {l left : List (Int × En)} (h : mBest.Ranging w M r l left) : leftN M r w = left.length := by
  have hex : ∃ x : List (Int × En) × List (Int × En), mBest.Ranging w M r x.1 x.2 := ⟨(l, left), h⟩
  unfold leftN
  rw [dif_pos hex]
  obtain ⟨es, clock, since, seen, c0, a1, _, a3, _, _, _, a7⟩ := (Classical.choose_spec hex).ex
  obtain ⟨es', clock', since', seen', c0', b1, _, b3, _, _, _, b7⟩ := h.ex
  rw [a1] at b1
  rw [a3] at b3
  simp only [Option.some.injEq, Obj.map.injEq, Obj.mapIter.injEq] at b1 b3
  obtain ⟨rfl, _⟩ := b1
  obtain ⟨_, _, rfl, _⟩ := b3
  have e1 := congrArg List.length a7
  have e2 := congrArg List.length b7
  rw [List.length_map, List.length_map] at e1 e2
  omega
/-- What is left when it is ready. -/
def readyX (b f : Int) (p : Px) : Px := ⟨p.who, putM p.best (endL ⟨p.who, p.best, p.vf, p.vl, maxK f p.best, p.rows, p.acc⟩) (termX b (endL ⟨p.who, p.best, p.vf, p.vl, maxK f p.best, p.rows, p.acc⟩)), f, endL ⟨p.who, p.best, p.vf, p.vl, maxK f p.best, p.rows, p.acc⟩, endL ⟨p.who, p.best, p.vf, p.vl, maxK f p.best, p.rows, p.acc⟩, [(f, endL ⟨p.who, p.best, p.vf, p.vl, maxK f p.best, p.rows, p.acc⟩)], p.acc⟩
structure StartPost (w : World) (base X : Nat) (S : Nat → Prop) (n b f : Int) (is : Bool) (p : Px) (mp : Option Nat) (mb ma : Nat) (e : Ending) (w' : World) : Prop where
  ex : ∃ S' v', e = .returned (.tuple #[]) ∧ PxAt w' base X S' n b f is p mp mb ma v' ∧ Kept w w' S S'
set_option maxHeartbeats 6400000 in
set_option maxRecDepth 100000 in
theorem xstart_any (h : PxAt w base X S n b f is p mp mb ma v) (hb : base ≤ w.heap.size) (h1 : -1099511627776 ≤ f) (h2 : f ≤ 1099511627776) (h3 : ∀ x ∈ p.best, x.1 ≤ 2199023255552) :
    Calls Try.prog 29 #[.pointer (some ⟨X, 0, none⟩)] w (StartPost w base X S n b f true (readyX b f p) none mb ma) := by
  have x5 := h.cell 5 (.bool is) rfl
  have x3 := h.cell 3 (.map mp) rfl
  have f5 := h.fz 5
  have f3 := h.fz 3
  have q1 := h.setN 5 (.bool true) true p.vf p.vl p.last rfl
  have k1 := h.keptX 5 (.bool true)
  have q2 := q1.noP
  have q3 := q2.1.setN 8 (.int .i64 f) true p.vf p.vl f rfl
  have k3 := q2.1.keptX 8 (.int .i64 f)
  have x3' := q1.cell 3 (.map mp) rfl
  have f3' := q1.fz 3
  have x2 := q2.1.cell 2 (.int .i64 f) rfl
  have x8 := q2.1.cell 8 (.int .i64 p.last) rfl
  have f8 := q2.1.fz 8
  obtain ⟨S1, hS1⟩ : ∃ S1 : Nat → Prop, S1 = fun g => g = X ∨ v.ownBlock = some g ∨ g ∈ mapsP (⟨p.who, p.best, p.vf, p.vl, p.last, p.rows, p.acc⟩ : Px) none mb ma := ⟨_, rfl⟩
  rw [← hS1] at q2 q3 k3
  obtain ⟨W, hW⟩ : ∃ W, W = ((w.setCell ⟨X, 5, none⟩ (.bool true)).setCell ⟨X, 3, none⟩ (.map none)).setCell ⟨X, 8, none⟩ (.int .i64 f) := ⟨_, rfl⟩
  have K3 : Kept w W S S1 := by rw [hW]; exact (k1.trans q2.2).trans k3
  rw [← hW] at q3
  have x4 := q3.cell 4 (.map (some mb)) rfl
  obtain ⟨W1, hr1, hr2, hr3, hr4⟩ := MapOf.range mBest_is q3.best
  have HW : Hid (((w.setCell ⟨X, 5, none⟩ (.bool true)).setCell ⟨X, 3, none⟩ (.map none)).setCell ⟨X, 8, none⟩ (.int .i64 f) = W) := hW.symm
  have p4 : PxAt W1 base X S1 n b f true ⟨p.who, p.best, p.vf, p.vl, f, p.rows, p.acc⟩ none mb ma v := q3.keep fun g hg => hr3.block g (q3.bd g hg) (by simp)
  have k4 : Kept w W1 S S1 := K3.trans ⟨hr3.os, hr3.tape, hr3.output, hr3.size, fun _ h => Or.inl h, fun g hg _ => hr3.block g hg (by simp)⟩
  have P4 : Hid _ := p4
  have K4 : Hid _ := k4
  have R4 : Hid _ := hr2
  have HN : Hid (∀ g, S1 g → g < W.heap.size) := q3.bd
  have HZ : Hid (w.heap.size ≤ W.heap.size) := K3.size
  clear p4 k4 hr2 hW K3 q3 k3 q2 q1 k1 h hS1 hr3 hr4
  go_enter Try.func29, Try.ntmps29
  go_upto_region 2 with fail
  rw [HW.out]
  clear x5 x3 f5 f3 x3' f3' x2 x8 f8 HW
  go_wp2
  go_loopw [2] (fun _ wr => ∃ (m : Int) (left : List (Int × En)), f ≤ m ∧ m ≤ 2199023255552 ∧ Hid (maxK m left = maxK f p.best) ∧ Hid (∀ x ∈ left, x.1 ≤ 2199023255552) ∧ Hid (PxAt wr base X S1 n b f true ⟨p.who, p.best, p.vf, p.vl, m, p.rows, p.acc⟩ none mb ma v) ∧ Hid (Kept w wr S S1) ∧ mBest.Ranging wr mb W.heap.size p.best left) (fun _ wr => leftN mb W.heap.size wr)
  case atStart => exact ⟨f, p.best, Int.le_refl _, by omega, rfl, h3, P4, K4, R4.out⟩
  case round =>
    obtain ⟨m, left, hm1, hm2, HM, HL, HP, HK, hR⟩ := hrel
    rcases MapOf.next hR 0 with ⟨rfl, hnx⟩ | ⟨s, c, A, B, w1, rfl, hnx, hR1, hg1, hz1, hen⟩
    · have hmk : m = maxK f p.best := HM.out
      have x8 := HP.out.cell 8 (.int .i64 m) rfl
      have t1 : (m == 9223372036854775807) = false := by simp; omega
      have t2 : ¬ m = 9223372036854775807 := by omega
      clear hR x4 hr1 P4 K4 R4
      go_upto_region 9 with (go_at_call 41; refine (xend_any HP.out (by show _ ≤ m; omega) (by show m ≤ _; omega)).mono ?_; rintro r w7 ⟨rfl, h7, k7⟩)
      obtain ⟨L, hL⟩ : ∃ L, L = endL ⟨p.who, p.best, p.vf, p.vl, m, p.rows, p.acc⟩ := ⟨_, rfl⟩
      rw [← hL] at h7
      rw [hmk] at hL
      have HLL : Hid _ := hL
      have x2 := h7.cell 2 (.int .i64 f) rfl
      have y8 := h7.cell 8 (.int .i64 L) rfl
      have y6 := h7.cell 6 (.int .i64 p.vf) rfl
      have y7 := h7.cell 7 (.int .i64 p.vl) rfl
      have f6 := h7.fz 6
      have f7 := h7.fz 7
      have p9 := ((h7.setN 6 (.int .i64 f) true f p.vl L rfl).setN 7 (.int .i64 L) true f L L rfl).drew
      have k9 := (k7.trans (h7.keptX 6 (.int .i64 f))).trans ((h7.setN 6 (.int .i64 f) true f p.vl L rfl).keptX 7 (.int .i64 L))
      have g2 := p9.cell 2 (.int .i64 f) rfl
      have g8 := p9.cell 8 (.int .i64 L) rfl
      have K9 : Hid (Kept w ((w7.setCell ⟨X, 6, none⟩ (.int .i64 f)).setCell ⟨X, 7, none⟩ (.int .i64 L)).drew S S1) := HK.out.trans ⟨k9.os, k9.tape, k9.output, k9.size, k9.old, k9.kept⟩
      have P9 : Hid _ := p9
      clear h7 k7 hL hmk x8 t1 t2 p9 k9 hnx
      go_wp2
      go_region_held3 (fun y => y.cell? ⟨X, 2, none⟩ = some (.int .i64 f) ∧ y.cell? ⟨X, 8, none⟩ = some (.int .i64 L)) (go_keep) (fail)
      all_goals (clear x2 y8 y6 y7 f6 f7 g2 g8)
      all_goals (revert K9 P9; generalize ((w7.setCell ⟨X, 6, none⟩ (.int .i64 f)).setCell ⟨X, 7, none⟩ (.int .i64 L)).drew = W9; intro K9 P9)
      have u6 := P9.out.cell 6 (.int .i64 f) rfl
      have u7 := P9.out.cell 7 (.int .i64 L) rfl
      have hX9 : X < W9.heap.size := lt_of_block P9.out.blk
      obtain ⟨V, hV⟩ : ∃ V, V = W9.alloc (.cells #[.int .i64 f, .int .i64 L] 59) := ⟨_, rfl⟩
      have bV : Below W9.heap.size W9 V := by rw [hV]; exact (Below.refl _ W9).alloc (Nat.le_refl _) _
      have rV : V.heap[W9.heap.size]? = some (.cells #[.int .i64 f, .int .i64 L] 59 (0, 0)) := by rw [hV]; exact heap_alloc_new W9 _
      have pV := P9.out.fresh bV
      have u9 := pV.cell 9 v rfl
      have f9 := pV.fz 9
      have HV : Hid (W9.alloc (.cells #[.int .i64 f, .int .i64 L] 59) = V) := hV.symm
      have HBV : Hid _ := bV
      have HRV : Hid _ := rV
      have HPV : Hid _ := pV
      obtain ⟨va, vc, hvf⟩ := P9.out.form
      rw [hvf] at u9
      clear hV bV rV pV hvf
      have u9' : (W9.alloc (.cells #[.int .i64 f, .int .i64 L] 59)).cell? ⟨X, 9, none⟩ = some (.slice va p.rows.length vc) := by rw [HV.out]; exact u9
      have f9' : (W9.alloc (.cells #[.int .i64 f, .int .i64 L] 59)).frozen? ⟨X, 9, none⟩ = false := by rw [HV.out]; exact f9
      go_wp2
      rw [← World.setCell_alloc_past (w := W9) (.cells #[.int .i64 f, .int .i64 L] 59) X 9 (.slice (some ⟨W9.heap.size, 0, none⟩) 1 1) hX9, HV.out]
      go_returns
      have hVX : X < V.heap.size := lt_of_block HPV.out.blk
      have hX' : (V.setCell ⟨X, 9, none⟩ (.slice (some ⟨W9.heap.size, 0, none⟩) 1 1)).heap[X]? = some (.cells (pxA n b f true ⟨p.who, putM p.best L (termX b L), f, L, L, [(f, L)], p.acc⟩ none mb ma (.slice (some ⟨W9.heap.size, 0, none⟩) 1 1)) 63 (0, 0)) := by
        rw [heap_setCell_same V X 9 _ _ _ HPV.out.blk]
        rfl
      have hs : ∀ g, g ≠ X → (V.setCell ⟨X, 9, none⟩ (.slice (some ⟨W9.heap.size, 0, none⟩) 1 1)).heap[g]? = V.heap[g]? := fun g hg => heap_setCell_other _ _ _ _ hg
      have ho' : OwnRo (V.setCell ⟨X, 9, none⟩ (.slice (some ⟨W9.heap.size, 0, none⟩) 1 1)) base (.slice (some ⟨W9.heap.size, 0, none⟩) 1 1) [(f, L)] := by
        refine own_shut (n := 1) (c := 1) (cur := rowL roC [(f, L)]) ((hs _ (by omega)).trans HRV.out) ?_ (Nat.le_refl _) (by unfold maxLen; decide) rfl rfl rfl
        have := K9.out.size
        omega
      have hfin := HPV.out.setV hX' ho' (fun g hg => hs g (HPV.out.neX hg))
      refine ⟨_, _, rfl, by rw [readyX, ← HLL.out]; exact hfin, ?_⟩
      have kV := K9.out.trans (Kept.of (S := S1) HBV.out)
      refine ⟨kV.os, kV.tape, kV.output, by simpa using kV.size, fun g hg => ?_, fun g hg hn => ?_⟩
      · rcases hg with rfl | e | e
        · exact kV.old _ HPV.out.inX
        · have e2 : W9.heap.size = g := by simpa [Value.ownBlock] using e
          have := K9.out.size
          exact Or.inr (by omega)
        · exact kV.old g ((HPV.out.set g).2 (Or.inr (Or.inr e)))
      · rw [hs g (fun e => hn ?_)]
        · exact kV.kept g hg hn
        · rcases kV.old X HPV.out.inX with h | h
          · rw [e]; exact h
          · omega
    · obtain ⟨x8, f8⟩ : w1.cell? ⟨X, 8, none⟩ = some (.int .i64 m) ∧ w1.frozen? ⟨X, 8, none⟩ = false := by
        have h1 := HP.out.keep (w' := w1) (fun g hg => hg1.block g (HP.out.bd g hg) (fun e => by have := HN.out g hg; have := Option.some.inj e; omega))
        exact ⟨h1.cell 8 (.int .i64 m) rfl, h1.fz 8⟩
      go_wp2
      go_roundw
      case rel =>
        have h1 := HP.out.keep (w' := w1) (fun g hg => hg1.block g (HP.out.bd g hg) (fun e => by have := HN.out g hg; have := Option.some.inj e; omega))
        have hs : s ≤ 2199023255552 := HL.out (s, c) (List.mem_append.2 (Or.inr List.mem_cons_self))
        have hXW : X < W.heap.size := HN.out X HP.out.inX
        refine ⟨max m s, A ++ B, by omega, by omega, ?_, ?_, h1.setN 8 (.int .i64 (max m s)) true p.vf p.vl (max m s) rfl, ?_, hR1.keep (heap_setCell_other _ _ _ _ (h1.neX (by simp [mapsP]))) (heap_setCell_other _ _ _ _ (by simp; omega))⟩
        · show _ = _
          rw [← HM.out, maxK_mid]
        · show ∀ _, _
          intro x hx
          refine HL.out x ?_
          rcases List.mem_append.1 hx with hx | hx
          · exact List.mem_append.2 (Or.inl hx)
          · exact List.mem_append.2 (Or.inr (List.mem_cons_of_mem _ hx))
        · have hk := HK.out
          have hz := HZ.out
          exact Kept.trans (show Kept w w1 S S1 from ⟨hg1.os.trans hk.os, hg1.tape.trans hk.tape, hg1.output.trans hk.output, Nat.le_trans hk.size hg1.size, hk.old, fun g hg hn => (hg1.block g (Nat.lt_of_lt_of_le hg hk.size) (fun e => by have := Option.some.inj e; omega)).trans (hk.kept g hg hn)⟩) (h1.keptX 8 _)
      case measure =>
        have h1 := HP.out.keep (w' := w1) (fun g hg => hg1.block g (HP.out.bd g hg) (fun e => by have := HN.out g hg; have := Option.some.inj e; omega))
        have hXW : X < W.heap.size := HN.out X HP.out.inX
        rw [leftN_eq hR, leftN_eq (hR1.keep (heap_setCell_other _ _ _ _ (h1.neX (by simp [mapsP]))) (heap_setCell_other _ _ _ _ (by simp; omega)))]
        simp
end
end Go.Proofs.Ytmlgoecdefeapaa
