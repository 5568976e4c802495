/-
  The document's proposer: a promise heard. The conditions: slots from 1 to 2^40 on, those told of at most a thousand behind; at most a million entries; at most 1000 servers promised.
-/
import Derived.Test.YtmlgoecdefeapaaPPrRefJ
import Derived.Test.YtmlgoecdefeapaaPPack5
import Derived.Deep.DeepCutAuto
namespace Go.Proofs.Ytmlgoecdefeapaa
open Go.RowKit

section
variable {P : Program} {md : Region.Mode} {Q : Exit → Act → World → Prop} {S : World → Prop} {fuel : Nat} {listed : Array Bool} {a : Act} {w : World} {l : List Oper}
theorem rd4_12 {o0 o1 o2 o3 o4 o5 o6 o7 o8 o9 o10 o11 o12 : Oper} (hr : Region.ready md (o0 :: o1 :: o2 :: o3 :: o4 :: o5 :: o6 :: o7 :: o8 :: o9 :: o10 :: o11 :: o12 :: l).toArray listed = [4, 12]) (hw0 : Region.wanted o4 (yielded (o0 :: o1 :: o2 :: o3 :: o4 :: o5 :: o6 :: o7 :: o8 :: o9 :: o10 :: o11 :: o12 :: l).toArray a.tmps) = true) (hw1 : Region.wanted o12 (yielded (o0 :: o1 :: o2 :: o3 :: o4 :: o5 :: o6 :: o7 :: o8 :: o9 :: o10 :: o11 :: o12 :: l).toArray a.tmps) = true)
    (h0 : ∀ K' : Act → World → Prop, Shut (∀ a w, S w → (S w → wpAnyH P md (o0 :: o1 :: o2 :: o3 :: o4 :: o5 :: o6 :: o7 :: o8 :: o9 :: o10 :: o11 :: o12 :: l).toArray Q S fuel (listed.setIfInBounds 4 true) a w) → K' a w) → Oper.wp P o4 a w K' Q)
    (h1 : ∀ K' : Act → World → Prop, Shut (∀ a w, S w → (S w → wpAnyH P md (o0 :: o1 :: o2 :: o3 :: o4 :: o5 :: o6 :: o7 :: o8 :: o9 :: o10 :: o11 :: o12 :: l).toArray Q S fuel (listed.setIfInBounds 12 true) a w) → K' a w) → Oper.wp P o12 a w K' Q) : wpAnyH P md (o0 :: o1 :: o2 :: o3 :: o4 :: o5 :: o6 :: o7 :: o8 :: o9 :: o10 :: o11 :: o12 :: l).toArray Q S (fuel + 1) listed a w :=
  wpAnyH_ready hr (by simp) (AllReadyH.cons (o := o4) rfl (fun K hK => by rw [if_pos hw0]; exact h0 K hK) (AllReadyH.cons (o := o12) rfl (fun K hK => by rw [if_pos hw1]; exact h1 K hK) AllReadyH.nil))
theorem rd4_13 {o0 o1 o2 o3 o4 o5 o6 o7 o8 o9 o10 o11 o12 o13 : Oper} (hr : Region.ready md (o0 :: o1 :: o2 :: o3 :: o4 :: o5 :: o6 :: o7 :: o8 :: o9 :: o10 :: o11 :: o12 :: o13 :: l).toArray listed = [4, 13]) (hw0 : Region.wanted o4 (yielded (o0 :: o1 :: o2 :: o3 :: o4 :: o5 :: o6 :: o7 :: o8 :: o9 :: o10 :: o11 :: o12 :: o13 :: l).toArray a.tmps) = true) (hw1 : Region.wanted o13 (yielded (o0 :: o1 :: o2 :: o3 :: o4 :: o5 :: o6 :: o7 :: o8 :: o9 :: o10 :: o11 :: o12 :: o13 :: l).toArray a.tmps) = true)
    (h0 : ∀ K' : Act → World → Prop, Shut (∀ a w, S w → (S w → wpAnyH P md (o0 :: o1 :: o2 :: o3 :: o4 :: o5 :: o6 :: o7 :: o8 :: o9 :: o10 :: o11 :: o12 :: o13 :: l).toArray Q S fuel (listed.setIfInBounds 4 true) a w) → K' a w) → Oper.wp P o4 a w K' Q)
    (h1 : ∀ K' : Act → World → Prop, Shut (∀ a w, S w → (S w → wpAnyH P md (o0 :: o1 :: o2 :: o3 :: o4 :: o5 :: o6 :: o7 :: o8 :: o9 :: o10 :: o11 :: o12 :: o13 :: l).toArray Q S fuel (listed.setIfInBounds 13 true) a w) → K' a w) → Oper.wp P o13 a w K' Q) : wpAnyH P md (o0 :: o1 :: o2 :: o3 :: o4 :: o5 :: o6 :: o7 :: o8 :: o9 :: o10 :: o11 :: o12 :: o13 :: l).toArray Q S (fuel + 1) listed a w :=
  wpAnyH_ready hr (by simp) (AllReadyH.cons (o := o4) rfl (fun K hK => by rw [if_pos hw0]; exact h0 K hK) (AllReadyH.cons (o := o13) rfl (fun K hK => by rw [if_pos hw1]; exact h1 K hK) AllReadyH.nil))
theorem rd4_14 {o0 o1 o2 o3 o4 o5 o6 o7 o8 o9 o10 o11 o12 o13 o14 : Oper} (hr : Region.ready md (o0 :: o1 :: o2 :: o3 :: o4 :: o5 :: o6 :: o7 :: o8 :: o9 :: o10 :: o11 :: o12 :: o13 :: o14 :: l).toArray listed = [4, 14]) (hw0 : Region.wanted o4 (yielded (o0 :: o1 :: o2 :: o3 :: o4 :: o5 :: o6 :: o7 :: o8 :: o9 :: o10 :: o11 :: o12 :: o13 :: o14 :: l).toArray a.tmps) = true) (hw1 : Region.wanted o14 (yielded (o0 :: o1 :: o2 :: o3 :: o4 :: o5 :: o6 :: o7 :: o8 :: o9 :: o10 :: o11 :: o12 :: o13 :: o14 :: l).toArray a.tmps) = true)
    (h0 : ∀ K' : Act → World → Prop, Shut (∀ a w, S w → (S w → wpAnyH P md (o0 :: o1 :: o2 :: o3 :: o4 :: o5 :: o6 :: o7 :: o8 :: o9 :: o10 :: o11 :: o12 :: o13 :: o14 :: l).toArray Q S fuel (listed.setIfInBounds 4 true) a w) → K' a w) → Oper.wp P o4 a w K' Q)
    (h1 : ∀ K' : Act → World → Prop, Shut (∀ a w, S w → (S w → wpAnyH P md (o0 :: o1 :: o2 :: o3 :: o4 :: o5 :: o6 :: o7 :: o8 :: o9 :: o10 :: o11 :: o12 :: o13 :: o14 :: l).toArray Q S fuel (listed.setIfInBounds 14 true) a w) → K' a w) → Oper.wp P o14 a w K' Q) : wpAnyH P md (o0 :: o1 :: o2 :: o3 :: o4 :: o5 :: o6 :: o7 :: o8 :: o9 :: o10 :: o11 :: o12 :: o13 :: o14 :: l).toArray Q S (fuel + 1) listed a w :=
  wpAnyH_ready hr (by simp) (AllReadyH.cons (o := o4) rfl (fun K hK => by rw [if_pos hw0]; exact h0 K hK) (AllReadyH.cons (o := o14) rfl (fun K hK => by rw [if_pos hw1]; exact h1 K hK) AllReadyH.nil))
theorem rd4_17 {o0 o1 o2 o3 o4 o5 o6 o7 o8 o9 o10 o11 o12 o13 o14 o15 o16 o17 : Oper} (hr : Region.ready md (o0 :: o1 :: o2 :: o3 :: o4 :: o5 :: o6 :: o7 :: o8 :: o9 :: o10 :: o11 :: o12 :: o13 :: o14 :: o15 :: o16 :: o17 :: l).toArray listed = [4, 17]) (hw0 : Region.wanted o4 (yielded (o0 :: o1 :: o2 :: o3 :: o4 :: o5 :: o6 :: o7 :: o8 :: o9 :: o10 :: o11 :: o12 :: o13 :: o14 :: o15 :: o16 :: o17 :: l).toArray a.tmps) = true) (hw1 : Region.wanted o17 (yielded (o0 :: o1 :: o2 :: o3 :: o4 :: o5 :: o6 :: o7 :: o8 :: o9 :: o10 :: o11 :: o12 :: o13 :: o14 :: o15 :: o16 :: o17 :: l).toArray a.tmps) = true)
    (h0 : ∀ K' : Act → World → Prop, Shut (∀ a w, S w → (S w → wpAnyH P md (o0 :: o1 :: o2 :: o3 :: o4 :: o5 :: o6 :: o7 :: o8 :: o9 :: o10 :: o11 :: o12 :: o13 :: o14 :: o15 :: o16 :: o17 :: l).toArray Q S fuel (listed.setIfInBounds 4 true) a w) → K' a w) → Oper.wp P o4 a w K' Q)
    (h1 : ∀ K' : Act → World → Prop, Shut (∀ a w, S w → (S w → wpAnyH P md (o0 :: o1 :: o2 :: o3 :: o4 :: o5 :: o6 :: o7 :: o8 :: o9 :: o10 :: o11 :: o12 :: o13 :: o14 :: o15 :: o16 :: o17 :: l).toArray Q S fuel (listed.setIfInBounds 17 true) a w) → K' a w) → Oper.wp P o17 a w K' Q) : wpAnyH P md (o0 :: o1 :: o2 :: o3 :: o4 :: o5 :: o6 :: o7 :: o8 :: o9 :: o10 :: o11 :: o12 :: o13 :: o14 :: o15 :: o16 :: o17 :: l).toArray Q S (fuel + 1) listed a w :=
  wpAnyH_ready hr (by simp) (AllReadyH.cons (o := o4) rfl (fun K hK => by rw [if_pos hw0]; exact h0 K hK) (AllReadyH.cons (o := o17) rfl (fun K hK => by rw [if_pos hw1]; exact h1 K hK) AllReadyH.nil))
end
theorem insA_take {f : Int} {b es : List En} {k : Nat} (hk : k < es.length) : insA f b (es.take (k + 1)) = insP f (insA f b (es.take k)) es[k] := by
  rw [List.take_add_one, List.getElem?_eq_getElem hk, insA_append]
  rfl
theorem lastS_take {z : Int} {l : List En} {k : Nat} (hk : k < l.length) : lastS z (l.take (k + 1)) = max (lastS z (l.take k)) l[k].slot := by
  rw [List.take_add_one, List.getElem?_eq_getElem hk]
  unfold lastS
  rw [List.foldl_append]
  rfl
section
variable {w w' : World} {base X : Nat} {S : Nat → Prop} {p : Pp} {a1 a2 a3 a4 : Value} {l : List Sv}
set_option maxHeartbeats 12800000 in
set_option maxRecDepth 100000 in
theorem PrAt.rpromise (h : PrAt w base S X p a1 a2 a3 a4 l) (hn : p.n ≤ 9223372036854775807) (hw : WhoOk p.who) (hwl : p.who.length ≤ 999) (hf : 1 ≤ p.f ∧ p.f ≤ 1099511627776) (hfit : p.is = false → p.vals = [] ∧ p.l = []) {es : List En} {u : Value} (hbl : p.best.length + es.length ≤ 1000000) (hbs : ∀ e ∈ p.best, p.f ≤ e.slot ∧ e.slot ≤ p.f + 1000) (hes : ∀ e ∈ es, e.slot ≤ p.f + 1000) (HU : ∀ y S', Kept w y S S' → RowAt enC y u es) (who : Int) : Calls Try.prog 12 #[.pointer (some ⟨X, 0, none⟩), .int .i64 who, u] w (PrPost w base S X (promP (maR p.n) p who es).1 (.bool (promP (maR p.n) p who es).2)) := by
  have HQ : Hid (PrPost w base S X p (.bool false) (.returned (.bool false)) w) := ⟨S, rfl, ⟨_, _, _, _, _, h⟩, Kept.refl _ _⟩
  obtain ⟨m, hm⟩ : ∃ m, m = maR p.n := ⟨_, rfl⟩
  have HMJ : Hid _ := rmaj_any p.n hn
  rw [← hm] at HMJ ⊢
  obtain ⟨ua, uc, eu⟩ := (HU w S (Kept.refl _ _)).form
  subst eu
  obtain ⟨va, vc, ev⟩ := (RowAt.own nuC_len h.o1).form
  subst ev
  have c0 := h.cell 0 (.int .i64 p.n) rfl
  have c3 := h.cell 3 (.slice va p.who.length vc) rfl
  have c5 := h.cell 5 (.bool p.is) rfl
  have f3 := h.fz 3
  have HH : Hid _ := has_any w (.slice va p.who.length vc) p.who who (OwnNu.ints h.o1 hw.1 hw.2)
  by_cases hr : p.is = true ∨ who < 0 ∨ p.n ≤ who ∨ who ∈ p.who
  · have e1 : promP m p who es = (p, false) := by
      unfold promP
      rw [if_pos hr]
    rw [e1]
    clear h e1 hn hw hwl hf hfit hbl hbs hes HU f3 HMJ hm
    cases hi : p.is with
    | true =>
      rw [hi] at c5
      clear hr HH
      go_enter Try.func12, Try.ntmps12
      go_wp2
      go_ret
      exact HQ.out
    | false =>
      rw [hi] at c5 hr
      by_cases h1 : who < 0
      · have d1 : decide (who < 0) = true := decide_eq_true h1
        clear hr HH
        go_enter Try.func12, Try.ntmps12
        go_wp2
        go_ret
        exact HQ.out
      · have d1 : decide (who < 0) = false := decide_eq_false h1
        by_cases h2 : p.n ≤ who
        · have d2 : decide (p.n ≤ who) = true := decide_eq_true h2
          clear hr HH
          go_enter Try.func12, Try.ntmps12
          go_wp2
          go_ret
          exact HQ.out
        · have d2 : decide (p.n ≤ who) = false := decide_eq_false h2
          have h3 : who ∈ p.who := by
            rcases hr with h3 | h3 | h3 | h3
            · cases h3
            · exact absurd h3 h1
            · exact absurd h3 h2
            · exact h3
          have hb : hasB p.who who = true := decide_eq_true h3
          rw [hb] at HH
          clear hr h3 hb h1 h2
          go_enter Try.func12, Try.ntmps12
          go_wp2_with (go_at_call 30; refine Calls.mono HH.out ?_; rintro r w1 ⟨rfl, hw1⟩; rw [hw1]; clear hw1)
          go_ret
          exact HQ.out
  · have hi : p.is = false := by
      cases hp : p.is with
      | false => rfl
      | true => exact absurd (Or.inl hp) hr
    have h1 : ¬ who < 0 := fun h4 => hr (Or.inr (Or.inl h4))
    have h2 : ¬ p.n ≤ who := fun h4 => hr (Or.inr (Or.inr (Or.inl h4)))
    have h3 : who ∉ p.who := fun h4 => hr (Or.inr (Or.inr (Or.inr h4)))
    have d1 : decide (who < 0) = false := decide_eq_false h1
    have d2 : decide (p.n ≤ who) = false := decide_eq_false h2
    have hb : hasB p.who who = false := decide_eq_false h3
    rw [hb] at HH
    rw [hi] at c5
    obtain ⟨hvn, hln⟩ := hfit hi
    obtain ⟨L1, hL1⟩ : ∃ L1, L1 = (p.who ++ [who]).length := ⟨_, rfl⟩
    have hL2 : (L1 : Int) = (p.who.length : Int) + 1 := by rw [hL1]; simp
    obtain ⟨bb, hbb⟩ : ∃ bb, bb = decide ((L1 : Int) < m) := ⟨_, rfl⟩
    have hmaj : decide ((L1 : Int) < m) = bb := hbb.symm
    obtain ⟨B, hB⟩ : ∃ B, B = insA p.f p.best es := ⟨_, rfl⟩
    have HPM : Hid (promP m p who es = if bb = true then (countP p who es, false) else (readyP (countP p who es), true)) := by
      show promP m p who es = _
      unfold promP
      rw [if_neg hr, ← hL2, hbb]
      by_cases h5 : (L1 : Int) < m
      · rw [if_pos h5, if_pos (decide_eq_true h5)]
      · rw [if_neg h5, if_neg (by rw [decide_eq_false h5]; exact Bool.false_ne_true)]
    have hBl : B.length ≤ 1000000 := by rw [hB]; exact Nat.le_trans (insA_length _ _ _) hbl
    have hBs : ∀ e ∈ B, p.f ≤ e.slot ∧ e.slot ≤ p.f + 1000 := fun e he => by
      rw [hB] at he
      rcases insA_mem he with h5 | h5
      · exact ⟨h5.2, hes e h5.1⟩
      · exact hbs e h5
    obtain ⟨i0, hi0, hz0, hz1, hz2⟩ := info_parts (show (Try.prog.info? 3).map (fun i => (i.zero, i.size, i.bytes)) = some (some (.int .i64 0), 1, 8) by kernel_rfl)
    obtain ⟨e0, he, hez0, hez1, hez2⟩ := info_parts infoEn
    obtain ⟨v0, hv, hvz0, hvz1, hvz2⟩ := info_parts infoSv
    have hbs0 : base ≤ w.heap.size := Nat.le_trans h.lo (Nat.le_of_lt (lt_of_block h.blk))
    have bA : Below w.heap.size w (w.alloc (.cells #[.int .i64 who] 3)) := (Below.refl _ w).alloc (Nat.le_refl _) _
    have HNEW : Hid (RowAt nuC (w.alloc (.cells #[.int .i64 who] 3)) (.slice (some ⟨w.heap.size, 0, none⟩) 1 1) [who]) := RowAt.built (heap_alloc_new w _) rfl 1 rfl rfl
    have HO1 : Hid (OwnNu (w.alloc (.cells #[.int .i64 who] 3)) base (.slice va p.who.length vc) p.who) := own_keep h.o1 fun g e => bA.block g (h.o1.lt g e).2
    have HB1 : Hid (base ≤ (w.alloc (.cells #[.int .i64 who] 3)).heap.size) := Nat.le_trans hbs0 bA.size
    have HA1 : Hid (∀ w6 u6, w6.ownsRow base 3 1 u6 (p.who.length + [who].length) (rowL nuC p.who ++ rowL nuC [who]) → Appended base (w.alloc (.cells #[.int .i64 who] 3)) w6 (.slice va p.who.length vc) u6 → StoreTo w w6 base X 3 S (.slice va p.who.length vc) u6 (fun W7 S' => PrAt W7 base S' X (whoP p (p.who ++ [who])) u6 a2 a3 a4 l)) := fun w6 u6 o6 a6 => h.app1 who bA o6 a6
    have HWL : Hid (p.who.length ≤ 999) := hwl
    have HUU : Hid (∀ y S', Kept w y S S' → RowAt enC y (.slice ua es.length uc) es) := HU
    have HBL : Hid (p.best.length + es.length ≤ 1000000) := hbl
    have HBD : Hid (B = insA p.f p.best es) := hB
    have HBS : Hid (B.length ≤ 1000000 ∧ ∀ e ∈ B, p.f ≤ e.slot ∧ e.slot ≤ p.f + 1000) := ⟨hBl, hBs⟩
    have HF : Hid (1 ≤ p.f ∧ p.f ≤ 1099511627776) := hf
    have HE : Hid (p.vals = [] ∧ p.l = [] ∧ p.is = false) := ⟨hvn, hln, hi⟩
    have HL1 : Hid (L1 = (p.who ++ [who]).length) := hL1
    clear h hn hw hwl hf hfit hbl hbs hes HU hr hi h1 h2 h3 hb hvn hln hL1 hL2 hbb hB hBl hBs hbs0 bA hm
    go_enter Try.func12, Try.ntmps12
    go_upto_region 3 with (go_at_call 30; refine Calls.mono HH.out ?_; rintro r w1 ⟨rfl, hw1⟩; rw [hw1]; clear hw1)
    clear HH
    go_upto_region 4 with (at_builtin; refine wpList_app_row (k := 1) (enc := nuC) (l := [who]) rfl (.tmp 40) (.tmp 42) 41 3 rfl i0 _ 8 Try.underlying41 hi0 hz0 hz1 hz2 rfl (by decide) nuC_len nuC_one rfl rfl HO1.out HNEW.out HB1.out (by have := HWL.out; simp; omega) (by have := HWL.out; simp; omega) ?_; intro u6 w6 o6 a6; obtain ⟨p6, n6, q6, rfl⟩ := own_form o6; obtain ⟨c3', f3', fr6, W7, hW7, fr7, S7, P7, K7⟩ := (HA1.out w6 _ o6 a6).ex; clear o6 a6 fr6 fr7)
    obtain ⟨W1, hW1⟩ : ∃ W1, W1 = W7 := ⟨_, rfl⟩
    rw [← hW1] at P7 K7 ⊢
    have I1 : Hid (PrI w W1 base X S (whoP p (p.who ++ [who]))) := ⟨⟨_, _, _, _, _, _, P7.out, K7.out⟩⟩
    clear HA1 HO1 HB1 HNEW P7 K7 hW7 c3' f3' hW1 c0 c3 c5 f3 d1 d2
    go_wp2
    go_loopw [7] (fun i y => ∃ k : Nat, k ≤ es.length ∧ i = .int .i64 (k : Int) ∧ PrI w y base X S (bestP (whoP p (p.who ++ [who])) (insA p.f p.best (es.take k)))) (fun i _ => es.length - (intOf i).toNat)
    case atStart => exact ⟨0, Nat.zero_le _, rfl, I1.out⟩
    case round =>
      obtain ⟨k, hk, rfl, hI⟩ := hrel
      obtain ⟨S1, b1, b2, b3, b4, l1, P1, K1⟩ := hI.ex
      clear hI I1
      by_cases hkl : k < es.length
      · have q0 : decide ((k : Int) < (es.length : Int)) = true := decide_eq_true (by omega)
        obtain ⟨bk, off, cap', hvv, hcap, hbk, hc⟩ := (HUU.out wr S1 K1).cells enC_len (by omega)
        injection hvv with e1 e2 e3
        subst e1 e3
        clear e2
        obtain ⟨x, hx⟩ : ∃ x, x = es[k] := ⟨_, rfl⟩
        have z0 := hc k hkl 0 (.int .i64 x.slot) (by decide) (by rw [hx]; rfl)
        have z1 := hc k hkl 1 (.int .i64 x.ballot) (by decide) (by rw [hx]; rfl)
        have z2 := hc k hkl 2 (.int .i64 x.cmd.kind) (by decide) (by rw [hx]; rfl)
        have z3 := hc k hkl 3 (.int .i64 x.cmd.session) (by decide) (by rw [hx]; rfl)
        have z4 := hc k hkl 4 (.int .i64 x.cmd.seq) (by decide) (by rw [hx]; rfl)
        have z5 := hc k hkl 5 (.string x.cmd.name) (by decide) (by rw [hx]; rfl)
        have z6 := hc k hkl 6 (.int .i64 x.cmd.n) (by decide) (by rw [hx]; rfl)
        rw [Nat.add_zero] at z0
        have hins := insA_take (f := p.f) (b := p.best) hkl
        rw [← hx] at hins
        have HK : Hid _ := P1.rkeep (Nat.le_trans (insA_length _ _ _) (by have := HBL.out; rw [List.length_take]; omega)) x
        have HI : Hid _ := hins
        have HK1 : Hid _ := K1
        have hel : es.length ≤ 1000000 := by have := HBL.out; omega
        clear hc hx hins P1 K1
        go_wp2_with (go_at_call 31; refine Calls.mono HK.out ?_; intro r w2 h2; obtain ⟨S2, v2, e2, P2, K2⟩ := h2.ex; subst e2; have HP2 : Hid _ := P2; have HK2 : Hid _ := K2; clear h2 P2 K2)
        go_roundw
        case rel => exact ⟨k + 1, hkl, by go_num, ⟨⟨S2, b1, v2, b3, b4, l1, by rw [HI.out]; exact HP2.out, HK1.out.trans HK2.out⟩⟩⟩
        case measure => simp [intOf]; omega
      · have q0 : decide ((k : Int) < (es.length : Int)) = false := decide_eq_false (by omega)
        rw [List.take_of_length_le (by omega), ← HBD.out] at P1
        obtain ⟨pa, pc, epa⟩ := (RowAt.own nuC_len P1.o1).form
        have epa' : b1 = .slice pa L1 pc := by rw [epa, HL1.out]; rfl
        subst epa'
        have c3 := P1.cell 3 (.slice pa L1 pc) rfl
        have c0 := P1.cell 0 (.int .i64 p.n) rfl
        have HP1 : Hid _ := P1
        have HK1 : Hid _ := K1
        clear P1 K1 epa hk
        go_upto_region 8 with fail
        clear q0 hkl
        refine wp_region_held_drew (S := (fun y : World => y.cell? ⟨X, 3, none⟩ = some (.slice pa L1 pc) ∧ y.cell? ⟨X, 0, none⟩ = some (.int .i64 p.n))) (by kernel_rfl) ?_ (fun hHeld0 => ?_)
        · try dsimp only
          exact ⟨by assumption, by assumption⟩
        refine tk0 (.pointer (some ⟨X, 0, none⟩)) (by kernel_rfl) (by kernel_rfl) (by kernel_rfl) (fun _ _ _ h => h) rfl (fun w hSw => by (try dsimp only at hSw); obtain ⟨s3, s0⟩ := hSw; go_simp) (by assumption) ?_
        try simp only [Act.put, List.setIfInBounds_toArray, List.set_cons_zero, List.set_cons_succ]
        refine tk1 (.pointer (some ⟨X, 0, none⟩)) (by kernel_rfl) (by kernel_rfl) (by kernel_rfl) (fun _ _ _ h => h) rfl (fun w hSw => by (try dsimp only at hSw); obtain ⟨s3, s0⟩ := hSw; go_simp) (by assumption) ?_
        try simp only [Act.put, List.setIfInBounds_toArray, List.set_cons_zero, List.set_cons_succ]
        refine tk2 (.pointer (some ⟨X, 3, none⟩)) (by kernel_rfl) (by kernel_rfl) (by kernel_rfl) (fun _ _ _ h => h) rfl (fun w hSw => by (try dsimp only at hSw); obtain ⟨s3, s0⟩ := hSw; go_simp) (by assumption) ?_
        try simp only [Act.put, List.setIfInBounds_toArray, List.set_cons_zero, List.set_cons_succ]
        refine tk3 (.slice pa L1 pc) (by kernel_rfl) (by kernel_rfl) (by kernel_rfl) (fun _ _ _ h => h) rfl (fun w hSw => by (try dsimp only at hSw); obtain ⟨s3, s0⟩ := hSw; go_simp) (by assumption) ?_
        try simp only [Act.put, List.setIfInBounds_toArray, List.set_cons_zero, List.set_cons_succ]
        refine tk4 (.int .i64 (L1 : Int)) (by kernel_rfl) (by kernel_rfl) (by kernel_rfl) (fun _ _ _ h => h) rfl (fun w hSw => by (try dsimp only at hSw); obtain ⟨s3, s0⟩ := hSw; go_simp) (by assumption) ?_
        try simp only [Act.put, List.setIfInBounds_toArray, List.set_cons_zero, List.set_cons_succ]
        refine tk5 (.pointer (some ⟨X, 0, none⟩)) (by kernel_rfl) (by kernel_rfl) (by kernel_rfl) (fun _ _ _ h => h) rfl (fun w hSw => by (try dsimp only at hSw); obtain ⟨s3, s0⟩ := hSw; go_simp) (by assumption) ?_
        try simp only [Act.put, List.setIfInBounds_toArray, List.set_cons_zero, List.set_cons_succ]
        refine tk6 (.pointer (some ⟨X, 0, none⟩)) (by kernel_rfl) (by kernel_rfl) (by kernel_rfl) (fun _ _ _ h => h) rfl (fun w hSw => by (try dsimp only at hSw); obtain ⟨s3, s0⟩ := hSw; go_simp) (by assumption) ?_
        try simp only [Act.put, List.setIfInBounds_toArray, List.set_cons_zero, List.set_cons_succ]
        refine tk7 (.pointer (some ⟨X, 0, none⟩)) (by kernel_rfl) (by kernel_rfl) (by kernel_rfl) (fun _ _ _ h => h) rfl (fun w hSw => by (try dsimp only at hSw); obtain ⟨s3, s0⟩ := hSw; go_simp) (by assumption) ?_
        try simp only [Act.put, List.setIfInBounds_toArray, List.set_cons_zero, List.set_cons_succ]
        refine tk8 (.int .i64 p.n) (by kernel_rfl) (by kernel_rfl) (by kernel_rfl) (fun _ _ _ h => h) rfl (fun w hSw => by (try dsimp only at hSw); obtain ⟨s3, s0⟩ := hSw; go_simp) (by assumption) ?_
        try simp only [Act.put, List.setIfInBounds_toArray, List.set_cons_zero, List.set_cons_succ]
        refine cl9 (by kernel_rfl) rfl (fun K hK => ?_)
        go_simp
        go_at_call 24
        refine Calls.mono (HMJ.out _) ?_
        rintro r w9 ⟨rfl, e9⟩
        subst e9
        refine hK.out _ _ ?_ (fun hHeld => ?_)
        · try dsimp only
          exact ⟨by assumption, by assumption⟩
        clear hK K
        try simp only [Act.put, List.setIfInBounds_toArray, List.set_cons_zero, List.set_cons_succ]
        refine tk10 (.bool bb) (by kernel_rfl) (by kernel_rfl) (by kernel_rfl) (fun _ _ _ h => h) rfl (fun w hSw => by (try dsimp only at hSw); obtain ⟨s3, s0⟩ := hSw; go_simp) (by assumption) ?_
        try simp only [Act.put, List.setIfInBounds_toArray, List.set_cons_zero, List.set_cons_succ]
        refine wpAnyH_done (by kernel_rfl) ?_ _
        obtain ⟨W2, hW2⟩ : ∃ W2, W2 = wr.drew := ⟨_, rfl⟩
        have P2 := HP1.out.drew
        have K2 := HK1.out.drew
        rw [← hW2] at P2 K2
        have HP2 : Hid _ := P2
        have HK2 : Hid _ := K2
        have HHW : Hid (wr.drew = W2) := hW2.symm
        clear hW2 P2 K2
        cases bb with
        | true =>
          go_wp2
          go_ret
          have e5 : promP m p who es = (countP p who es, false) := HPM.out.trans (by simp)
          rw [e5]
          show PrPost _ _ _ _ (countP p who es) _ _ _
          have HP3 := HP2.out
          rw [HBD.out] at HP3
          rw [HHW.out]
          exact ⟨S1, rfl, ⟨_, _, _, _, _, HP3⟩, HK2.out⟩
        | false =>
          have e5 : promP m p who es = (readyP (countP p who es), true) := HPM.out.trans (by simp)
          have HR : Hid _ := e5
          rw [HHW.out]
          clear e5 HPM
          obtain ⟨W1, hW1⟩ : ∃ W1, W2.setCell ⟨X, 5, none⟩ (.bool true) = W1 := ⟨_, rfl⟩
          have x5 := HP2.out.cell 5 (.bool p.is) rfl
          rw [HE.out.2.2] at x5
          have f5 := HP2.out.fz 5
          obtain ⟨P3, K3⟩ := HP2.out.num (i := 5) (u := .bool true) (p' := isP (bestP (whoP p (p.who ++ [who])) B)) rfl rfl rfl rfl rfl
          rw [hW1] at P3 K3
          have K3 := HK2.out.trans K3
          obtain ⟨qa, qc, eqa⟩ := (OwnEn.row P3.o2).form
          subst eqa
          have x2 := P3.cell 2 (.int .i64 p.f) rfl
          have x4 := P3.cell 4 (.slice qa B.length qc) rfl
          have HP3 : Hid _ := P3
          have HK3 : Hid _ := K3
          have wf1 : IntKind.i64.wrap (p.f - 1) = p.f - 1 := by have := HF.out; rw [IntKind.wrap_i64]; omega
          have hel : B.length ≤ 1000000 := HBS.out.1
          clear P3 K3 HP2 HK2 HP1 HK1 c0 c3
          go_upto_region 11 with fail
          clear x5 f5 hW1
          go_wp2
          go_loopw [8, 9] (fun z i y => ∃ k : Nat, k ≤ B.length ∧ i = .int .i64 (k : Int) ∧ z = .int .i64 (lastS (p.f - 1) (B.take k)) ∧ y = W1) (fun _ i _ => B.length - (intOf i).toNat)
          case atStart => exact ⟨0, Nat.zero_le _, rfl, rfl, rfl⟩
          case round =>
            obtain ⟨k2, hk2, rfl, rfl, rfl⟩ := hrel
            have ho2 : OwnEn wr base (.slice qa B.length qc) B := HP3.out.o2
            by_cases hk3 : k2 < B.length
            · have q1 : decide ((k2 : Int) < (B.length : Int)) = true := decide_eq_true (by omega)
              obtain ⟨bk, off, cap', hvv, hcap, hbk, hc⟩ := (OwnEn.row ho2).cells enC_len (by omega)
              injection hvv with e1 e2 e3
              subst e1 e3
              clear e2
              obtain ⟨x, hx⟩ : ∃ x, x = B[k2] := ⟨_, rfl⟩
              have z0 := hc k2 hk3 0 (.int .i64 x.slot) (by decide) (by rw [hx]; rfl)
              rw [Nat.add_zero] at z0
              have hmx := lastS_take (z := p.f - 1) hk3
              rw [← hx] at hmx
              have HM : Hid _ := hmx
              clear hc hx hmx ho2
              go_wp2
              go_roundw
              case rel => exact ⟨k2 + 1, hk3, by go_num, by rw [HM.out], trivial⟩
              case measure => simp [intOf]; omega
            · have q1 : decide ((k2 : Int) < (B.length : Int)) = false := decide_eq_false (by omega)
              obtain ⟨last, hlast⟩ : ∃ z, z = lastS (p.f - 1) (B.take k2) := ⟨_, rfl⟩
              rw [← hlast]
              rw [List.take_of_length_le (by omega)] at hlast
              have hb1 : p.f - 1 ≤ last := by rw [hlast]; exact lastS_ge _ _
              have hb2 : last ≤ p.f + 1000 := by rw [hlast]; exact lastS_le (by omega) (fun x hx => (HBS.out.2 x hx).2)
              obtain ⟨K, hK⟩ : ∃ K : Nat, K = (last - (p.f - 1)).toNat := ⟨_, rfl⟩
              have HKL : Hid ((K : Int) = last - (p.f - 1) ∧ K ≤ 1001) := by
                show _ ∧ _
                omega
              have HLAST : Hid (last = lastS (p.f - 1) B) := hlast
              have hff := HF.out
              have wl1 : IntKind.i64.wrap (last + 1) = last + 1 := by rw [IntKind.wrap_i64]; omega
              have wl2 : IntKind.i64.wrap (last + 2) = last + 2 := by rw [IntKind.wrap_i64]; omega
              have HBN : Hid (p.f - 1 ≤ last ∧ last ≤ p.f + 1000) := ⟨hb1, hb2⟩
              have HKD : Hid (K = (lastS (p.f - 1) B - (p.f - 1)).toNat) := by rw [← hlast]; exact hK
              clear ho2 hb1 hb2 hK hlast hff
              go_upto_region 16 with fail
              clear q1 x4 hk3 hk2
              go_wp2
              go_loopw [10] (fun sv y => ∃ k : Nat, k ≤ K ∧ sv = .int .i64 (p.f + (k : Int)) ∧ PrI w y base X S (valsP (isP (bestP (whoP p (p.who ++ [who])) B)) (p.vals ++ spanE p.b B k p.f))) (fun sv _ => ((last + 1) - intOf sv).toNat)
              case atStart =>
                refine ⟨0, Nat.zero_le _, by simp, ?_⟩
                show PrI w wr base X S (valsP _ (p.vals ++ []))
                rw [List.append_nil]
                exact ⟨⟨_, _, _, _, _, _, HP3.out, HK3.out⟩⟩
              case round =>
                obtain ⟨k, hk, rfl, hI⟩ := hrel
                obtain ⟨S3, b1, b2, b3, b4, l3, P3, K3⟩ := hI.ex
                obtain ⟨sl, hsl⟩ : ∃ z, z = p.f + (k : Int) := ⟨_, rfl⟩
                rw [← hsl]
                obtain ⟨V, hV⟩ : ∃ V, V = p.vals ++ spanE p.b B k p.f := ⟨_, rfl⟩
                rw [← hV] at P3
                obtain ⟨pv, qv, e3⟩ := (OwnEn.row P3.o3).form
                have e3' : b3 = .slice pv V.length qv := e3
                subst e3'
                clear e3 hI
                have n6 := P3.cell 6 (.slice pv V.length qv) rfl
                have n1 := P3.cell 1 (.int .i64 p.b) rfl
                have HVL : Hid (V.length = k) := by show _ = _; rw [hV, HE.out.1, List.nil_append, spanE_length]
                have HY : Hid (∀ y, Below wr.drew.heap.size wr.drew y → y.cell? ⟨X, 6, none⟩ = some (.slice pv V.length qv) ∧ y.cell? ⟨X, 1, none⟩ = some (.int .i64 p.b)) := fun y b => ⟨(P3.drew.fresh b).cell 6 _ rfl, (P3.drew.fresh b).cell 1 _ rfl⟩
                have HO3 : Hid (∀ y, Below wr.drew.heap.size wr.drew y → OwnEn y base (.slice pv V.length qv) V) := fun y b => (P3.drew.fresh b).o3
                have HB5 : Hid (∀ y, Below wr.drew.heap.size wr.drew y → base ≤ y.heap.size) := fun y b => Nat.le_trans (Nat.le_trans P3.lo (Nat.le_of_lt (lt_of_block P3.drew.blk))) b.size
                have HX : Hid (∀ w6 : World, (∀ b, b < wr.drew.heap.size → (Value.slice pv V.length qv).ownBlock ≠ some b → w6.heap[b]? = wr.drew.heap[b]?) → w6.cell? ⟨X, 1, none⟩ = some (.int .i64 p.b)) := fun w6 fr => cell_at (fr X (lt_of_block P3.drew.blk) P3.drew.n3) (P3.drew.cell 1 _ rfl)
                have HA3 : Hid (∀ e y w6 u6, Below wr.drew.heap.size wr.drew y → w6.ownsRow base 38 7 u6 (V.length + [e].length) (rowL enC V ++ rowL enC [e]) → Appended base y w6 (.slice pv V.length qv) u6 → StoreTo wr.drew w6 base X 6 S3 (.slice pv V.length qv) u6 (fun W7 S' => PrAt W7 base S' X (valsP (isP (bestP (whoP p (p.who ++ [who])) B)) (V ++ [e])) b1 b2 u6 b4 l3)) := fun e y w6 u6 b o6 a6 => P3.drew.app3 e b o6 a6
                have HVD : Hid (V = p.vals ++ spanE p.b B k p.f) := hV
                have HSD : Hid (sl = p.f + (k : Int)) := hsl
                by_cases hkl : k < K
                · have hs2 : sl ≤ last := by have := HKL.out; omega
                  have q1 : decide (sl ≤ last) = true := decide_eq_true hs2
                  have HSL : Hid (sl + 1 = p.f + ((k + 1 : Nat) : Int)) := by show _ = _; omega
                  have ws1 : IntKind.i64.wrap (sl + 1) = sl + 1 := by have := HF.out; have := HBN.out; rw [IntKind.wrap_i64]; omega
                  have HV5 : Hid (V.length ≤ 1001) := by show _ ≤ _; have := HVL.out; have := HKL.out; omega
                  obtain ⟨c, hcc⟩ : ∃ c, c = bestC B sl := ⟨_, rfl⟩
                  have HBE : Hid (Calls Try.prog 32 #[.pointer (some ⟨X, 0, none⟩), .int .i64 sl] wr.drew fun e w' => e = .returned (.agg (cmA c)) ∧ Below wr.drew.heap.size wr.drew w') := by rw [hcc]; exact P3.drew.rbest (Nat.le_trans HBS.out.1 (by decide)) sl
                  have HN5 : Hid (∀ W7 S7 u6, Hid (PrAt W7 base S7 X (valsP (isP (bestP (whoP p (p.who ++ [who])) B)) (V ++ [⟨sl, p.b, c⟩])) b1 b2 u6 b4 l3) → Hid (Kept wr.drew W7 S3 S7) → PrI w W7 base X S (valsP (isP (bestP (whoP p (p.who ++ [who])) B)) (p.vals ++ spanE p.b B (k + 1) p.f))) := fun W7 S7 u6 h5 k5 => by
                    have e5 : p.vals ++ spanE p.b B (k + 1) p.f = V ++ [⟨sl, p.b, c⟩] := by rw [spanE_snoc, ← List.append_assoc, ← hV, hcc, hsl]
                    rw [e5]
                    exact ⟨⟨_, _, _, _, _, _, h5.out, K3.drew.trans k5.out⟩⟩
                  have HA3 : Hid _ := HA3.out ⟨sl, p.b, c⟩
                  clear P3 K3 hV hsl hcc HVD
                  go_upto_region 19 with fail
                  refine wp_region_held_drew (S := (fun y : World => y.cell? ⟨X, 1, none⟩ = some (.int .i64 p.b))) (by kernel_rfl) ?_ (fun hHeld0 => ?_)
                  · try dsimp only
                    assumption
                  refine tk0 (.pointer (some ⟨X, 0, none⟩)) (by kernel_rfl) (by kernel_rfl) (by kernel_rfl) (fun _ _ _ h => h) rfl (fun w hSw => by (try dsimp only at hSw); have s1 := hSw; go_simp) (by assumption) ?_
                  try simp only [Act.put, List.setIfInBounds_toArray, List.set_cons_zero, List.set_cons_succ]
                  refine tk1 (.pointer (some ⟨X, 0, none⟩)) (by kernel_rfl) (by kernel_rfl) (by kernel_rfl) (fun _ _ _ h => h) rfl (fun w hSw => by (try dsimp only at hSw); have s1 := hSw; go_simp) (by assumption) ?_
                  try simp only [Act.put, List.setIfInBounds_toArray, List.set_cons_zero, List.set_cons_succ]
                  refine tk2 (.pointer (some ⟨X, 0, none⟩)) (by kernel_rfl) (by kernel_rfl) (by kernel_rfl) (fun _ _ _ h => h) rfl (fun w hSw => by (try dsimp only at hSw); have s1 := hSw; go_simp) (by assumption) ?_
                  try simp only [Act.put, List.setIfInBounds_toArray, List.set_cons_zero, List.set_cons_succ]
                  refine tk3 (.pointer (some ⟨X, 6, none⟩)) (by kernel_rfl) (by kernel_rfl) (by kernel_rfl) (fun _ _ _ h => h) rfl (fun w hSw => by (try dsimp only at hSw); have s1 := hSw; go_simp) (by assumption) ?_
                  try simp only [Act.put, List.setIfInBounds_toArray, List.set_cons_zero, List.set_cons_succ]
                  refine tk5 (.int .i64 sl) (by kernel_rfl) (by kernel_rfl) (by kernel_rfl) (fun _ _ _ h => h) rfl (fun w hSw => by (try dsimp only at hSw); have s1 := hSw; go_simp) (by assumption) ?_
                  try simp only [Act.put, List.setIfInBounds_toArray, List.set_cons_zero, List.set_cons_succ]
                  refine tk6 (.pointer (some ⟨X, 0, none⟩)) (by kernel_rfl) (by kernel_rfl) (by kernel_rfl) (fun _ _ _ h => h) rfl (fun w hSw => by (try dsimp only at hSw); have s1 := hSw; go_simp) (by assumption) ?_
                  try simp only [Act.put, List.setIfInBounds_toArray, List.set_cons_zero, List.set_cons_succ]
                  refine tk7 (.pointer (some ⟨X, 0, none⟩)) (by kernel_rfl) (by kernel_rfl) (by kernel_rfl) (fun _ _ _ h => h) rfl (fun w hSw => by (try dsimp only at hSw); have s1 := hSw; go_simp) (by assumption) ?_
                  try simp only [Act.put, List.setIfInBounds_toArray, List.set_cons_zero, List.set_cons_succ]
                  refine tk8 (.pointer (some ⟨X, 1, none⟩)) (by kernel_rfl) (by kernel_rfl) (by kernel_rfl) (fun _ _ _ h => h) rfl (fun w hSw => by (try dsimp only at hSw); have s1 := hSw; go_simp) (by assumption) ?_
                  try simp only [Act.put, List.setIfInBounds_toArray, List.set_cons_zero, List.set_cons_succ]
                  refine tk9 (.int .i64 p.b) (by kernel_rfl) (by kernel_rfl) (by kernel_rfl) (fun _ _ _ h => h) rfl (fun w hSw => by (try dsimp only at hSw); have s1 := hSw; go_simp) (by assumption) ?_
                  try simp only [Act.put, List.setIfInBounds_toArray, List.set_cons_zero, List.set_cons_succ]
                  refine tk10 (.pointer (some ⟨X, 0, none⟩)) (by kernel_rfl) (by kernel_rfl) (by kernel_rfl) (fun _ _ _ h => h) rfl (fun w hSw => by (try dsimp only at hSw); have s1 := hSw; go_simp) (by assumption) ?_
                  try simp only [Act.put, List.setIfInBounds_toArray, List.set_cons_zero, List.set_cons_succ]
                  refine tk11 (.int .i64 sl) (by kernel_rfl) (by kernel_rfl) (by kernel_rfl) (fun _ _ _ h => h) rfl (fun w hSw => by (try dsimp only at hSw); have s1 := hSw; go_simp) (by assumption) ?_
                  try simp only [Act.put, List.setIfInBounds_toArray, List.set_cons_zero, List.set_cons_succ]
                  refine rd4_12 (by kernel_rfl) rfl rfl (fun K hK => ?_) (fun K hK => ?_)
                  · go_simp
                    refine hK.out _ _ ?_ (fun hHeld => ?_)
                    · try dsimp only
                      assumption
                    clear hK K
                    try simp only [Act.put, List.setIfInBounds_toArray, List.set_cons_zero, List.set_cons_succ]
                    refine cl12 (by kernel_rfl) rfl (fun K hK => ?_)
                    go_simp
                    go_at_call 32
                    refine Calls.mono HBE.out ?_
                    rintro r y3 ⟨rfl, b3⟩
                    obtain ⟨n6, n1⟩ := HY.out y3 b3
                    have B3 : Hid _ := b3
                    clear b3
                    refine hK.out _ _ ?_ (fun hHeld => ?_)
                    · try dsimp only
                      assumption
                    clear hK K
                    try simp only [Act.put, List.setIfInBounds_toArray, List.set_cons_zero, List.set_cons_succ]
                    refine tk13 (.agg #[.int .i64 sl, .int .i64 p.b, .int .i64 c.kind, .int .i64 c.session, .int .i64 c.seq, .string c.name, .int .i64 c.n]) (by kernel_rfl) (by kernel_rfl) (by kernel_rfl) (fun _ _ _ h => h) rfl (fun w hSw => by (try dsimp only at hSw); have s1 := hSw; go_simp) (by assumption) ?_
                    try simp only [Act.put, List.setIfInBounds_toArray, List.set_cons_zero, List.set_cons_succ]
                    refine cl14 (by kernel_rfl) rfl (fun K hK => ?_)
                    go_simp
                    obtain ⟨y5, hy5⟩ : ∃ y, y = y3.alloc (.cells #[.int .i64 sl, .int .i64 p.b, .int .i64 c.kind, .int .i64 c.session, .int .i64 c.seq, .string c.name, .int .i64 c.n] 38) := ⟨_, rfl⟩
                    have b5 : Below wr.drew.heap.size wr.drew y5 := by rw [hy5]; exact B3.out.alloc B3.out.size _
                    have r5 : RowAt enC y5 (.slice (some ⟨y3.heap.size, 0, none⟩) 1 1) [(⟨sl, p.b, c⟩ : En)] := by rw [hy5]; exact RowAt.built (heap_alloc_new y3 _) rfl 1 rfl rfl
                    rw [← hy5]
                    obtain ⟨m6, m1⟩ := HY.out y5 b5
                    have B5 : Hid _ := b5
                    have R5 : Hid _ := r5
                    clear b5 r5 hy5
                    refine hK.out _ _ ?_ (fun hHeld => ?_)
                    · try dsimp only
                      assumption
                    clear hK K
                    try simp only [Act.put, List.setIfInBounds_toArray, List.set_cons_zero, List.set_cons_succ]
                    refine cl15 (by kernel_rfl) rfl (fun K hK => ?_)
                    refine wp_app_row (k := 7) (enc := enC) (l := [(⟨sl, p.b, c⟩ : En)]) (.tmp 109) (.tmp 119) 30 38 rfl e0 _ 64 Try.underlying30 he hez0 hez1 hez2 rfl (by decide) enC_len enC_one (base := base) rfl rfl (HO3.out y5 B5.out) R5.out (HB5.out y5 B5.out) (by have := HV5.out; simp only [List.length_singleton]; omega) (by have := HV5.out; simp only [List.length_singleton]; omega) ?_
                    intro u6 w6 o6 a6
                    obtain ⟨p6, n6, q6, rfl⟩ := own_form o6
                    obtain ⟨c6, f6, fr6, W7, hW7, fr7, S7, P7, K7⟩ := (HA3.out y5 w6 _ B5.out o6 a6).ex
                    have v1 := HX.out w6 fr6
                    have t1 := P7.out.cell 1 (.int .i64 p.b) rfl
                    clear o6 a6 fr6 fr7
                    refine hK.out _ _ ?_ (fun hHeld => ?_)
                    · try dsimp only
                      assumption
                    clear hK K
                    try simp only [Act.put, List.setIfInBounds_toArray, List.set_cons_zero, List.set_cons_succ]
                    refine tk16 (.pointer (some ⟨X, 0, none⟩)) (by kernel_rfl) (by kernel_rfl) (by kernel_rfl) (fun _ _ _ h => h) rfl (fun w hSw => by (try dsimp only at hSw); have s1 := hSw; go_simp) (by assumption) ?_
                    try simp only [Act.put, List.setIfInBounds_toArray, List.set_cons_zero, List.set_cons_succ]
                    refine tk17 (.pointer (some ⟨X, 6, none⟩)) (by kernel_rfl) (by kernel_rfl) (by kernel_rfl) (fun _ _ _ h => h) rfl (fun w hSw => by (try dsimp only at hSw); have s1 := hSw; go_simp) (by assumption) ?_
                    try simp only [Act.put, List.setIfInBounds_toArray, List.set_cons_zero, List.set_cons_succ]
                    refine cl18 (by kernel_rfl) rfl (fun K hK => ?_)
                    go_simp
                    refine hK.out _ _ ?_ (fun hHeld => ?_)
                    · try dsimp only
                      assumption
                    clear hK K
                    try simp only [Act.put, List.setIfInBounds_toArray, List.set_cons_zero, List.set_cons_succ]
                    refine wpAnyH_done (by kernel_rfl) ?_ _
                    go_wp2
                    go_roundw
                    case rel => exact ⟨k + 1, by omega, by rw [HSL.out], HN5.out _ _ _ P7 K7⟩
                    case measure => simp [intOf]; omega
                  · go_simp
                    go_at_call 32
                    refine Calls.mono HBE.out ?_
                    rintro r y3 ⟨rfl, b3⟩
                    obtain ⟨n6, n1⟩ := HY.out y3 b3
                    have B3 : Hid _ := b3
                    clear b3
                    refine hK.out _ _ ?_ (fun hHeld => ?_)
                    · try dsimp only
                      assumption
                    clear hK K
                    try simp only [Act.put, List.setIfInBounds_toArray, List.set_cons_zero, List.set_cons_succ]
                    refine tk13 (.agg #[.int .i64 sl, .int .i64 p.b, .int .i64 c.kind, .int .i64 c.session, .int .i64 c.seq, .string c.name, .int .i64 c.n]) (by kernel_rfl) (by kernel_rfl) (by kernel_rfl) (fun _ _ _ h => h) rfl (fun w hSw => by (try dsimp only at hSw); have s1 := hSw; go_simp) (by assumption) ?_
                    try simp only [Act.put, List.setIfInBounds_toArray, List.set_cons_zero, List.set_cons_succ]
                    refine rd4_14 (by kernel_rfl) rfl rfl (fun K hK => ?_) (fun K hK => ?_)
                    · go_simp
                      refine hK.out _ _ ?_ (fun hHeld => ?_)
                      · try dsimp only
                        assumption
                      clear hK K
                      try simp only [Act.put, List.setIfInBounds_toArray, List.set_cons_zero, List.set_cons_succ]
                      refine cl14 (by kernel_rfl) rfl (fun K hK => ?_)
                      go_simp
                      obtain ⟨y5, hy5⟩ : ∃ y, y = y3.alloc (.cells #[.int .i64 sl, .int .i64 p.b, .int .i64 c.kind, .int .i64 c.session, .int .i64 c.seq, .string c.name, .int .i64 c.n] 38) := ⟨_, rfl⟩
                      have b5 : Below wr.drew.heap.size wr.drew y5 := by rw [hy5]; exact B3.out.alloc B3.out.size _
                      have r5 : RowAt enC y5 (.slice (some ⟨y3.heap.size, 0, none⟩) 1 1) [(⟨sl, p.b, c⟩ : En)] := by rw [hy5]; exact RowAt.built (heap_alloc_new y3 _) rfl 1 rfl rfl
                      rw [← hy5]
                      obtain ⟨m6, m1⟩ := HY.out y5 b5
                      have B5 : Hid _ := b5
                      have R5 : Hid _ := r5
                      clear b5 r5 hy5
                      refine hK.out _ _ ?_ (fun hHeld => ?_)
                      · try dsimp only
                        assumption
                      clear hK K
                      try simp only [Act.put, List.setIfInBounds_toArray, List.set_cons_zero, List.set_cons_succ]
                      refine cl15 (by kernel_rfl) rfl (fun K hK => ?_)
                      refine wp_app_row (k := 7) (enc := enC) (l := [(⟨sl, p.b, c⟩ : En)]) (.tmp 109) (.tmp 119) 30 38 rfl e0 _ 64 Try.underlying30 he hez0 hez1 hez2 rfl (by decide) enC_len enC_one (base := base) rfl rfl (HO3.out y5 B5.out) R5.out (HB5.out y5 B5.out) (by have := HV5.out; simp only [List.length_singleton]; omega) (by have := HV5.out; simp only [List.length_singleton]; omega) ?_
                      intro u6 w6 o6 a6
                      obtain ⟨p6, n6, q6, rfl⟩ := own_form o6
                      obtain ⟨c6, f6, fr6, W7, hW7, fr7, S7, P7, K7⟩ := (HA3.out y5 w6 _ B5.out o6 a6).ex
                      have v1 := HX.out w6 fr6
                      have t1 := P7.out.cell 1 (.int .i64 p.b) rfl
                      clear o6 a6 fr6 fr7
                      refine hK.out _ _ ?_ (fun hHeld => ?_)
                      · try dsimp only
                        assumption
                      clear hK K
                      try simp only [Act.put, List.setIfInBounds_toArray, List.set_cons_zero, List.set_cons_succ]
                      refine tk16 (.pointer (some ⟨X, 0, none⟩)) (by kernel_rfl) (by kernel_rfl) (by kernel_rfl) (fun _ _ _ h => h) rfl (fun w hSw => by (try dsimp only at hSw); have s1 := hSw; go_simp) (by assumption) ?_
                      try simp only [Act.put, List.setIfInBounds_toArray, List.set_cons_zero, List.set_cons_succ]
                      refine tk17 (.pointer (some ⟨X, 6, none⟩)) (by kernel_rfl) (by kernel_rfl) (by kernel_rfl) (fun _ _ _ h => h) rfl (fun w hSw => by (try dsimp only at hSw); have s1 := hSw; go_simp) (by assumption) ?_
                      try simp only [Act.put, List.setIfInBounds_toArray, List.set_cons_zero, List.set_cons_succ]
                      refine cl18 (by kernel_rfl) rfl (fun K hK => ?_)
                      go_simp
                      refine hK.out _ _ ?_ (fun hHeld => ?_)
                      · try dsimp only
                        assumption
                      clear hK K
                      try simp only [Act.put, List.setIfInBounds_toArray, List.set_cons_zero, List.set_cons_succ]
                      refine wpAnyH_done (by kernel_rfl) ?_ _
                      go_wp2
                      go_roundw
                      case rel => exact ⟨k + 1, by omega, by rw [HSL.out], HN5.out _ _ _ P7 K7⟩
                      case measure => simp [intOf]; omega
                    · go_simp
                      obtain ⟨y5, hy5⟩ : ∃ y, y = y3.alloc (.cells #[.int .i64 sl, .int .i64 p.b, .int .i64 c.kind, .int .i64 c.session, .int .i64 c.seq, .string c.name, .int .i64 c.n] 38) := ⟨_, rfl⟩
                      have b5 : Below wr.drew.heap.size wr.drew y5 := by rw [hy5]; exact B3.out.alloc B3.out.size _
                      have r5 : RowAt enC y5 (.slice (some ⟨y3.heap.size, 0, none⟩) 1 1) [(⟨sl, p.b, c⟩ : En)] := by rw [hy5]; exact RowAt.built (heap_alloc_new y3 _) rfl 1 rfl rfl
                      rw [← hy5]
                      obtain ⟨m6, m1⟩ := HY.out y5 b5
                      have B5 : Hid _ := b5
                      have R5 : Hid _ := r5
                      clear b5 r5 hy5
                      refine hK.out _ _ ?_ (fun hHeld => ?_)
                      · try dsimp only
                        assumption
                      clear hK K
                      try simp only [Act.put, List.setIfInBounds_toArray, List.set_cons_zero, List.set_cons_succ]
                      refine cl4 (by kernel_rfl) rfl (fun K hK => ?_)
                      go_simp
                      refine hK.out _ _ ?_ (fun hHeld => ?_)
                      · try dsimp only
                        assumption
                      clear hK K
                      try simp only [Act.put, List.setIfInBounds_toArray, List.set_cons_zero, List.set_cons_succ]
                      refine cl15 (by kernel_rfl) rfl (fun K hK => ?_)
                      refine wp_app_row (k := 7) (enc := enC) (l := [(⟨sl, p.b, c⟩ : En)]) (.tmp 109) (.tmp 119) 30 38 rfl e0 _ 64 Try.underlying30 he hez0 hez1 hez2 rfl (by decide) enC_len enC_one (base := base) rfl rfl (HO3.out y5 B5.out) R5.out (HB5.out y5 B5.out) (by have := HV5.out; simp only [List.length_singleton]; omega) (by have := HV5.out; simp only [List.length_singleton]; omega) ?_
                      intro u6 w6 o6 a6
                      obtain ⟨p6, n6, q6, rfl⟩ := own_form o6
                      obtain ⟨c6, f6, fr6, W7, hW7, fr7, S7, P7, K7⟩ := (HA3.out y5 w6 _ B5.out o6 a6).ex
                      have v1 := HX.out w6 fr6
                      have t1 := P7.out.cell 1 (.int .i64 p.b) rfl
                      clear o6 a6 fr6 fr7
                      refine hK.out _ _ ?_ (fun hHeld => ?_)
                      · try dsimp only
                        assumption
                      clear hK K
                      try simp only [Act.put, List.setIfInBounds_toArray, List.set_cons_zero, List.set_cons_succ]
                      refine tk16 (.pointer (some ⟨X, 0, none⟩)) (by kernel_rfl) (by kernel_rfl) (by kernel_rfl) (fun _ _ _ h => h) rfl (fun w hSw => by (try dsimp only at hSw); have s1 := hSw; go_simp) (by assumption) ?_
                      try simp only [Act.put, List.setIfInBounds_toArray, List.set_cons_zero, List.set_cons_succ]
                      refine tk17 (.pointer (some ⟨X, 6, none⟩)) (by kernel_rfl) (by kernel_rfl) (by kernel_rfl) (fun _ _ _ h => h) rfl (fun w hSw => by (try dsimp only at hSw); have s1 := hSw; go_simp) (by assumption) ?_
                      try simp only [Act.put, List.setIfInBounds_toArray, List.set_cons_zero, List.set_cons_succ]
                      refine cl18 (by kernel_rfl) rfl (fun K hK => ?_)
                      go_simp
                      refine hK.out _ _ ?_ (fun hHeld => ?_)
                      · try dsimp only
                        assumption
                      clear hK K
                      try simp only [Act.put, List.setIfInBounds_toArray, List.set_cons_zero, List.set_cons_succ]
                      refine wpAnyH_done (by kernel_rfl) ?_ _
                      go_wp2
                      go_roundw
                      case rel => exact ⟨k + 1, by omega, by rw [HSL.out], HN5.out _ _ _ P7 K7⟩
                      case measure => simp [intOf]; omega
                · have hkK : k = K := by omega
                  have q1 : decide (sl ≤ last) = false := decide_eq_false (by have := HKL.out; omega)
                  have HV5 : Hid (V.length ≤ 1001) := by show _ ≤ _; have := HVL.out; have := HKL.out; omega
                  have HN5 : Hid (∀ W7 S7 u6, Hid (PrAt W7 base S7 X (valsP (isP (bestP (whoP p (p.who ++ [who])) B)) (V ++ [termE p.b (last + 1)])) b1 b2 u6 b4 l3) → Hid (Kept wr.drew W7 S3 S7) → PrI w W7 base X S (valsP (isP (bestP (whoP p (p.who ++ [who])) B)) (valsR p.b p.f B))) := fun W7 S7 u6 h5 k5 => by
                    have e5 : valsR p.b p.f B = V ++ [termE p.b (last + 1)] := by
                      unfold valsR
                      rw [← HKD.out, ← HLAST.out, hV, HE.out.1, List.nil_append, hkK]
                    rw [e5]
                    exact ⟨⟨_, _, _, _, _, _, h5.out, K3.drew.trans k5.out⟩⟩
                  have HA3 : Hid _ := HA3.out (termE p.b (last + 1))
                  clear P3 K3 hV hsl HVD hkK
                  go_upto_region 20 with fail
                  clear hkl
                  go_cut [6] (fun z wc => z = .bool false ∧ PrI w wc base X S (valsP (isP (bestP (whoP p (p.who ++ [who])) B)) (valsR p.b p.f B)))
                  case first =>
                    refine wp_region_held_drew (S := (fun y : World => y.cell? ⟨X, 1, none⟩ = some (.int .i64 p.b))) (by kernel_rfl) ?_ (fun hHeld0 => ?_)
                    · try dsimp only
                      assumption
                    refine tk0 (.pointer (some ⟨X, 0, none⟩)) (by kernel_rfl) (by kernel_rfl) (by kernel_rfl) (fun _ _ _ h => h) rfl (fun w hSw => by (try dsimp only at hSw); have s1 := hSw; go_simp) (by assumption) ?_
                    try simp only [Act.put, List.setIfInBounds_toArray, List.set_cons_zero, List.set_cons_succ]
                    refine tk1 (.pointer (some ⟨X, 0, none⟩)) (by kernel_rfl) (by kernel_rfl) (by kernel_rfl) (fun _ _ _ h => h) rfl (fun w hSw => by (try dsimp only at hSw); have s1 := hSw; go_simp) (by assumption) ?_
                    try simp only [Act.put, List.setIfInBounds_toArray, List.set_cons_zero, List.set_cons_succ]
                    refine tk2 (.pointer (some ⟨X, 0, none⟩)) (by kernel_rfl) (by kernel_rfl) (by kernel_rfl) (fun _ _ _ h => h) rfl (fun w hSw => by (try dsimp only at hSw); have s1 := hSw; go_simp) (by assumption) ?_
                    try simp only [Act.put, List.setIfInBounds_toArray, List.set_cons_zero, List.set_cons_succ]
                    refine tk3 (.pointer (some ⟨X, 6, none⟩)) (by kernel_rfl) (by kernel_rfl) (by kernel_rfl) (fun _ _ _ h => h) rfl (fun w hSw => by (try dsimp only at hSw); have s1 := hSw; go_simp) (by assumption) ?_
                    try simp only [Act.put, List.setIfInBounds_toArray, List.set_cons_zero, List.set_cons_succ]
                    refine tk5 (.int .i64 last) (by kernel_rfl) (by kernel_rfl) (by kernel_rfl) (fun _ _ _ h => h) rfl (fun w hSw => by (try dsimp only at hSw); have s1 := hSw; go_simp) (by assumption) ?_
                    try simp only [Act.put, List.setIfInBounds_toArray, List.set_cons_zero, List.set_cons_succ]
                    refine tk6 (.int .i64 (last + 1)) (by kernel_rfl) (by kernel_rfl) (by kernel_rfl) (fun _ _ _ h => h) rfl (fun w hSw => by (try dsimp only at hSw); have s1 := hSw; go_simp) (by assumption) ?_
                    try simp only [Act.put, List.setIfInBounds_toArray, List.set_cons_zero, List.set_cons_succ]
                    refine tk7 (.pointer (some ⟨X, 0, none⟩)) (by kernel_rfl) (by kernel_rfl) (by kernel_rfl) (fun _ _ _ h => h) rfl (fun w hSw => by (try dsimp only at hSw); have s1 := hSw; go_simp) (by assumption) ?_
                    try simp only [Act.put, List.setIfInBounds_toArray, List.set_cons_zero, List.set_cons_succ]
                    refine tk8 (.pointer (some ⟨X, 0, none⟩)) (by kernel_rfl) (by kernel_rfl) (by kernel_rfl) (fun _ _ _ h => h) rfl (fun w hSw => by (try dsimp only at hSw); have s1 := hSw; go_simp) (by assumption) ?_
                    try simp only [Act.put, List.setIfInBounds_toArray, List.set_cons_zero, List.set_cons_succ]
                    refine tk9 (.pointer (some ⟨X, 1, none⟩)) (by kernel_rfl) (by kernel_rfl) (by kernel_rfl) (fun _ _ _ h => h) rfl (fun w hSw => by (try dsimp only at hSw); have s1 := hSw; go_simp) (by assumption) ?_
                    try simp only [Act.put, List.setIfInBounds_toArray, List.set_cons_zero, List.set_cons_succ]
                    refine tk10 (.int .i64 p.b) (by kernel_rfl) (by kernel_rfl) (by kernel_rfl) (fun _ _ _ h => h) rfl (fun w hSw => by (try dsimp only at hSw); have s1 := hSw; go_simp) (by assumption) ?_
                    try simp only [Act.put, List.setIfInBounds_toArray, List.set_cons_zero, List.set_cons_succ]
                    refine tk11 (.pointer (some ⟨X, 0, none⟩)) (by kernel_rfl) (by kernel_rfl) (by kernel_rfl) (fun _ _ _ h => h) rfl (fun w hSw => by (try dsimp only at hSw); have s1 := hSw; go_simp) (by assumption) ?_
                    try simp only [Act.put, List.setIfInBounds_toArray, List.set_cons_zero, List.set_cons_succ]
                    refine tk12 (.pointer (some ⟨X, 0, none⟩)) (by kernel_rfl) (by kernel_rfl) (by kernel_rfl) (fun _ _ _ h => h) rfl (fun w hSw => by (try dsimp only at hSw); have s1 := hSw; go_simp) (by assumption) ?_
                    try simp only [Act.put, List.setIfInBounds_toArray, List.set_cons_zero, List.set_cons_succ]
                    refine tk13 (.pointer (some ⟨X, 1, none⟩)) (by kernel_rfl) (by kernel_rfl) (by kernel_rfl) (fun _ _ _ h => h) rfl (fun w hSw => by (try dsimp only at hSw); have s1 := hSw; go_simp) (by assumption) ?_
                    try simp only [Act.put, List.setIfInBounds_toArray, List.set_cons_zero, List.set_cons_succ]
                    refine tk14 (.int .i64 p.b) (by kernel_rfl) (by kernel_rfl) (by kernel_rfl) (fun _ _ _ h => h) rfl (fun w hSw => by (try dsimp only at hSw); have s1 := hSw; go_simp) (by assumption) ?_
                    try simp only [Act.put, List.setIfInBounds_toArray, List.set_cons_zero, List.set_cons_succ]
                    refine tk15 (.agg #[.int .i64 1, .int .i64 0, .int .i64 0, .string ⟨#[]⟩, .int .i64 p.b]) (by kernel_rfl) (by kernel_rfl) (by kernel_rfl) (fun _ _ _ h => h) rfl (fun w hSw => by (try dsimp only at hSw); have s1 := hSw; go_simp) (by assumption) ?_
                    try simp only [Act.put, List.setIfInBounds_toArray, List.set_cons_zero, List.set_cons_succ]
                    refine tk16 (.agg #[.int .i64 (last + 1), .int .i64 p.b, .int .i64 1, .int .i64 0, .int .i64 0, .string ⟨#[]⟩, .int .i64 p.b]) (by kernel_rfl) (by kernel_rfl) (by kernel_rfl) (fun _ _ _ h => h) rfl (fun w hSw => by (try dsimp only at hSw); have s1 := hSw; go_simp) (by assumption) ?_
                    try simp only [Act.put, List.setIfInBounds_toArray, List.set_cons_zero, List.set_cons_succ]
                    refine rd4_17 (by kernel_rfl) rfl rfl (fun K hK => ?_) (fun K hK => ?_)
                    · go_simp
                      refine hK.out _ _ ?_ (fun hHeld => ?_)
                      · try dsimp only
                        assumption
                      clear hK K
                      try simp only [Act.put, List.setIfInBounds_toArray, List.set_cons_zero, List.set_cons_succ]
                      refine cl17 (by kernel_rfl) rfl (fun K hK => ?_)
                      go_simp
                      obtain ⟨y5, hy5⟩ : ∃ y, y = wr.drew.alloc (.cells #[.int .i64 (last + 1), .int .i64 p.b, .int .i64 1, .int .i64 0, .int .i64 0, .string ⟨#[]⟩, .int .i64 p.b] 38) := ⟨_, rfl⟩
                      have b5 : Below wr.drew.heap.size wr.drew y5 := by rw [hy5]; exact (Below.refl _ wr.drew).alloc (Nat.le_refl _) _
                      have r5 : RowAt enC y5 (.slice (some ⟨wr.heap.size, 0, none⟩) 1 1) [termE p.b (last + 1)] := by rw [hy5]; exact RowAt.built (heap_alloc_new wr.drew _) rfl 1 rfl rfl
                      rw [show (wr.alloc (.cells #[.int .i64 (last + 1), .int .i64 p.b, .int .i64 1, .int .i64 0, .int .i64 0, .string ⟨#[]⟩, .int .i64 p.b] 38)).drew = y5 from hy5.symm]
                      obtain ⟨m6, m1⟩ := HY.out y5 b5
                      have B5 : Hid _ := b5
                      have R5 : Hid _ := r5
                      clear b5 r5 hy5
                      refine hK.out _ _ ?_ (fun hHeld => ?_)
                      · try dsimp only
                        assumption
                      clear hK K
                      try simp only [Act.put, List.setIfInBounds_toArray, List.set_cons_zero, List.set_cons_succ]
                      refine cl18 (by kernel_rfl) rfl (fun K hK => ?_)
                      refine wp_app_row (k := 7) (enc := enC) (l := [termE p.b (last + 1)]) (.tmp 127) (.tmp 140) 30 38 rfl e0 _ 64 Try.underlying30 he hez0 hez1 hez2 rfl (by decide) enC_len enC_one (base := base) rfl rfl (HO3.out y5 B5.out) R5.out (HB5.out y5 B5.out) (by have := HV5.out; simp only [List.length_singleton]; omega) (by have := HV5.out; simp only [List.length_singleton]; omega) ?_
                      intro u6 w6 o6 a6
                      obtain ⟨p6, n6, q6, rfl⟩ := own_form o6
                      obtain ⟨c6, f6, fr6, W7, hW7, fr7, S7, P7, K7⟩ := (HA3.out y5 w6 _ B5.out o6 a6).ex
                      have v1 := HX.out w6 fr6
                      have t1 := P7.out.cell 1 (.int .i64 p.b) rfl
                      clear o6 a6 fr6 fr7
                      refine hK.out _ _ ?_ (fun hHeld => ?_)
                      · try dsimp only
                        assumption
                      clear hK K
                      try simp only [Act.put, List.setIfInBounds_toArray, List.set_cons_zero, List.set_cons_succ]
                      refine tk19 (.pointer (some ⟨X, 0, none⟩)) (by kernel_rfl) (by kernel_rfl) (by kernel_rfl) (fun _ _ _ h => h) rfl (fun w hSw => by (try dsimp only at hSw); have s1 := hSw; go_simp) (by assumption) ?_
                      try simp only [Act.put, List.setIfInBounds_toArray, List.set_cons_zero, List.set_cons_succ]
                      refine tk20 (.pointer (some ⟨X, 6, none⟩)) (by kernel_rfl) (by kernel_rfl) (by kernel_rfl) (fun _ _ _ h => h) rfl (fun w hSw => by (try dsimp only at hSw); have s1 := hSw; go_simp) (by assumption) ?_
                      try simp only [Act.put, List.setIfInBounds_toArray, List.set_cons_zero, List.set_cons_succ]
                      refine cl21 (by kernel_rfl) rfl (fun K hK => ?_)
                      go_simp
                      refine hK.out _ _ ?_ (fun hHeld => ?_)
                      · try dsimp only
                        assumption
                      clear hK K
                      try simp only [Act.put, List.setIfInBounds_toArray, List.set_cons_zero, List.set_cons_succ]
                      refine wpAnyH_done (by kernel_rfl) ?_ _
                      go_wp2_with fail
                      go_meet
                      exact ⟨rfl, HN5.out _ _ _ P7 K7⟩
                    · go_simp
                      obtain ⟨y5, hy5⟩ : ∃ y, y = wr.drew.alloc (.cells #[.int .i64 (last + 1), .int .i64 p.b, .int .i64 1, .int .i64 0, .int .i64 0, .string ⟨#[]⟩, .int .i64 p.b] 38) := ⟨_, rfl⟩
                      have b5 : Below wr.drew.heap.size wr.drew y5 := by rw [hy5]; exact (Below.refl _ wr.drew).alloc (Nat.le_refl _) _
                      have r5 : RowAt enC y5 (.slice (some ⟨wr.heap.size, 0, none⟩) 1 1) [termE p.b (last + 1)] := by rw [hy5]; exact RowAt.built (heap_alloc_new wr.drew _) rfl 1 rfl rfl
                      rw [show (wr.alloc (.cells #[.int .i64 (last + 1), .int .i64 p.b, .int .i64 1, .int .i64 0, .int .i64 0, .string ⟨#[]⟩, .int .i64 p.b] 38)).drew = y5 from hy5.symm]
                      obtain ⟨m6, m1⟩ := HY.out y5 b5
                      have B5 : Hid _ := b5
                      have R5 : Hid _ := r5
                      clear b5 r5 hy5
                      refine hK.out _ _ ?_ (fun hHeld => ?_)
                      · try dsimp only
                        assumption
                      clear hK K
                      try simp only [Act.put, List.setIfInBounds_toArray, List.set_cons_zero, List.set_cons_succ]
                      refine cl4 (by kernel_rfl) rfl (fun K hK => ?_)
                      go_simp
                      refine hK.out _ _ ?_ (fun hHeld => ?_)
                      · try dsimp only
                        assumption
                      clear hK K
                      try simp only [Act.put, List.setIfInBounds_toArray, List.set_cons_zero, List.set_cons_succ]
                      refine cl18 (by kernel_rfl) rfl (fun K hK => ?_)
                      refine wp_app_row (k := 7) (enc := enC) (l := [termE p.b (last + 1)]) (.tmp 127) (.tmp 140) 30 38 rfl e0 _ 64 Try.underlying30 he hez0 hez1 hez2 rfl (by decide) enC_len enC_one (base := base) rfl rfl (HO3.out y5 B5.out) R5.out (HB5.out y5 B5.out) (by have := HV5.out; simp only [List.length_singleton]; omega) (by have := HV5.out; simp only [List.length_singleton]; omega) ?_
                      intro u6 w6 o6 a6
                      obtain ⟨p6, n6, q6, rfl⟩ := own_form o6
                      obtain ⟨c6, f6, fr6, W7, hW7, fr7, S7, P7, K7⟩ := (HA3.out y5 w6 _ B5.out o6 a6).ex
                      have v1 := HX.out w6 fr6
                      have t1 := P7.out.cell 1 (.int .i64 p.b) rfl
                      clear o6 a6 fr6 fr7
                      refine hK.out _ _ ?_ (fun hHeld => ?_)
                      · try dsimp only
                        assumption
                      clear hK K
                      try simp only [Act.put, List.setIfInBounds_toArray, List.set_cons_zero, List.set_cons_succ]
                      refine tk19 (.pointer (some ⟨X, 0, none⟩)) (by kernel_rfl) (by kernel_rfl) (by kernel_rfl) (fun _ _ _ h => h) rfl (fun w hSw => by (try dsimp only at hSw); have s1 := hSw; go_simp) (by assumption) ?_
                      try simp only [Act.put, List.setIfInBounds_toArray, List.set_cons_zero, List.set_cons_succ]
                      refine tk20 (.pointer (some ⟨X, 6, none⟩)) (by kernel_rfl) (by kernel_rfl) (by kernel_rfl) (fun _ _ _ h => h) rfl (fun w hSw => by (try dsimp only at hSw); have s1 := hSw; go_simp) (by assumption) ?_
                      try simp only [Act.put, List.setIfInBounds_toArray, List.set_cons_zero, List.set_cons_succ]
                      refine cl21 (by kernel_rfl) rfl (fun K hK => ?_)
                      go_simp
                      refine hK.out _ _ ?_ (fun hHeld => ?_)
                      · try dsimp only
                        assumption
                      clear hK K
                      try simp only [Act.put, List.setIfInBounds_toArray, List.set_cons_zero, List.set_cons_succ]
                      refine wpAnyH_done (by kernel_rfl) ?_ _
                      go_wp2_with fail
                      go_meet
                      exact ⟨rfl, HN5.out _ _ _ P7 K7⟩
                  case rest =>
                    obtain ⟨rfl, hI⟩ := hcut
                    obtain ⟨V2, hV2⟩ : ∃ V2, V2 = valsR p.b p.f B := ⟨_, rfl⟩
                    rw [← hV2] at hI
                    have I4 : Hid _ := hI
                    have HV2 : Hid (V2 = valsR p.b p.f B) := hV2
                    have hv2l : V2.length ≤ 1002 := by
                      have h5 := valsR_length p.b p.f B
                      rw [← HLAST.out, ← hV2] at h5
                      have := HBN.out
                      omega
                    clear hI hV2 HV5 HN5 HA3 HX HB5 HO3 HY HVL HSD n6 n1 q1
                    go_wp2
                    go_loopw [11] (fun i y => ∃ k : Nat, k ≤ V2.length ∧ i = .int .i64 (k : Int) ∧ PrI w y base X S (slP (valsP (isP (bestP (whoP p (p.who ++ [who])) B)) V2) (p.l ++ (V2.take k).map slOf))) (fun i _ => V2.length - (intOf i).toNat)
                    case atStart =>
                      refine ⟨0, Nat.zero_le _, rfl, ?_⟩
                      show PrI w _ base X S (slP _ (p.l ++ []))
                      rw [List.append_nil]
                      exact I4.out
                    case round =>
                      obtain ⟨k, hk, rfl, hI⟩ := hrel
                      obtain ⟨S3, b1, b2, b3, b4, l3, P3, K3⟩ := hI.ex
                      clear hI I4
                      by_cases hkl : k < V2.length
                      · have q1 : decide ((k : Int) < (V2.length : Int)) = true := decide_eq_true (by omega)
                        have ho3 : OwnEn wr base b3 V2 := P3.o3
                        obtain ⟨g3, off, c3, hvv, hcap, hbk, hc⟩ := (OwnEn.row ho3).cells enC_len (by omega)
                        subst hvv
                        have hoff : off = 0 := off_zero ho3
                        subst hoff
                        obtain ⟨pv, qv, e4⟩ := (OwnSv.row P3.o4).form
                        subst e4
                        obtain ⟨x, hx⟩ : ∃ x, x = V2[k] := ⟨_, rfl⟩
                        have z0 := hc k hkl 0 (.int .i64 x.slot) (by decide) (by rw [hx]; rfl)
                        have z1 := hc k hkl 1 (.int .i64 x.ballot) (by decide) (by rw [hx]; rfl)
                        have z2 := hc k hkl 2 (.int .i64 x.cmd.kind) (by decide) (by rw [hx]; rfl)
                        have z3 := hc k hkl 3 (.int .i64 x.cmd.session) (by decide) (by rw [hx]; rfl)
                        have z4 := hc k hkl 4 (.int .i64 x.cmd.seq) (by decide) (by rw [hx]; rfl)
                        have z5 := hc k hkl 5 (.string x.cmd.name) (by decide) (by rw [hx]; rfl)
                        have z6 := hc k hkl 6 (.int .i64 x.cmd.n) (by decide) (by rw [hx]; rfl)
                        rw [Nat.add_zero] at z0
                        rw [Nat.zero_add] at z0 z1 z2 z3 z4 z5 z6
                        have n6 := P3.cell 6 (.slice (some ⟨g3, 0, none⟩) V2.length c3) rfl
                        have n8 := P3.cell 8 (.slice pv l3.length qv) rfl
                        have hl3 : l3.length = k := by
                          have h5 := congrArg List.length P3.sl
                          rw [List.length_map] at h5
                          rw [h5]
                          show (p.l ++ (V2.take k).map slOf).length = k
                          rw [HE.out.2.1, List.nil_append, List.length_map, List.length_take]
                          omega
                        have HV4 : Hid (l3.length ≤ 1002) := by show _ ≤ _; omega
                        have ap3 : Apart (.slice (some ⟨g3, 0, none⟩) V2.length c3) (.slice pv l3.length qv) := own_apart ho3 P3.o4 (by decide)
                        have hg3 : (Value.slice pv l3.length qv).ownBlock ≠ some g3 := fun e => ap3 g3 rfl e
                        have hgX : g3 ≠ X := fun e => P3.n3 (by rw [e]; rfl)
                        have HC7 : ∀ y : World, y.heap[g3]? = wr.drew.heap[g3]? → y.cell? ⟨g3, k * 7, none⟩ = some (.int .i64 x.slot) ∧ y.cell? ⟨g3, k * 7 + 1, none⟩ = some (.int .i64 x.ballot) ∧ y.cell? ⟨g3, k * 7 + 2, none⟩ = some (.int .i64 x.cmd.kind) ∧ y.cell? ⟨g3, k * 7 + 3, none⟩ = some (.int .i64 x.cmd.session) ∧ y.cell? ⟨g3, k * 7 + 4, none⟩ = some (.int .i64 x.cmd.seq) ∧ y.cell? ⟨g3, k * 7 + 5, none⟩ = some (.string x.cmd.name) ∧ y.cell? ⟨g3, k * 7 + 6, none⟩ = some (.int .i64 x.cmd.n) := fun y e => ⟨cell_at e z0, cell_at e z1, cell_at e z2, cell_at e z3, cell_at e z4, cell_at e z5, cell_at e z6⟩
                        have HY : Hid (∀ y : World, Below wr.drew.heap.size wr.drew y → y.cell? ⟨X, 6, none⟩ = some (.slice (some ⟨g3, 0, none⟩) V2.length c3) ∧ y.cell? ⟨g3, k * 7, none⟩ = some (.int .i64 x.slot) ∧ y.cell? ⟨g3, k * 7 + 1, none⟩ = some (.int .i64 x.ballot) ∧ y.cell? ⟨g3, k * 7 + 2, none⟩ = some (.int .i64 x.cmd.kind) ∧ y.cell? ⟨g3, k * 7 + 3, none⟩ = some (.int .i64 x.cmd.session) ∧ y.cell? ⟨g3, k * 7 + 4, none⟩ = some (.int .i64 x.cmd.seq) ∧ y.cell? ⟨g3, k * 7 + 5, none⟩ = some (.string x.cmd.name) ∧ y.cell? ⟨g3, k * 7 + 6, none⟩ = some (.int .i64 x.cmd.n)) := fun y b => ⟨(P3.drew.fresh b).cell 6 _ rfl, HC7 y (b.block g3 hbk)⟩
                        have HY8 : Hid (∀ y : World, Below wr.drew.heap.size wr.drew y → y.cell? ⟨X, 8, none⟩ = some (.slice pv l3.length qv)) := fun y b => (P3.drew.fresh b).cell 8 _ rfl
                        have HO4 : Hid (∀ y, Below wr.drew.heap.size wr.drew y → OwnSv y base (.slice pv l3.length qv) l3) := fun y b => (P3.drew.fresh b).o4
                        have HB5 : Hid (∀ y, Below wr.drew.heap.size wr.drew y → base ≤ y.heap.size) := fun y b => Nat.le_trans (Nat.le_trans P3.lo (Nat.le_of_lt (lt_of_block P3.drew.blk))) b.size
                        have HXX : Hid (∀ w6 : World, (∀ b, b < wr.drew.heap.size → (Value.slice pv l3.length qv).ownBlock ≠ some b → w6.heap[b]? = wr.drew.heap[b]?) → w6.cell? ⟨X, 6, none⟩ = some (.slice (some ⟨g3, 0, none⟩) V2.length c3) ∧ w6.cell? ⟨g3, k * 7, none⟩ = some (.int .i64 x.slot) ∧ w6.cell? ⟨g3, k * 7 + 1, none⟩ = some (.int .i64 x.ballot) ∧ w6.cell? ⟨g3, k * 7 + 2, none⟩ = some (.int .i64 x.cmd.kind) ∧ w6.cell? ⟨g3, k * 7 + 3, none⟩ = some (.int .i64 x.cmd.session) ∧ w6.cell? ⟨g3, k * 7 + 4, none⟩ = some (.int .i64 x.cmd.seq) ∧ w6.cell? ⟨g3, k * 7 + 5, none⟩ = some (.string x.cmd.name) ∧ w6.cell? ⟨g3, k * 7 + 6, none⟩ = some (.int .i64 x.cmd.n)) := fun w6 fr => ⟨cell_at (fr X (lt_of_block P3.drew.blk) P3.drew.n4) (P3.drew.cell 6 _ rfl), HC7 w6 (fr g3 hbk hg3)⟩
                        have HX7 : Hid (∀ w7 : World, (∀ b, b < wr.drew.heap.size → b ≠ X → (Value.slice pv l3.length qv).ownBlock ≠ some b → w7.heap[b]? = wr.drew.heap[b]?) → w7.cell? ⟨g3, k * 7, none⟩ = some (.int .i64 x.slot) ∧ w7.cell? ⟨g3, k * 7 + 1, none⟩ = some (.int .i64 x.ballot) ∧ w7.cell? ⟨g3, k * 7 + 2, none⟩ = some (.int .i64 x.cmd.kind) ∧ w7.cell? ⟨g3, k * 7 + 3, none⟩ = some (.int .i64 x.cmd.session) ∧ w7.cell? ⟨g3, k * 7 + 4, none⟩ = some (.int .i64 x.cmd.seq) ∧ w7.cell? ⟨g3, k * 7 + 5, none⟩ = some (.string x.cmd.name) ∧ w7.cell? ⟨g3, k * 7 + 6, none⟩ = some (.int .i64 x.cmd.n)) := fun w7 fr => HC7 w7 (fr g3 hbk hgX hg3)
                        have HA4 : Hid (∀ y w6 u6, Below wr.drew.heap.size wr.drew y → w6.ownsRow base 69 9 u6 (l3.length + [((slOf x, none, 0, 0) : Sv)].length) (rowL svC l3 ++ rowL svC [((slOf x, none, 0, 0) : Sv)]) → Appended base y w6 (.slice pv l3.length qv) u6 → StoreTo wr.drew w6 base X 8 S3 (.slice pv l3.length qv) u6 (fun W7 S' => PrAt W7 base S' X (slP (valsP (isP (bestP (whoP p (p.who ++ [who])) B)) V2) ((p.l ++ (V2.take k).map slOf) ++ [slOf x])) b1 b2 (.slice (some ⟨g3, 0, none⟩) V2.length c3) u6 (l3 ++ [(slOf x, none, 0, 0)]))) := fun y w6 u6 b o6 a6 => P3.drew.app4 x b o6 a6
                        have HN5 : Hid (∀ W7 S7 u6, Hid (PrAt W7 base S7 X (slP (valsP (isP (bestP (whoP p (p.who ++ [who])) B)) V2) ((p.l ++ (V2.take k).map slOf) ++ [slOf x])) b1 b2 (.slice (some ⟨g3, 0, none⟩) V2.length c3) u6 (l3 ++ [(slOf x, none, 0, 0)])) → Hid (Kept wr.drew W7 S3 S7) → PrI w W7 base X S (slP (valsP (isP (bestP (whoP p (p.who ++ [who])) B)) V2) (p.l ++ (V2.take (k + 1)).map slOf))) := fun W7 S7 u6 h5 k5 => by
                          have e5 : p.l ++ (V2.take (k + 1)).map slOf = (p.l ++ (V2.take k).map slOf) ++ [slOf x] := by
                            rw [List.take_add_one, List.getElem?_eq_getElem hkl, ← hx, List.map_append, List.append_assoc]
                            rfl
                          rw [e5]
                          exact ⟨⟨_, _, _, _, _, _, h5.out, K3.drew.trans k5.out⟩⟩
                        clear P3 K3 hc hx ho3 hl3 ap3 hg3 hgX HC7
                        go_upto_region 24 with fail
                        refine wp_region_held_drew (S := (fun y : World => y.cell? ⟨X, 6, none⟩ = some (.slice (some ⟨g3, 0, none⟩) V2.length c3) ∧ y.cell? ⟨g3, k * 7, none⟩ = some (.int .i64 x.slot) ∧ y.cell? ⟨g3, k * 7 + 1, none⟩ = some (.int .i64 x.ballot) ∧ y.cell? ⟨g3, k * 7 + 2, none⟩ = some (.int .i64 x.cmd.kind) ∧ y.cell? ⟨g3, k * 7 + 3, none⟩ = some (.int .i64 x.cmd.session) ∧ y.cell? ⟨g3, k * 7 + 4, none⟩ = some (.int .i64 x.cmd.seq) ∧ y.cell? ⟨g3, k * 7 + 5, none⟩ = some (.string x.cmd.name) ∧ y.cell? ⟨g3, k * 7 + 6, none⟩ = some (.int .i64 x.cmd.n))) (by kernel_rfl) ?_ (fun hHeld0 => ?_)
                        · try dsimp only
                          exact ⟨by assumption, by assumption, by assumption, by assumption, by assumption, by assumption, by assumption, by assumption⟩
                        refine tk0 (.pointer (some ⟨X, 0, none⟩)) (by kernel_rfl) (by kernel_rfl) (by kernel_rfl) (fun _ _ _ h => h) rfl (fun w hSw => by (try dsimp only at hSw); obtain ⟨s6, z0, z1, z2, z3, z4, z5, z6⟩ := hSw; go_simp) (by assumption) ?_
                        try simp only [Act.put, List.setIfInBounds_toArray, List.set_cons_zero, List.set_cons_succ]
                        refine tk1 (.pointer (some ⟨X, 0, none⟩)) (by kernel_rfl) (by kernel_rfl) (by kernel_rfl) (fun _ _ _ h => h) rfl (fun w hSw => by (try dsimp only at hSw); obtain ⟨s6, z0, z1, z2, z3, z4, z5, z6⟩ := hSw; go_simp) (by assumption) ?_
                        try simp only [Act.put, List.setIfInBounds_toArray, List.set_cons_zero, List.set_cons_succ]
                        refine tk2 (.pointer (some ⟨X, 0, none⟩)) (by kernel_rfl) (by kernel_rfl) (by kernel_rfl) (fun _ _ _ h => h) rfl (fun w hSw => by (try dsimp only at hSw); obtain ⟨s6, z0, z1, z2, z3, z4, z5, z6⟩ := hSw; go_simp) (by assumption) ?_
                        try simp only [Act.put, List.setIfInBounds_toArray, List.set_cons_zero, List.set_cons_succ]
                        refine tk3 (.pointer (some ⟨X, 8, none⟩)) (by kernel_rfl) (by kernel_rfl) (by kernel_rfl) (fun _ _ _ h => h) rfl (fun w hSw => by (try dsimp only at hSw); obtain ⟨s6, z0, z1, z2, z3, z4, z5, z6⟩ := hSw; go_simp) (by assumption) ?_
                        try simp only [Act.put, List.setIfInBounds_toArray, List.set_cons_zero, List.set_cons_succ]
                        refine tk5 (.pointer (some ⟨X, 0, none⟩)) (by kernel_rfl) (by kernel_rfl) (by kernel_rfl) (fun _ _ _ h => h) rfl (fun w hSw => by (try dsimp only at hSw); obtain ⟨s6, z0, z1, z2, z3, z4, z5, z6⟩ := hSw; go_simp) (by assumption) ?_
                        try simp only [Act.put, List.setIfInBounds_toArray, List.set_cons_zero, List.set_cons_succ]
                        refine tk6 (.pointer (some ⟨X, 0, none⟩)) (by kernel_rfl) (by kernel_rfl) (by kernel_rfl) (fun _ _ _ h => h) rfl (fun w hSw => by (try dsimp only at hSw); obtain ⟨s6, z0, z1, z2, z3, z4, z5, z6⟩ := hSw; go_simp) (by assumption) ?_
                        try simp only [Act.put, List.setIfInBounds_toArray, List.set_cons_zero, List.set_cons_succ]
                        refine tk7 (.pointer (some ⟨X, 6, none⟩)) (by kernel_rfl) (by kernel_rfl) (by kernel_rfl) (fun _ _ _ h => h) rfl (fun w hSw => by (try dsimp only at hSw); obtain ⟨s6, z0, z1, z2, z3, z4, z5, z6⟩ := hSw; go_simp) (by assumption) ?_
                        try simp only [Act.put, List.setIfInBounds_toArray, List.set_cons_zero, List.set_cons_succ]
                        refine tk8 (.slice (some ⟨g3, 0, none⟩) V2.length c3) (by kernel_rfl) (by kernel_rfl) (by kernel_rfl) (fun _ _ _ h => h) rfl (fun w hSw => by (try dsimp only at hSw); obtain ⟨s6, z0, z1, z2, z3, z4, z5, z6⟩ := hSw; go_simp) (by assumption) ?_
                        try simp only [Act.put, List.setIfInBounds_toArray, List.set_cons_zero, List.set_cons_succ]
                        refine tk9 (.int .i64 (k : Int)) (by kernel_rfl) (by kernel_rfl) (by kernel_rfl) (fun _ _ _ h => h) rfl (fun w hSw => by (try dsimp only at hSw); obtain ⟨s6, z0, z1, z2, z3, z4, z5, z6⟩ := hSw; go_simp) (by assumption) ?_
                        try simp only [Act.put, List.setIfInBounds_toArray, List.set_cons_zero, List.set_cons_succ]
                        refine tk10 (.pointer (some ⟨g3, k * 7, none⟩)) (by kernel_rfl) (by kernel_rfl) (by kernel_rfl) (fun _ _ _ h => h) rfl (fun w hSw => by (try dsimp only at hSw); obtain ⟨s6, z0, z1, z2, z3, z4, z5, z6⟩ := hSw; go_simp) (by assumption) ?_
                        try simp only [Act.put, List.setIfInBounds_toArray, List.set_cons_zero, List.set_cons_succ]
                        refine tk11 (.agg #[.int .i64 x.slot, .int .i64 x.ballot, .int .i64 x.cmd.kind, .int .i64 x.cmd.session, .int .i64 x.cmd.seq, .string x.cmd.name, .int .i64 x.cmd.n]) (by kernel_rfl) (by kernel_rfl) (by kernel_rfl) (fun _ _ _ h => h) rfl (fun w hSw => by (try dsimp only at hSw); obtain ⟨s6, z0, z1, z2, z3, z4, z5, z6⟩ := hSw; go_simp) (by assumption) ?_
                        try simp only [Act.put, List.setIfInBounds_toArray, List.set_cons_zero, List.set_cons_succ]
                        refine tk12 (.agg #[.int .i64 x.slot, .int .i64 x.ballot, .int .i64 x.cmd.kind, .int .i64 x.cmd.session, .int .i64 x.cmd.seq, .string x.cmd.name, .int .i64 x.cmd.n, .slice none 0 0, .bool false]) (by kernel_rfl) (by kernel_rfl) (by kernel_rfl) (fun _ _ _ h => h) rfl (fun w hSw => by (try dsimp only at hSw); obtain ⟨s6, z0, z1, z2, z3, z4, z5, z6⟩ := hSw; go_simp) (by assumption) ?_
                        try simp only [Act.put, List.setIfInBounds_toArray, List.set_cons_zero, List.set_cons_succ]
                        refine rd4_13 (by kernel_rfl) rfl rfl (fun K hK => ?_) (fun K hK => ?_)
                        · go_simp
                          refine hK.out _ _ ?_ (fun hHeld => ?_)
                          · try dsimp only
                            exact ⟨by assumption, by assumption, by assumption, by assumption, by assumption, by assumption, by assumption, by assumption⟩
                          clear hK K
                          try simp only [Act.put, List.setIfInBounds_toArray, List.set_cons_zero, List.set_cons_succ]
                          refine cl13 (by kernel_rfl) rfl (fun K hK => ?_)
                          go_simp
                          obtain ⟨y5, hy5⟩ : ∃ y, y = wr.drew.alloc (.cells #[.int .i64 x.slot, .int .i64 x.ballot, .int .i64 x.cmd.kind, .int .i64 x.cmd.session, .int .i64 x.cmd.seq, .string x.cmd.name, .int .i64 x.cmd.n, .slice none 0 0, .bool false] 69) := ⟨_, rfl⟩
                          have b5 : Below wr.drew.heap.size wr.drew y5 := by rw [hy5]; exact (Below.refl _ wr.drew).alloc (Nat.le_refl _) _
                          have r5 : RowAt svC y5 (.slice (some ⟨wr.heap.size, 0, none⟩) 1 1) [((slOf x, none, 0, 0) : Sv)] := by rw [hy5]; exact RowAt.built (heap_alloc_new wr.drew _) rfl 1 rfl rfl
                          rw [show (wr.alloc (.cells #[.int .i64 x.slot, .int .i64 x.ballot, .int .i64 x.cmd.kind, .int .i64 x.cmd.session, .int .i64 x.cmd.seq, .string x.cmd.name, .int .i64 x.cmd.n, .slice none 0 0, .bool false] 69)).drew = y5 from hy5.symm]
                          obtain ⟨m6, m0, m1, m2, m3, m4, m5, m7⟩ := HY.out y5 b5
                          have m8 := HY8.out y5 b5
                          have B5 : Hid _ := b5
                          have R5 : Hid _ := r5
                          clear b5 r5 hy5
                          refine hK.out _ _ ?_ (fun hHeld => ?_)
                          · try dsimp only
                            exact ⟨by assumption, by assumption, by assumption, by assumption, by assumption, by assumption, by assumption, by assumption⟩
                          clear hK K
                          try simp only [Act.put, List.setIfInBounds_toArray, List.set_cons_zero, List.set_cons_succ]
                          refine cl14 (by kernel_rfl) rfl (fun K hK => ?_)
                          refine wp_app_row (k := 9) (enc := svC) (l := [((slOf x, none, 0, 0) : Sv)]) (.tmp 157) (.tmp 166) 42 69 rfl v0 _ 96 Try.underlying42 hv hvz0 hvz1 hvz2 rfl (by decide) svC_len svC_one (base := base) rfl rfl (HO4.out y5 B5.out) R5.out (HB5.out y5 B5.out) (by have := HV4.out; simp only [List.length_singleton]; omega) (by have := HV4.out; simp only [List.length_singleton]; omega) ?_
                          intro u6 w6 o6 a6
                          obtain ⟨p6, n6, q6, rfl⟩ := own_form o6
                          obtain ⟨c8, f8, fr6, W7, hW7, fr7, S7, P7, K7⟩ := (HA4.out y5 w6 _ B5.out o6 a6).ex
                          obtain ⟨j6, j0, j1, j2, j3, j4, j5, j7⟩ := HXX.out w6 fr6
                          obtain ⟨i0, i1, i2, i3, i4, i5, i7⟩ := HX7.out W7 fr7
                          have i6 := P7.out.cell 6 (.slice (some ⟨g3, 0, none⟩) V2.length c3) rfl
                          clear o6 a6 fr6 fr7
                          refine hK.out _ _ ?_ (fun hHeld => ?_)
                          · try dsimp only
                            exact ⟨by assumption, by assumption, by assumption, by assumption, by assumption, by assumption, by assumption, by assumption⟩
                          clear hK K
                          try simp only [Act.put, List.setIfInBounds_toArray, List.set_cons_zero, List.set_cons_succ]
                          refine tk15 (.pointer (some ⟨X, 0, none⟩)) (by kernel_rfl) (by kernel_rfl) (by kernel_rfl) (fun _ _ _ h => h) rfl (fun w hSw => by (try dsimp only at hSw); obtain ⟨s6, z0, z1, z2, z3, z4, z5, z6⟩ := hSw; go_simp) (by assumption) ?_
                          try simp only [Act.put, List.setIfInBounds_toArray, List.set_cons_zero, List.set_cons_succ]
                          refine tk16 (.pointer (some ⟨X, 8, none⟩)) (by kernel_rfl) (by kernel_rfl) (by kernel_rfl) (fun _ _ _ h => h) rfl (fun w hSw => by (try dsimp only at hSw); obtain ⟨s6, z0, z1, z2, z3, z4, z5, z6⟩ := hSw; go_simp) (by assumption) ?_
                          try simp only [Act.put, List.setIfInBounds_toArray, List.set_cons_zero, List.set_cons_succ]
                          refine cl17 (by kernel_rfl) rfl (fun K hK => ?_)
                          go_simp
                          refine hK.out _ _ ?_ (fun hHeld => ?_)
                          · try dsimp only
                            exact ⟨by assumption, by assumption, by assumption, by assumption, by assumption, by assumption, by assumption, by assumption⟩
                          clear hK K
                          try simp only [Act.put, List.setIfInBounds_toArray, List.set_cons_zero, List.set_cons_succ]
                          refine wpAnyH_done (by kernel_rfl) ?_ _
                          go_wp2
                          go_roundw
                          case rel => exact ⟨k + 1, by omega, by go_num, HN5.out _ _ _ P7 K7⟩
                          case measure => simp [intOf]; omega
                        · go_simp
                          obtain ⟨y5, hy5⟩ : ∃ y, y = wr.drew.alloc (.cells #[.int .i64 x.slot, .int .i64 x.ballot, .int .i64 x.cmd.kind, .int .i64 x.cmd.session, .int .i64 x.cmd.seq, .string x.cmd.name, .int .i64 x.cmd.n, .slice none 0 0, .bool false] 69) := ⟨_, rfl⟩
                          have b5 : Below wr.drew.heap.size wr.drew y5 := by rw [hy5]; exact (Below.refl _ wr.drew).alloc (Nat.le_refl _) _
                          have r5 : RowAt svC y5 (.slice (some ⟨wr.heap.size, 0, none⟩) 1 1) [((slOf x, none, 0, 0) : Sv)] := by rw [hy5]; exact RowAt.built (heap_alloc_new wr.drew _) rfl 1 rfl rfl
                          rw [show (wr.alloc (.cells #[.int .i64 x.slot, .int .i64 x.ballot, .int .i64 x.cmd.kind, .int .i64 x.cmd.session, .int .i64 x.cmd.seq, .string x.cmd.name, .int .i64 x.cmd.n, .slice none 0 0, .bool false] 69)).drew = y5 from hy5.symm]
                          obtain ⟨m6, m0, m1, m2, m3, m4, m5, m7⟩ := HY.out y5 b5
                          have m8 := HY8.out y5 b5
                          have B5 : Hid _ := b5
                          have R5 : Hid _ := r5
                          clear b5 r5 hy5
                          refine hK.out _ _ ?_ (fun hHeld => ?_)
                          · try dsimp only
                            exact ⟨by assumption, by assumption, by assumption, by assumption, by assumption, by assumption, by assumption, by assumption⟩
                          clear hK K
                          try simp only [Act.put, List.setIfInBounds_toArray, List.set_cons_zero, List.set_cons_succ]
                          refine cl4 (by kernel_rfl) rfl (fun K hK => ?_)
                          go_simp
                          refine hK.out _ _ ?_ (fun hHeld => ?_)
                          · try dsimp only
                            exact ⟨by assumption, by assumption, by assumption, by assumption, by assumption, by assumption, by assumption, by assumption⟩
                          clear hK K
                          try simp only [Act.put, List.setIfInBounds_toArray, List.set_cons_zero, List.set_cons_succ]
                          refine cl14 (by kernel_rfl) rfl (fun K hK => ?_)
                          refine wp_app_row (k := 9) (enc := svC) (l := [((slOf x, none, 0, 0) : Sv)]) (.tmp 157) (.tmp 166) 42 69 rfl v0 _ 96 Try.underlying42 hv hvz0 hvz1 hvz2 rfl (by decide) svC_len svC_one (base := base) rfl rfl (HO4.out y5 B5.out) R5.out (HB5.out y5 B5.out) (by have := HV4.out; simp only [List.length_singleton]; omega) (by have := HV4.out; simp only [List.length_singleton]; omega) ?_
                          intro u6 w6 o6 a6
                          obtain ⟨p6, n6, q6, rfl⟩ := own_form o6
                          obtain ⟨c8, f8, fr6, W7, hW7, fr7, S7, P7, K7⟩ := (HA4.out y5 w6 _ B5.out o6 a6).ex
                          obtain ⟨j6, j0, j1, j2, j3, j4, j5, j7⟩ := HXX.out w6 fr6
                          obtain ⟨i0, i1, i2, i3, i4, i5, i7⟩ := HX7.out W7 fr7
                          have i6 := P7.out.cell 6 (.slice (some ⟨g3, 0, none⟩) V2.length c3) rfl
                          clear o6 a6 fr6 fr7
                          refine hK.out _ _ ?_ (fun hHeld => ?_)
                          · try dsimp only
                            exact ⟨by assumption, by assumption, by assumption, by assumption, by assumption, by assumption, by assumption, by assumption⟩
                          clear hK K
                          try simp only [Act.put, List.setIfInBounds_toArray, List.set_cons_zero, List.set_cons_succ]
                          refine tk15 (.pointer (some ⟨X, 0, none⟩)) (by kernel_rfl) (by kernel_rfl) (by kernel_rfl) (fun _ _ _ h => h) rfl (fun w hSw => by (try dsimp only at hSw); obtain ⟨s6, z0, z1, z2, z3, z4, z5, z6⟩ := hSw; go_simp) (by assumption) ?_
                          try simp only [Act.put, List.setIfInBounds_toArray, List.set_cons_zero, List.set_cons_succ]
                          refine tk16 (.pointer (some ⟨X, 8, none⟩)) (by kernel_rfl) (by kernel_rfl) (by kernel_rfl) (fun _ _ _ h => h) rfl (fun w hSw => by (try dsimp only at hSw); obtain ⟨s6, z0, z1, z2, z3, z4, z5, z6⟩ := hSw; go_simp) (by assumption) ?_
                          try simp only [Act.put, List.setIfInBounds_toArray, List.set_cons_zero, List.set_cons_succ]
                          refine cl17 (by kernel_rfl) rfl (fun K hK => ?_)
                          go_simp
                          refine hK.out _ _ ?_ (fun hHeld => ?_)
                          · try dsimp only
                            exact ⟨by assumption, by assumption, by assumption, by assumption, by assumption, by assumption, by assumption, by assumption⟩
                          clear hK K
                          try simp only [Act.put, List.setIfInBounds_toArray, List.set_cons_zero, List.set_cons_succ]
                          refine wpAnyH_done (by kernel_rfl) ?_ _
                          go_wp2
                          go_roundw
                          case rel => exact ⟨k + 1, by omega, by go_num, HN5.out _ _ _ P7 K7⟩
                          case measure => simp [intOf]; omega
                      · have q1 : decide ((k : Int) < (V2.length : Int)) = false := decide_eq_false (by omega)
                        rw [List.take_of_length_le (by omega)] at P3
                        obtain ⟨pz, qz, e3⟩ := (OwnEn.row P3.o3).form
                        have e3' : b3 = .slice pz V2.length qz := e3
                        subst e3'
                        clear e3
                        have n6 := P3.cell 6 (.slice pz V2.length qz) rfl
                        obtain ⟨W9, hW9⟩ : ∃ W9, wr.setCell ⟨X, 7, none⟩ (.int .i64 (last + 2)) = W9 := ⟨_, rfl⟩
                        have x7 := P3.cell 7 (.int .i64 p.next) rfl
                        have f7 := P3.fz 7
                        obtain ⟨P9, K9⟩ := P3.num (i := 7) (u := .int .i64 (last + 2)) (p' := nextP (slP (valsP (isP (bestP (whoP p (p.who ++ [who])) B)) V2) (p.l ++ V2.map slOf)) (last + 2)) rfl rfl rfl rfl rfl
                        rw [hW9] at P9 K9
                        have e9 : readyP (countP p who es) = nextP (slP (valsP (isP (bestP (whoP p (p.who ++ [who])) B)) V2) (p.l ++ V2.map slOf)) (last + 2) := by
                          show Pp.mk p.n p.b p.f (p.who ++ [who]) (insA p.f p.best es) true (p.vals ++ valsR p.b p.f (insA p.f p.best es)) (lastS (p.f - 1) (insA p.f p.best es) + 2) (p.l ++ (p.vals ++ valsR p.b p.f (insA p.f p.best es)).map slOf) = Pp.mk p.n p.b p.f (p.who ++ [who]) B true V2 (last + 2) (p.l ++ V2.map slOf)
                          rw [HE.out.1, List.nil_append, ← HBD.out, ← HV2.out, ← HLAST.out]
                        have HFIN : Hid (PrPost w base S X (promP m p who es).1 (.bool (promP m p who es).2) (.returned (.bool true)) W9) := by
                          show PrPost _ _ _ _ _ _ _ _
                          rw [HR.out]
                          show PrPost _ _ _ _ (readyP (countP p who es)) _ _ _
                          rw [e9]
                          exact ⟨_, rfl, ⟨_, _, _, _, _, P9⟩, K3.trans K9⟩
                        clear P3 K3 P9 K9 e9 HR
                        go_wp2
                        go_ret
                        exact HFIN.out
end
end Go.Proofs.Ytmlgoecdefeapaa
