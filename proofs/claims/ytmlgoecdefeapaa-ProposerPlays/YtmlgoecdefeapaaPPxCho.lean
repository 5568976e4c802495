/-
  Package proposer: a slot is chosen, as the document's plain data. The conditions: those of PxTop.
-/
import Derived.Test.YtmlgoecdefeapaaPPxWithout
import Derived.Test.YtmlgoecdefeapaaPPxProp
namespace Go.Proofs.Ytmlgoecdefeapaa
open Go.RowKit

theorem delM_sub {κ α β : Type} [DecidableEq κ] (l : List (κ × α)) (s : κ) (f : κ × α → β) : ((delM l s).map f).Sublist (l.map f) := by
  unfold delM
  exact List.Sublist.map f List.filter_sublist
section
variable {w w' : World} {base X : Nat} {S : Nat → Prop} {n b f : Int} {is : Bool} {p : Px} {mp : Option Nat} {mb ma : Nat} {v : Value}
/-- A slot's set struck. -/
theorem PxAt.delA (h : PxAt w base X S n b f is p mp mb ma v) {s : Int} (ha : mAcc.At w' ma (delM p.acc s)) (gr : w.grownBy w' (some ma)) :
    ∃ S', PxAt w' base X S' n b f is ⟨p.who, p.best, p.vf, p.vl, p.last, p.rows, delM p.acc s⟩ mp mb ma v ∧ Kept w w' S S' := by
  have nd := h.nd
  have nd' := h.nd
  simp only [mapsP, List.nodup_cons, List.mem_cons, not_or] at nd
  have hsub : (mapsP ⟨p.who, p.best, p.vf, p.vl, p.last, p.rows, delM p.acc s⟩ mp mb ma).Sublist (mapsP p mp mb ma) := by
    unfold mapsP
    exact ((List.Sublist.append_left (delM_sub _ _ _) _).cons_cons _).cons_cons _
  have hs : ∀ g, g < w.heap.size → g ≠ ma → w'.heap[g]? = w.heap[g]? := fun g hg hn => gr.block g hg (fun e => hn (Option.some.inj e))
  refine ⟨fun g => g = X ∨ v.ownBlock = some g ∨ g ∈ mapsP ⟨p.who, p.best, p.vf, p.vl, p.last, p.rows, delM p.acc s⟩ mp mb ma, ⟨(hs X (h.bd X h.inX) (fun e => h.neX (g := ma) (by simp [mapsP]) e.symm)).trans h.blk, fun M e => (h.prom M e).keep (hs M (h.bd M (h.inP e)) (fun e2 => nd.2.1 (by rw [← e2]; simp [e]))), h.best.keep (hs mb (h.bd mb h.inB) (fun e => nd.1.1 e)), ha, fun x hx => ?_, own_keep h.rows fun g e => hs g (h.bd g (h.inV e)) (fun e2 => h.neV (g := ma) (by simp [mapsP]) (by rw [e, e2])), nd'.sublist hsub, fun g hg => ?_, fun _ => Iff.rfl⟩, gr.os, gr.tape, gr.output, gr.size, fun g hg => ?_, fun g hg hn => hs g hg (fun e => hn (by rw [e]; exact h.inA))⟩
  · have hx' := (delM_mem.1 hx).1
    exact (h.sets x hx').keep (hs _ (h.bd _ (h.inS hx')) (fun e => nd.2.1 (by rw [← e]; exact List.mem_append.2 (Or.inr (List.mem_map.2 ⟨x, hx', rfl⟩)))))
  · rcases hg with e | e | e
    · rw [e]; exact h.lo X h.inX
    · exact h.lo g (h.inV e)
    · exact h.lo g ((h.set g).2 (Or.inr (Or.inr (hsub.subset e))))
  · rcases hg with e | e | e
    · exact Or.inl (by rw [e]; exact h.inX)
    · exact Or.inl (h.inV e)
    · exact Or.inl ((h.set g).2 (Or.inr (Or.inr (hsub.subset e))))
/-- The rows laid anew in the proposer's cell. -/
theorem PxAt.laid {v' : Value} {rows' : List (Int × Int)} (h : PxAt w base X S n b f is p mp mb ma v) (h5 : RoPost w base v rows' (.returned v') w') :
    w'.cell? ⟨X, 9, none⟩ = some v ∧ w'.frozen? ⟨X, 9, none⟩ = false ∧ ∃ S', PxAt (w'.setCell ⟨X, 9, none⟩ v') base X S' n b f is ⟨p.who, p.best, p.vf, p.vl, p.last, rows', p.acc⟩ mp mb ma v' ∧ Kept w (w'.setCell ⟨X, 9, none⟩ v') S S' := by
  obtain ⟨v5, e5, o5, t5, n5, k5⟩ := h5.ex
  cases e5
  have bx : w'.heap[X]? = some (.cells (pxA n b f is p mp mb ma v) 63 (0, 0)) := (k5 X (h.bd X h.inX) h.neVX).trans h.blk
  obtain ⟨W6, hW6⟩ : ∃ W6, W6 = w'.setCell ⟨X, 9, none⟩ v' := ⟨_, rfl⟩
  refine ⟨by simp [World.cell?, bx], by simp [World.frozen?, bx], ?_⟩
  rw [← hW6]
  have bx6 : W6.heap[X]? = some (.cells (pxA n b f is ⟨p.who, p.best, p.vf, p.vl, p.last, rows', p.acc⟩ mp mb ma v') 63 (0, 0)) := by
    rw [hW6, heap_setCell_same w' X 9 _ _ _ bx]
    rfl
  have s6 : ∀ g, g ≠ X → W6.heap[g]? = w'.heap[g]? := fun g hg => by rw [hW6]; exact heap_setCell_other _ _ _ _ hg
  have z6 : W6.heap.size = w'.heap.size := by rw [hW6]; simp
  have o6 : OwnRo W6 base v' rows' := own_keep o5 fun g e => s6 g (fun e2 => by
    rcases n5 g e with e3 | e3
    · exact h.neVX (by rw [e3, e2])
    · have := h.bd X h.inX
      omega)
  have p6 := h.setV bx6 o6 (fun g hg => (s6 g (h.neX hg)).trans (k5 g (by obtain ⟨es, cc, hb⟩ := h.mapAt hg; exact lt_of_block hb) (h.neV hg)))
  refine ⟨_, p6, (by rw [hW6]; exact t5.1), (by rw [hW6]; exact t5.2.1), (by rw [hW6]; exact t5.2.2.1), (by rw [z6]; exact t5.2.2.2), fun g hg => ?_, fun g hg hn => ?_⟩
  · rcases hg with e | e | e
    · exact Or.inl (by rw [e]; exact h.inX)
    · rcases n5 g e with e3 | e3
      · exact Or.inl (h.inV e3)
      · exact Or.inr e3
    · exact Or.inl ((h.set g).2 (Or.inr (Or.inr e)))
  · exact (s6 g (fun e => hn (by rw [e]; exact h.inX))).trans (k5 g hg (fun e => hn (h.inV e)))
end
section
variable {w : World} {base X : Nat} {S : Nat → Prop} {q : Pp}
theorem PS.choN (_ : PS w base X S q) (s : Int) {p : Px} (_ : q.is = true) (hr : RelR q p) (hs : s ∉ rowsS p.rows) : choP q s = q :=
  choP_same fun x hx e => hs (by rw [← hr.slots, ← e]; exact List.mem_map.2 ⟨x, hx, rfl⟩)
set_option maxHeartbeats 6400000 in
set_option maxRecDepth 100000 in
theorem pcho_any (h : PS w base X S q) (hl : Lim q) (s : Int) (hs : inI s) : Calls Try.prog 17 #[.pointer (some ⟨X, 0, none⟩), .int .i64 s] w (PPost w base X S (choP q s) (.tuple #[])) := by
  have HPS : Hid _ := h
  have HR : Hid _ := pready_any h
  have h0 := h
  obtain ⟨p, mp, mb, ma, v, h, hR, hM⟩ := h.ex
  by_cases hi : q.is = true
  · rw [hi] at HR
    have hr := hR.ready hi
    obtain ⟨r1, r2, r3, r4⟩ := hr.few hl hi
    obtain ⟨va, vc, ev⟩ := h.form
    have c9 := h.cell 9 v rfl
    have HH : Hid _ := phasR_any (s := s) hr.up (fun r hr' => (hr.ok r hr').2.1) (by omega) (OwnRo.row h.rows)
    by_cases hso : s ∈ rowsS p.rows
    · rw [decide_eq_true hso] at HH
      have hbase : base ≤ w.heap.size := by
        have a1 := h.lo X h.inX
        have a2 := h.bd X h.inX
        omega
      have hs2 : -4611686018427387904 ≤ s ∧ s ≤ 4611686018427387904 := by
        obtain ⟨r, hr1, a, b⟩ := rowsS_mem (fun r hr' => (hr.ok r hr').2.1) hso
        have := hr.ok r hr1
        have a2 := hr.vl
        have a3 := hr.last
        have a4 := hl.next hi
        have a5 := hl.lo
        have a6 := hl.hi
        omega
      have HWO : Hid (∀ w2, Below w.heap.size w w2 → ∃ k, ∃ hk : k < p.rows.length, p.rows[k].1 ≤ s ∧ s ≤ p.rows[k].2 ∧ Calls Try.prog 37 #[v, .int .i64 s] w2 (RoPost w2 base v (withoutR p.rows k s))) := fun w2 b => pwithout_any (h.fresh b).rows (Nat.le_trans hbase b.size) (by omega) hr.up (fun r hr' => (hr.ok r hr').2.1) hso hs2.1 hs2.2
      have HP2 : Hid (∀ w2, Below w.heap.size w w2 → PxAt w2 base X S q.n q.b q.f q.is p mp mb ma v ∧ w2.cell? ⟨X, 9, none⟩ = some v) := fun w2 b => ⟨h.fresh b, (h.fresh b).cell 9 v rfl⟩
      have HRL : Hid (∀ k (hk : k < p.rows.length), p.rows[k].1 ≤ s → s ≤ p.rows[k].2 → Rel (choP q s) (choX p k s)) := fun k hk a b => rel_cho hi hR hk a b
      have HV : Hid _ := ev
      have e0 : (choP q s).n = q.n ∧ (choP q s).b = q.b ∧ (choP q s).f = q.f ∧ (choP q s).is = q.is := ⟨rfl, rfl, rfl, rfl⟩
      have HFI : Hid (∀ k w9 S9 mp mb ma v9, Rel (choP q s) (choX p k s) → PxAt w9 base X S9 q.n q.b q.f q.is (choX p k s) mp mb ma v9 → Kept w w9 S S9 → PPost w base X S (choP q s) (.tuple #[]) (.returned (.tuple #[])) w9) := fun k w9 S9 mp mb ma v9 hrl h9 k9 =>
        ⟨S9, rfl, ⟨choX p k s, mp, mb, ma, v9, h9, hrl, fun h2 => by rw [show (choP q s).is = q.is from rfl, hi] at h2; cases h2⟩, k9⟩
      clear h hR hM hl hr r1 r2 r3 r4 ev hbase hs2 e0 h0
      go_enter Try.func17, Try.ntmps17
      go_upto_region 1 with (first
        | (go_at_call 33; refine Calls.mono HH.out ?_; rintro r w2 ⟨rfl, b2⟩)
        | (go_at_call 19; refine Calls.mono HR.out ?_; rintro r w1 ⟨rfl, hw1⟩; rw [hw1]; clear hw1))
      obtain ⟨k, hk, q1, q2, HC⟩ := HWO.out w2 b2
      obtain ⟨P2, d9⟩ := HP2.out w2 b2
      have HRk : Hid _ := HRL.out k hk q1 q2
      have HC2 : Hid _ := HC
      have HP : Hid _ := P2
      have B2 : Hid _ := b2
      clear HWO HP2 HRL HC P2 q1 q2 HH HR c9 b2
      go_upto_region 2 with (go_at_call 37; refine Calls.mono HC2.out ?_; intro r w5 h5; obtain ⟨v5, e5, o5, _⟩ := h5.ex; obtain ⟨va5, vn5, vc5, ev5⟩ := own_form o5; subst ev5; subst e5; clear o5; obtain ⟨g9, f9, S6, p6, k6⟩ := HP.out.laid h5; have P6 : Hid _ := p6; have K6 : Hid _ := k6; clear p6 k6 h5)
      obtain ⟨W6, hW6⟩ : ∃ W6, W6 = w5.setCell ⟨X, 9, none⟩ (.slice va5 vn5 vc5) := ⟨_, rfl⟩
      rw [← hW6] at P6 K6 ⊢
      obtain ⟨W7, e7, a7, g7, z7⟩ := MapOf.del mAcc_is P6.out.acc hs 0
      obtain ⟨S7, p7, k7⟩ := P6.out.delA a7 g7
      have x10 := P6.out.cell 10 (.map (some ma)) rfl
      have y7 := p7.cell 7 (.int .i64 p.vl) rfl
      have y4 := p7.cell 4 (.map (some mb)) rfl
      have K7 : Hid (Kept w W7 S S7) := ((Kept.of B2.out).trans K6.out).trans k7
      have P7 : Hid _ := p7
      clear hW6 a7 g7 z7 k7 K6 p7 P6 HP g9 f9
      by_cases hv : p.vl < s
      · have d1 : decide (p.vl < s) = true := decide_eq_true hv
        obtain ⟨W8, e8, a8, g8, z8⟩ := MapOf.del mBest_is P7.out.best hs 0
        obtain ⟨p8, k8⟩ := P7.out.setB a8 g8
        have HF8 : Hid (PPost w base X S (choP q s) (.tuple #[]) (.returned (.tuple #[])) W8) := HFI.out k _ S7 mp mb ma _ HRk.out (by unfold choX; rw [if_pos hv]; exact p8) (K7.out.trans k8)
        clear a8 g8 z8 p8 k8 HFI HRk K7 P7 HV HPS
        go_wp2
        go_returns
        exact HF8.out
      · have d1 : decide (p.vl < s) = false := decide_eq_false hv
        have HF8 : Hid (PPost w base X S (choP q s) (.tuple #[]) (.returned (.tuple #[])) W7) := HFI.out k _ S7 mp mb ma _ HRk.out (by unfold choX; rw [if_neg hv]; exact P7.out) K7.out
        clear HFI HRk K7 P7 HV HPS
        go_wp2
        go_returns
        exact HF8.out
    · rw [decide_eq_false hso] at HH
      rw [h0.choN s hi hr hso]
      have HF : Hid (∀ w', Below w.heap.size w w' → PPost w base X S q (.tuple #[]) (.returned (.tuple #[])) w') := fun w' b => ⟨S, rfl, HPS.out.fresh b, Kept.of b⟩
      clear h hR hM hl hr r1 r2 r3 r4 ev h0
      go_enter Try.func17, Try.ntmps17
      go_wp2_with (first
        | (go_at_call 33; refine Calls.mono HH.out ?_; rintro r w2 ⟨rfl, b2⟩; have B2 : Hid _ := b2; clear b2)
        | (go_at_call 19; refine Calls.mono HR.out ?_; rintro r w1 ⟨rfl, hw1⟩; rw [hw1]; clear hw1))
      go_returns
      exact HF.out _ B2.out
  · have hi' : q.is = false := by simpa using hi
    rw [hi'] at HR
    have e1 : choP q s = q := choP_same fun x hx => by
      rw [(hR.early hi').l] at hx
      cases hx
    rw [e1]
    have HF : Hid (PPost w base X S q (.tuple #[]) (.returned (.tuple #[])) w) := ⟨S, rfl, HPS.out, Kept.refl _ _⟩
    clear h hR hM hl h0 hi
    go_enter Try.func17, Try.ntmps17
    go_wp2_with (go_at_call 19; refine Calls.mono HR.out ?_; rintro r w1 ⟨rfl, hw1⟩; rw [hw1]; clear hw1)
    go_returns
    exact HF.out
end
end Go.Proofs.Ytmlgoecdefeapaa
