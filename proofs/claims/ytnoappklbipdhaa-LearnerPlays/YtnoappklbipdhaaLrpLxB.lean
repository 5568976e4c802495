/-
  The document's learner: what is applied now, what is dropped. The condition: at most 2^29 entries.
-/
import Derived.Test.YtnoappklbipdhaaLrpLxA
namespace Go.Proofs.Ytnoappklbipdhaa
open Go.RowKit

def lenS : Value → Nat
  | .slice _ n _ => n
  | _ => 0
structure RlPost (w : World) (base X : Nat) (S : Nat → Prop) (q : Ln × List En) (e : Ending) (w' : World) : Prop where
  ex : ∃ S' g, e = .returned g ∧ RlAt w' base X S' q.1 ∧ Kept w w' S S' ∧ AnsE w w' S' g q.2
structure RdPost (w : World) (base X : Nat) (S : Nat → Prop) (q : Ln) (e : Ending) (w' : World) : Prop where
  ex : ∃ S', e = .returned (.tuple #[]) ∧ RlAt w' base X S' q ∧ Kept w w' S S'
theorem ans_own {w w' : World} {S : Nat → Prop} {g : Value} {xs : List En} (h : OwnEn w' w.heap.size g xs) (hS : ∀ b, S b → b < w.heap.size) : AnsE w w' S g xs := by
  refine ⟨OwnEn.row h, fun bk off m c hm0 e => ?_⟩
  have hb : g.ownBlock = some bk := by rw [e]; rfl
  have := (h.lt bk hb).1
  exact ⟨this, fun h => by have := hS bk h; omega⟩
/-- What is told. -/
structure FolR (p : Ln) (n : Nat) (ys : List En) : Prop where
  eq : folL p = (⟨p.ap + (ys.length : Int), p.l⟩, ys)
  at' : ∀ i (h : i < ys.length), leF p.l (p.ap + (i : Int) + 1) = some ys[i]
  mx : p.ap + (ys.length : Int) ≤ MXi
  stop : p.ap + (ys.length : Int) = MXi ∨ leF p.l (p.ap + (ys.length : Int) + 1) = none
  len : ys.length ≤ n
theorem fol_row {p : Ln} {n : Nat} (h : LnOk p n) : ∃ ys, FolR p n ys := by
  have ha := h.ap
  by_cases hp : p.ap = MXi
  · refine ⟨[], ?_, fun i hi => (by cases hi), by simp; omega, Or.inl (by simp; exact hp), Nat.zero_le _⟩
    unfold folL
    rw [if_pos hp]
    simp
  · have hr := h.row (p.ap + 1)
    obtain ⟨ys, hys⟩ : ∃ ys, ys = leRow p.l (p.ap + 1) := ⟨_, rfl⟩
    rw [← hys] at hr
    refine ⟨ys, ?_, fun i hi => ?_, ?_, ?_, hr.2⟩
    · unfold folL
      rw [if_neg hp, hys]
    · have := hr.1.at' i hi
      rw [← this]
      congr 1
      omega
    · by_cases h0 : ys.length = 0
      · rw [h0]; simp; exact ha.2
      · have := hr.1.mx (ys.length - 1) (by omega)
        omega
    · rcases hr.1.stop with h1 | ⟨h1, h2⟩
      · refine Or.inr ?_
        rw [← h1]
        congr 1
        omega
      · exact Or.inl (by omega)
structure FoI (w wr : World) (base X : Nat) (S : Nat → Prop) (l : List En) (u : Value) (A : Int) (g : Value) (ys : List En) : Prop where
  r : RlV wr base X S ⟨A, l⟩ u
  o : OwnEn wr w.heap.size g ys
  k : Kept w wr S S
theorem FoI.set {w wr : World} {base X : Nat} {S : Nat → Prop} {l : List En} {u : Value} {A : Int} {g : Value} {ys : List En} (h : FoI w wr base X S l u A g ys) (hX : X < w.heap.size) (B : Int) : FoI w (wr.setCell ⟨X, 0, none⟩ (.int .i64 B)) base X S l u B g ys :=
  ⟨h.r.set0 B, own_keep h.o fun b e => heap_setCell_other _ _ _ _ (fun e2 => by have e3 : b = X := e2; have := (h.o.lt b e).1; omega), h.k.trans (h.r.kept0 0 _)⟩
theorem FoI.more {w y y3 w6 : World} {base X : Nat} {S : Nat → Prop} {l : List En} {u : Value} {A : Int} {g g6 : Value} {ys : List En} {x : En} (h : FoI w y base X S l u A g ys) (hS : ∀ b, S b → b < w.heap.size) (b3 : Below w.heap.size y y3) (a6 : Appended w.heap.size y3 w6 g g6) (ho : OwnEn w6 w.heap.size g6 (ys ++ [x])) : FoI w w6 base X S l u A g6 (ys ++ [x]) := by
  have b6 := b3.trans a6.below
  refine ⟨h.r.keep fun b hb => b6.block b (hS b hb), ho, ⟨b6.os.trans h.k.os, b6.tape.trans h.k.tape, b6.output.trans h.k.output, ?_, fun b hb => Or.inl hb, fun b hb hn => (b6.block b hb).trans (h.k.kept b hb hn)⟩⟩
  have := b6.size
  have := h.k.size
  omega
section
variable {w : World} {base X : Nat} {S : Nat → Prop} {p : Ln} {n : Nat} {u : Value}
set_option maxHeartbeats 3200000 in
set_option maxRecDepth 100000 in
theorem rfollow_any (h : RlV w base X S p u) (hok : LnOk p n) (hn : n ≤ 1073741824) : Calls Try.prog 26 #[.pointer (some ⟨X, 0, none⟩)] w (RlPost w base X S (folL p)) := by
  obtain ⟨i0, hi, hz0, hz1, hz2⟩ := info_parts infoEn
  obtain ⟨ys, hF⟩ := fol_row hok
  rw [hF.eq]
  have hln := hok.ln
  obtain ⟨l, hl⟩ : ∃ l, l = p.l := ⟨_, rfl⟩
  obtain ⟨a, ha⟩ : ∃ a, a = p.ap := ⟨_, rfl⟩
  have HF : Hid (∀ i (h : i < ys.length), leF l (a + (i : Int) + 1) = some ys[i]) := by rw [hl, ha]; exact hF.at'
  have HM : Hid (0 ≤ a ∧ a + (ys.length : Int) ≤ MXi ∧ ys.length ≤ 1073741824 ∧ l.length ≤ 1073741824) := (show Hid _ from (⟨by rw [ha]; exact hok.ap.1, by rw [ha]; exact hF.mx, Nat.le_trans hF.len hn, by rw [hl]; exact Nat.le_trans hln hn⟩ : _ ∧ _ ∧ _ ∧ _))
  have HS : Hid (a + (ys.length : Int) = MXi ∨ leF l (a + (ys.length : Int) + 1) = none) := by rw [hl, ha]; exact hF.stop
  have HB : Hid (X < w.heap.size ∧ ∀ b, S b → b < w.heap.size) := (show Hid _ from (⟨h.lt, fun b hb => (h.bd b hb).2⟩ : _ ∧ _))
  have I0 : Hid (FoI w w base X S l u a (.slice none 0 0) []) := by
    refine (show Hid _ from (⟨?_, World.ownsRow_nil _ _ _ _, Kept.refl _ _⟩ : FoI w w base X S l u a (.slice none 0 0) []))
    rw [hl, ha]
    exact h
  rw [← hl, ← ha]
  clear h hok hF hln hl ha hn
  go_enter Try.func26, Try.ntmps26
  go_wp2
  go_loopw [3] (fun g wr => ∃ k : Nat, k ≤ ys.length ∧ Hid (FoI w wr base X S l u (a + (k : Int)) g (ys.take k))) (fun g _ => ys.length - lenS g)
  case atStart => exact ⟨0, Nat.zero_le _, by simpa using I0⟩
  case round =>
    clear I0
    obtain ⟨k, hk, HI⟩ := hrel
    obtain ⟨pv, cv, hg⟩ := (OwnEn.row HI.out.o).form
    obtain ⟨nv, hnv⟩ : ∃ nv, nv = (ys.take k).length := ⟨_, rfl⟩
    have hnk : nv = k := by rw [hnv, List.length_take]; omega
    rw [← hnv] at hg
    subst hg
    obtain ⟨A, hA⟩ : ∃ A, A = a + (k : Int) := ⟨_, rfl⟩
    rw [← hA] at HI
    have c0 := HI.out.r.c0
    have f0 := HI.out.r.fz 0
    have HA : Hid (A = a + (k : Int) ∧ nv = k ∧ nv = (ys.take k).length ∧ k ≤ ys.length) := (show Hid _ from (⟨hA, hnk, hnv, hk⟩ : _ ∧ _ ∧ _ ∧ _))
    have hm := HM.out
    simp only [MXi] at hm
    by_cases hM : A = 9223372036854775807
    · have t0 : (A == 9223372036854775807) = true := by simpa using hM
      have hke : k = ys.length := by omega
      have HE : Hid (k = ys.length) := hke
      clear hm hM hnv hnk hA hk hke
      go_wp2
      go_ret
      have hI := HI.out
      have hA := HA.out
      rw [hA.1, HE.out, List.take_of_length_le (Nat.le_refl _)] at hI
      exact ⟨S, _, rfl, ⟨u, hI.r⟩, hI.k, ans_own hI.o HB.out.2⟩
    · have t0 : (A == 9223372036854775807) = false := by simpa using hM
      have k1 : IntKind.i64.wrap (A + 1) = A + 1 := by rw [IntKind.wrap_i64]; omega
      have HFd : Hid (Calls Try.prog 25 #[.pointer (some ⟨X, 0, none⟩), .int .i64 (A + 1)] wr (FdPost wr l (A + 1))) := rfind_any HI.out.r hm.2.2.2 (A + 1)
      have HMA : Hid (A ≠ 9223372036854775807) := hM
      clear hm hM hnv hnk hA hk
      go_upto_region 5 with (go_at_call 25; refine Calls.mono HFd.out ?_; rintro r w2 ⟨⟨j, rfl, hj⟩, hw2⟩; rw [hw2]; clear hw2)
      rcases hj with ⟨rfl, hnn⟩ | ⟨j, hj, rfl, hnn⟩
      · have hke : k = ys.length := by
          have hA := HA.out
          by_cases hlt : k < ys.length
          · have := HF.out k hlt
            rw [← hA.1, hnn] at this
            cases this
          · omega
        have HE : Hid (k = ys.length) := hke
        clear hnn hke
        go_wp2
        go_ret
        have hI := HI.out
        have hA := HA.out
        rw [hA.1, HE.out, List.take_of_length_le (Nat.le_refl _)] at hI
        exact ⟨S, _, rfl, ⟨u, hI.r⟩, hI.k, ans_own hI.o HB.out.2⟩
      · have hA := HA.out
        have hlt : k < ys.length := by
          by_cases hlt : k < ys.length
          · exact hlt
          · have hke : k = ys.length := by omega
            rcases HS.out with h1 | h1
            · exact absurd (by rw [hA.1, hke]; exact h1) HMA.out
            · rw [← hke, ← hA.1, hnn] at h1
              cases h1
        have hx1 := HF.out k hlt
        rw [← hA.1, hnn] at hx1
        obtain ⟨x, hx⟩ : ∃ x, x = l[j] := ⟨_, rfl⟩
        rw [← hx] at hx1
        have HX : Hid (k < ys.length ∧ ys.take (k + 1) = ys.take k ++ [x] ∧ a + ((k + 1 : Nat) : Int) = A + 1) := (show Hid _ from (⟨hlt, by rw [List.take_add_one, List.getElem?_eq_getElem hlt, Option.some.inj hx1]; rfl, by rw [hA.1]; omega⟩ : _ ∧ _ ∧ _))
        have t1 : decide ((j : Int) < 0) = false := decide_eq_false (by omega)
        have q0 : ((j : Nat) : Int) < (l.length : Int) := by omega
        have HJ : Hid (j < l.length ∧ ∀ hh : j < l.length, l[j] = x) := (show Hid _ from (⟨hj, fun _ => hx.symm⟩ : _ ∧ _))
        clear hA hlt hnn hx1
        go_upto_region 8 with fail
        obtain ⟨y, hy⟩ : ∃ y, y = wr.setCell ⟨X, 0, none⟩ (.int .i64 (A + 1)) := ⟨_, rfl⟩
        have I1 : FoI w y base X S l u (A + 1) (.slice pv nv cv) (ys.take k) := by rw [hy]; exact HI.out.set HB.out.1 (A + 1)
        have HY : Hid (wr.setCell ⟨X, 0, none⟩ (.int .i64 (A + 1)) = y) := hy.symm
        rw [HY.out]
        obtain ⟨va, vc, hu⟩ := I1.r.form
        have hu' : u = .slice va l.length vc := hu
        subst hu'
        have c1 := I1.r.c1
        have hrow : RowAt enC y (.slice va l.length vc) l := OwnEn.row I1.r.own
        obtain ⟨bk, off, cap', hvv, hcap, hbk, hc⟩ := hrow.cells enC_len (by omega)
        injection hvv with e1 e2 e3
        subst e1 e3
        have z0 := hc j hj 0 (.int .i64 x.slot) (by decide) (by rw [hx]; rfl)
        have z1 := hc j hj 1 (.int .i64 x.ballot) (by decide) (by rw [hx]; rfl)
        have z2 := hc j hj 2 (.int .i64 x.cmd.kind) (by decide) (by rw [hx]; rfl)
        have z3 := hc j hj 3 (.int .i64 x.cmd.session) (by decide) (by rw [hx]; rfl)
        have z4 := hc j hj 4 (.int .i64 x.cmd.seq) (by decide) (by rw [hx]; rfl)
        have z5 := hc j hj 5 (.string x.cmd.name) (by decide) (by rw [hx]; rfl)
        have z6 := hc j hj 6 (.int .i64 x.cmd.n) (by decide) (by rw [hx]; rfl)
        rw [Nat.add_zero] at z0
        have HI1 : Hid _ := I1
        have hO : y.ownsRow w.heap.size 30 7 (.slice pv nv cv) nv (rowL enC (ys.take k)) := by
          have := I1.o
          rw [OwnEn, ← HA.out.2.2.1] at this
          exact this
        have HO : Hid _ := hO
        have HSZ : Hid (w.heap.size ≤ y.heap.size ∧ nv ≤ 1073741824) := (show Hid _ from (⟨I1.k.size, by have := HA.out; have := HM.out; omega⟩ : _ ∧ _))
        clear hy I1 hu hc hx hrow hO c0 f0 hcap hbk
        go_wp2_with (at_builtin; refine wpList_app_row (k := 7) (enc := enC) (l := [x]) rfl (.tmp 28) (.tmp 36) 33 30 rfl i0 _ 64 Try.underlying33 hi hz0 hz1 hz2 rfl (by decide) enC_len enC_one (base := w.heap.size) rfl rfl (World.ownsRow.alloc HO.out _) (RowAt.built (heap_alloc_new _ _) rfl 1 rfl rfl) (by have := HSZ.out; simp; omega) (by have := HSZ.out; simp; omega) (by have := HSZ.out; simp; omega) ?_; intro u6 w6 o6 a6; obtain ⟨p6, c6, hu6⟩ : ∃ a c, u6 = .slice a (nv + 1) c := (by
            have o6' : OwnEn w6 w.heap.size u6 (ys.take k ++ [x]) := (by rw [OwnEn, List.length_append, rowL_append, ← HA.out.2.2.1]; exact o6)
            obtain ⟨a, c, e⟩ := (OwnEn.row o6').form
            exact ⟨a, c, (by rw [e, List.length_append, ← HA.out.2.2.1]; rfl)⟩); have HU6 : Hid (u6 = .slice p6 (nv + 1) c6) := hu6; have O6 : Hid _ := o6; have A6 : Hid _ := a6; clear o6 a6 hu6)
        go_roundw
        case rel =>
          refine ⟨k + 1, HX.out.1, ?_⟩
          rw [HX.out.2.1, HX.out.2.2]
          exact HI1.out.more HB.out.2 ((Below.refl _ _).alloc HSZ.out.1 _) A6.out (by rw [OwnEn, List.length_append, rowL_append, ← HA.out.2.2.1]; exact O6.out)
        case measure =>
          have := HX.out.1
          have := HA.out
          rw [HU6.out]
          simp [lenS]
          omega
theorem dropE_next (l : List En) (s : Int) (k : Nat) (hk : k < l.length) : dropE (l.take (k + 1)) s = dropE (l.take k) s ++ if s < l[k].slot then [l[k]] else [] := by
  unfold dropE
  rw [List.take_add_one, List.getElem?_eq_getElem hk, List.filter_append]
  congr 1
  by_cases h : s < l[k].slot
  · rw [if_pos h]
    simp [h]
  · rw [if_neg h]
    simp [h]
theorem dropE_len (l : List En) (s : Int) : (dropE l s).length ≤ l.length := List.length_filter_le _ _
set_option maxHeartbeats 3200000 in
set_option maxRecDepth 100000 in
theorem rdrop_any (h : RlV w base X S p u) (hl : p.l.length ≤ 1073741824) (s : Int) : Calls Try.prog 28 #[.pointer (some ⟨X, 0, none⟩), .int .i64 s] w (RdPost w base X S ⟨p.ap, dropE p.l s⟩) := by
  obtain ⟨i0, hi, hz0, hz1, hz2⟩ := info_parts infoEn
  have hr := OwnEn.row h.own
  obtain ⟨va, vc, rfl⟩ := hr.form
  have HR : Hid (∀ y, Below w.heap.size w y → RowAt enC y (.slice va p.l.length vc) p.l) := fun y b => OwnEn.row (h.fresh b).own
  have HC : Hid (∀ y, Below w.heap.size w y → y.cell? ⟨X, 1, none⟩ = some (.slice va p.l.length vc) ∧ y.frozen? ⟨X, 1, none⟩ = false) := fun y b => ⟨(h.fresh b).c1, (h.fresh b).fz 1⟩
  have HH : Hid _ := h
  clear h hr
  go_enter Try.func28, Try.ntmps28
  go_wp2
  go_loopw [4, 5] (fun u i wr => ∃ k : Nat, k ≤ p.l.length ∧ i = .int .i64 (k : Int) ∧ OwnEn wr w.heap.size u (dropE (p.l.take k) s) ∧ Below w.heap.size w wr) (fun _ i _ => p.l.length - (intOf i).toNat)
  case atStart => exact ⟨0, Nat.zero_le _, rfl, World.ownsRow_nil _ _ _ _, Below.refl _ _⟩
  case round =>
    obtain ⟨k, hk, rfl, ho, br⟩ := hrel
    obtain ⟨p5, n5, q5, rfl⟩ := own_form ho
    have c1 := (HC.out wr br).1
    have f1 := (HC.out wr br).2
    by_cases hkl : k < p.l.length
    · have q0 : decide ((k : Int) < (p.l.length : Int)) = true := decide_eq_true (by omega)
      obtain ⟨bk, off, cap', hvv, hcap, hbk, hc⟩ := (HR.out wr br).cells enC_len (by omega)
      injection hvv with e1 e2 e3
      subst e1 e3
      have hf := dropE_next p.l s k hkl
      have hln := dropE_len (p.l.take k) s
      rw [List.length_take] at hln
      obtain ⟨x, hx⟩ : ∃ x, x = p.l[k] := ⟨_, rfl⟩
      have z0 := hc k hkl 0 (.int .i64 x.slot) (by decide) (by rw [hx]; rfl)
      have z1 := hc k hkl 1 (.int .i64 x.ballot) (by decide) (by rw [hx]; rfl)
      have z2 := hc k hkl 2 (.int .i64 x.cmd.kind) (by decide) (by rw [hx]; rfl)
      have z3 := hc k hkl 3 (.int .i64 x.cmd.session) (by decide) (by rw [hx]; rfl)
      have z4 := hc k hkl 4 (.int .i64 x.cmd.seq) (by decide) (by rw [hx]; rfl)
      have z5 := hc k hkl 5 (.string x.cmd.name) (by decide) (by rw [hx]; rfl)
      have z6 := hc k hkl 6 (.int .i64 x.cmd.n) (by decide) (by rw [hx]; rfl)
      rw [Nat.add_zero] at z0
      rw [← hx] at hf
      have HO : Hid _ := ho
      have BR : Hid _ := br
      have sz := br.size
      clear hc hx ho br
      by_cases hs : s < x.slot
      · rw [if_pos hs] at hf
        have HF : Hid _ := hf
        have t1 : decide (s < x.slot) = true := decide_eq_true hs
        clear hf hs
        go_wp2_with (at_builtin; refine wpList_app_row (k := 7) (enc := enC) (l := [x]) rfl (.tmp 25) (.tmp 33) 33 30 rfl i0 _ 64 Try.underlying33 hi hz0 hz1 hz2 rfl (by decide) enC_len enC_one (base := w.heap.size) rfl rfl (World.ownsRow.alloc HO.out _) (RowAt.built (heap_alloc_new _ _) rfl 1 rfl rfl) (by simp; omega) (by simp; omega) (by simp; omega) ?_; intro u6 w6 o6 a6; obtain ⟨p6, n6, q6, rfl⟩ := own_form o6; have O6 : Hid _ := o6; have B6 : Hid (Below w.heap.size w w6) := (BR.out.alloc BR.out.size _).trans (a6.below); clear o6 a6)
        go_roundw
        case rel =>
          refine ⟨k + 1, hkl, by go_num, ?_, B6.out⟩
          rw [HF.out]
          show World.ownsRow _ _ _ _ _ _ _
          rw [rowL_append, List.length_append]
          exact O6.out
        case measure => simp [intOf]; omega
      · rw [if_neg hs, List.append_nil] at hf
        have t1 : decide (s < x.slot) = false := decide_eq_false hs
        have HF : Hid _ := hf
        clear hf hs
        go_wp2
        go_roundw
        case rel => exact ⟨k + 1, hkl, by go_num, by rw [HF.out]; exact HO.out, BR.out⟩
        case measure => simp [intOf]; omega
    · have q0 : decide ((k : Int) < (p.l.length : Int)) = false := decide_eq_false (by omega)
      have ht : p.l.take k = p.l := List.take_of_length_le (by omega)
      rw [ht] at ho
      have HO : Hid _ := ho
      have BR : Hid _ := br
      clear ht ho br
      go_wp2
      go_returns
      have h9 := HH.out.set1 BR.out HO.out
      exact ⟨_, rfl, ⟨_, h9.1⟩, h9.2⟩
end
end Go.Proofs.Ytnoappklbipdhaa
