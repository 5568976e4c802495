/-
  CodecOnly, for every two signed numbers and every two numbers from 0 on: two that are not the same have not the same row of bytes, and none begins another one's; the call answers true and the arguments read behind it as they did. No condition.
-/
import Derived.Test.YtbheaolodpiocaaAwake
import Derived.ProofKit
import Derived.OpenShut
import Derived.ShutString
import Derived.ChangeOld
import Derived.Below
import Derived.Lib.SmallJoins
import Derived.BigQuiet
import Derived.Deep.QuietTactic
namespace Go.Proofs.Ytbheaolodpiocaa.codecOnly
open Go.ChangeShapes Go.WideShapes Go.ChangeAt Go.RowKit Go.Joins

theorem own : ownKnob Try.prog.godebug = none := by kernel_rfl
theorem laidOut : laidOutB Try.prog = true := by kernel_rfl

theorem take_list (xs : List UInt8) (k : Nat) : ((⟨xs.toArray⟩ : ByteArray).extract 0 k).toList = xs.take k := by
  rw [Lib.extract_toList]
  simp

set_option maxRecDepth 100000 in
theorem begins_raw (a b : ByteArray) (ha : a.size ≤ 100) (hb : b.size ≤ 100) (r : Bool) (hr : ((a.extract 0 (min a.size b.size)).toList == (b.extract 0 (min a.size b.size)).toList) = r) (w : World) :
    Calls Try.prog 24 #[.string a, .string b] w fun e w' => e = .returned (.bool r) ∧ Below w.heap.size w w' := by
  by_cases h : b.size < a.size
  · rw [show min a.size b.size = b.size by omega] at hr
    go_enter Try.func24, Try.ntmps24
    go_wp2
    go_region
    all_goals (go_wp2; go_ret)
    simp only [ByteArray.extract_zero_size] at hr
    exact ⟨by rw [← hr]; rfl, (Below.refl _ _).drew⟩
  · rw [show min a.size b.size = a.size by omega] at hr
    go_enter Try.func24, Try.ntmps24
    go_wp2
    go_region
    all_goals (go_wp2; go_ret)
    simp only [ByteArray.extract_zero_size] at hr
    exact ⟨by rw [← hr]; rfl, (Below.refl _ _).drew⟩

theorem begins_enc (n m : Nat) (hn : n < 18446744073709551616) (hm : m < 18446744073709551616) (r : Bool) (hr : decide (n = m) = r) (w : World) :
    Calls Try.prog 24 #[.string ⟨(enc n).toArray⟩, .string ⟨(enc m).toArray⟩] w fun e w' => e = .returned (.bool r) ∧ Below w.heap.size w w' := by
  have h1 := enc_len_ten hn
  have h2 := enc_len_ten hm
  have e1 : (⟨(enc n).toArray⟩ : ByteArray).size = (enc n).length := by rw [Lib.size_eq]
  have e2 : (⟨(enc m).toArray⟩ : ByteArray).size = (enc m).length := by rw [Lib.size_eq]
  refine begins_raw _ _ (by omega) (by omega) r ?_ w
  rw [e1, e2, take_list, take_list, ← hr]
  by_cases h : n = m
  · subst h
    simp
  · rw [decide_eq_false h, beq_eq_false_iff_ne]
    exact fun e => h (enc_prefix hn hm rfl e)

theorem Wr.keepNil {base B1 B2 : Nat} {w w' : World} {v2 : Value} {bs1 bs2 : List UInt8} (h2 : Wr base w B2 v2 bs2) (h1 : Wr base w B1 (.slice Option.none 0 0) bs1) (hk : Keep2 B1 (.slice Option.none 0 0) w w') (hne : B2 ≠ B1) : Wr base w' B2 v2 bs2 := by
  have hap : v2.ownBlock ≠ some B1 := by
    rcases h2.2.2.2 with ⟨rfl, _⟩ | ⟨g, cap, cur, rfl, _, hg, _⟩
    · simp [Value.ownBlock]
    · intro e
      simp [Value.ownBlock] at e
      subst e
      rw [h1.2.1] at hg
      simp at hg
  have hg : w.grownBy w' (some B1) := ⟨hk.os, hk.tape, hk.output, hk.size, fun k hlt hne => hk.block k hlt (fun e => hne (by rw [e])) (by simp [Value.ownBlock])⟩
  exact h2.far hg hne hap

theorem new_new (base : Nat) (w : World) (hb : base ≤ w.heap.size) : Calls Try.prog 8 #[] w fun e w' => ∃ B, e = .returned (.pointer (some ⟨B, 0, none⟩)) ∧ w.heap.size ≤ B ∧ Wr base w' B (.slice Option.none 0 0) [] ∧ w.grownBy w' Option.none :=
  (new_any w).mono fun e w' ⟨he, hw⟩ => by
    subst hw
    exact ⟨_, he, Nat.le_refl _, ⟨hb, heap_alloc_new w _, World.ownsRow_nil _ _ _ _⟩, World.grownBy_alloc _ _ _⟩

theorem Wr.below' {base B : Nat} {w w' : World} {v : Value} {bs : List UInt8} (h : Wr base w B v bs) (hb : Below w.heap.size w w') : Wr base w' B v bs :=
  h.new0 (grown_below hb _)

theorem same_zig (a b : Int) : decide (zig a = zig b) = (a == b) := by
  by_cases h : a = b
  · subst h
    simp
  · rw [beq_eq_false_iff_ne.2 h, decide_eq_false]
    exact fun e => h (zig_inj e)
theorem same_nat (u v : Nat) : decide (u = v) = ((u : Int) == (v : Int)) := by
  by_cases h : u = v
  · subst h
    simp
  · rw [beq_eq_false_iff_ne.2 (by omega), decide_eq_false h]

set_option maxHeartbeats 1600000 in
set_option maxRecDepth 100000 in
theorem walk (a b : Int) (u v : Nat) (ha1 : -9223372036854775808 ≤ a) (ha2 : a ≤ 9223372036854775807) (hb1 : -9223372036854775808 ≤ b) (hb2 : b ≤ 9223372036854775807) (hu : u < 18446744073709551616) (hv : v < 18446744073709551616) (w : World) :
    Calls Try.prog 6 #[.agg #[.int .i64 a, .int .i64 b], .agg #[.int .u64 u, .int .u64 v]] w fun e w' => e = .returned (.bool true) ∧ Below w.heap.size w w' := by
  have q1 := begins_enc (zig a) (zig b) (zig_bound ha1 ha2) (zig_bound hb1 hb2) (a == b) (same_zig a b)
  have q2 := begins_enc u v hu hv ((u : Int) == (v : Int)) (same_nat u v)
  obtain ⟨base, hbase⟩ : ∃ base, w.heap.size = base := ⟨_, rfl⟩
  have b0 : ∀ o o', Below base w ((w.alloc o).alloc o').drew := fun o o' => (((Below.refl base w).alloc (by omega) o).alloc (by simp; omega) o').drew
  have hn0 := fun o o' => new_new base ((w.alloc o).alloc o').drew (by simp; omega)
  have hs0 : ∀ o o', base ≤ ((w.alloc o).alloc o').drew.heap.size := fun o o' => by simp; omega
  rw [hbase]
  go_enter Try.func6, Try.ntmps6
  go_wp2
  go_region
  go_wp2_with (first
    | (go_at_call 14; refine (awake_any w10).mono ?_; rintro e w11 ⟨rfl, x11⟩)
    | (go_at_call 24; refine (q2 w9).mono ?_; rintro e w10 ⟨rfl, x10⟩)
    | (go_at_call 13; have d3 := d2; refine (wstring_any base B4 _ _ w9 m4).mono ?_; rintro e w' ⟨rfl, rfl⟩)
    | (go_at_call 13; refine (wstring_any base B3 _ _ w9 m3).mono ?_; rintro e w' ⟨rfl, rfl⟩; have d2 : True := trivial)
    | (go_at_call 24; refine (q1 w8).mono ?_; rintro e w9 ⟨rfl, x9⟩; have m3 := Wr.below' l3 x9; have m4 := Wr.below' l4 x9)
    | (go_at_call 13; have d1' := d1; refine (wstring_any base B2 _ _ w8 l2).mono ?_; rintro e w' ⟨rfl, rfl⟩)
    | (go_at_call 13; refine (wstring_any base B1 _ _ w8 l1).mono ?_; rintro e w' ⟨rfl, rfl⟩; have d1 : True := trivial)
    | (go_at_call 10; refine (wu64_any base B4 _ [] v hv w7 j4 (by decide)).mono ?_; rintro e w8 ⟨rfl, v4, l4, k8, _⟩; have l1 := Wr.keepNil j1 j4 k8 n14; have l2 := Wr.keepNil j2 j4 k8 n24; have l3 := Wr.keepNil j3 j4 k8 n34; have b8 := j4.below k8)
    | (go_at_call 10; refine (wu64_any base B3 _ [] u hu w6 i3 (by decide)).mono ?_; rintro e w7 ⟨rfl, v3, j3, k7, _⟩; have j1 := Wr.keepNil i1 i3 k7 n13; have j2 := Wr.keepNil i2 i3 k7 n23; have j4 := Wr.keepNil i4 i3 k7 n34.symm; have b7 := i3.below k7)
    | (go_at_call 9; refine (wint_any base B2 _ [] b hb1 hb2 w5 h2' (by decide)).mono ?_; rintro e w6 ⟨rfl, v2, i2, k6, _⟩; have i1 := Wr.keepNil h1' h2' k6 n12; have i3 := Wr.keepNil h3' h2' k6 n23.symm; have i4 := Wr.keepNil h4' h2' k6 n24.symm; have b6 := h2'.below k6)
    | (go_at_call 9; refine (wint_any base B1 _ [] a ha1 ha2 w4 g1 (by decide)).mono ?_; rintro e w5 ⟨rfl, v1, h1', k5, _⟩; have h2' := Wr.keepNil g2 g1 k5 n12.symm; have h3' := Wr.keepNil g3 g1 k5 n13.symm; have h4' := Wr.keepNil g4 g1 k5 n14.symm; have b5 := g1.below k5)
    | (go_at_call 8; refine (new_new base w3 f3.size).mono ?_; rintro e w4 ⟨B4, rfl, hB4, g4, x4⟩; have g1 := f1.new0 x4; have g2 := f2.new0 x4; have g3 := f3.new0 x4; have b4 := b3.grown x4 f3.size (by simp); have n14 : B1 ≠ B4 := (by have := f1.lt; omega); have n24 : B2 ≠ B4 := (by have := f2.lt; omega); have n34 : B3 ≠ B4 := (by have := f3.lt; omega))
    | (go_at_call 8; refine (new_new base w2 e2.size).mono ?_; rintro e w3 ⟨B3, rfl, hB3, f3, x3⟩; have f1 := e1.new0 x3; have f2 := e2.new0 x3; have b3 := b2.grown x3 e2.size (by simp); have n13 : B1 ≠ B3 := (by have := e1.lt; omega); have n23 : B2 ≠ B3 := (by have := e2.lt; omega))
    | (go_at_call 8; refine (new_new base w1 c1.size).mono ?_; rintro e w2 ⟨B2, rfl, hB2, e2, x2⟩; have e1 := c1.new0 x2; have b2 := b1.grown x2 c1.size (by simp); have n12 : B1 ≠ B2 := (by have := c1.lt; omega))
    | (go_at_call 8; refine (hn0 _ _).mono ?_; rintro e w1 ⟨B1, rfl, hB1, c1, x1⟩; have b1 := (b0 _ _).grown x1 (hs0 _ _) (by simp)))
  go_ret
  have s8 := l4.size
  have s9 := x9.size
  have s10 := x10.size
  exact ⟨rfl, (((((((b4.trans b5).trans b6).trans b7).trans b8).trans (x9.mono s8)).trans (x10.mono (by omega))).trans (x11.mono (by omega)))⟩

theorem Try.cells46 : Try.prog.cellsOf 46 = 2 := by kernel_rfl
theorem Try.cells47 : Try.prog.cellsOf 47 = 2 := by kernel_rfl
theorem Try.cells3 : Try.prog.cellsOf 3 = 1 := by kernel_rfl
theorem Try.cells25 : Try.prog.cellsOf 25 = 1 := by kernel_rfl

/-- Two integers in an array that is handed over by value. -/
theorem open_two {H : Type} {enc : TypeId × Value → H} {P : Program} {w : World} {b1 : Nat} {spare : Nat → Bool} {held : Bool} {r : Reach} {b0 : Nat} {t e : TypeId} {k : IntKind} {v : Value} {d : DataW H} {p : List MemPlace}
    (ht : P.underlying t = some (.array 2 e)) (he : P.underlying e = some (.int k)) (hct : P.cellsOf t = 2) (hce : P.cellsOf e = 1)
    (hv : Value.okWide P w r b0 t v) (h : DataW.Trod enc P w b1 spare held t v d p) : ∃ a b : Int, v = .agg #[.int k a, .int k b] ∧ (Lit.int k a).wf = true ∧ (Lit.int k b).wf = true := by
  simp only [Value.okWide, ht] at hv
  obtain ⟨cs, rfl, hsz, _⟩ := hv
  obtain ⟨c0, c1, rfl⟩ := array2 (hsz.trans hct)
  obtain ⟨fuel, hf⟩ := h
  obtain ⟨xs, m, _, _, _, hxl, hx⟩ := DataW.trod_array ht hf
  have h0 := hx 0 (by omega)
  have h1 := hx 1 (by omega)
  rw [hce] at h0 h1
  have e0 : List.take 1 (List.drop (0 * 1) (Value.agg #[c0, c1]).cells.toList) = [c0] := rfl
  have e1 : List.take 1 (List.drop (1 * 1) (Value.agg #[c0, c1]).cells.toList) = [c1] := rfl
  rw [e0, List.getElem?_eq_getElem (by omega)] at h0
  rw [e1, List.getElem?_eq_getElem (by omega)] at h1
  obtain ⟨a, q0, _, wa⟩ := DataW.trod_int he h0
  obtain ⟨b, q1, _, wb⟩ := DataW.trod_int he h1
  simp at q0 q1
  subst q0 q1
  exact ⟨a, b, rfl, wa, wb⟩

set_option maxRecDepth 100000 in
theorem lifted (os : Os) (started : os.Started) (H : Type) (enc : TypeId × Value → H) :
    ReturnsInHanded {} Try.checked os 6 .any (Rows.codecOnlySpec.pre6 enc Try.prog Try.f6 Rows.codecOnlyRow.domain false) (Rows.codecOnlySpec.post enc Try.prog Try.f6 false true false false) := by
  refine returnsInHanded_of_change (C := Try.checked) own started (by kernel_rfl) Try.func6
    (ChangeSpec.witness6 (enc := enc) (C := Try.checked) false ⟨#[], #[.agg #[.int .i64 0, .int .i64 0], .agg #[.int .u64 0, .int .u64 0]], []⟩ 8 (by kernel_rfl) (by kernel_rfl) (by kernel_rfl) (by kernel_rfl)) ?_
  intro W base args ds gs before hval0 hW _ _
  have hval : ∀ (j : Nat) t v, Try.f6.params[j]? = some t → args[j]? = some v → Value.okWide Try.prog W .any base t v := hval0
  have hW' := hW
  obtain ⟨p, q, hA0, hV, rfl, _, _⟩ := hW
  have hA : DataW.TrodAll enc Try.prog W 0 (fun _ => true) true Try.f6.params.toList args.toList ds p := hA0
  rw [Try.params6] at hA hval
  obtain ⟨v0, v1, d0, d1, p0, p1, rfl, rfl, rfl, h0, h1⟩ := trodAll_two hA
  obtain ⟨rfl, rfl⟩ := trodVars_none hV
  have k0 := h0
  have k1 := h1
  have lt0 : ∀ x ∈ p0, x.block < W.heap.size := by obtain ⟨m, hm⟩ := k0; exact DataW.trod_lt m _ _ _ hm
  have lt1 : ∀ x ∈ p1, x.block < W.heap.size := by obtain ⟨m, hm⟩ := k1; exact DataW.trod_lt m _ _ _ hm
  obtain ⟨a, b, rfl, wa, wb⟩ := open_two Try.underlying46 Try.underlying3 Try.cells46 Try.cells3 (hval 0 46 v0 rfl rfl) h0
  obtain ⟨u, v, rfl, wu, wv⟩ := open_two Try.underlying47 Try.underlying25 Try.cells47 Try.cells25 (hval 1 47 v1 rfl rfl) h1
  have ba := bounds_i64 wa
  have bb := bounds_i64 wb
  have bu := bounds_u64 wu
  have bv := bounds_u64 wv
  obtain ⟨un, rfl⟩ := Int.eq_ofNat_of_zero_le bu.1
  obtain ⟨vn, rfl⟩ := Int.eq_ofNat_of_zero_le bv.1
  clear hA0 hval0
  refine (walk a b un vn ba.1 ba.2 bb.1 bb.2 (by omega) (by omega) W).mono fun e W' ⟨he, bel⟩ => ?_
  subst he
  exact ⟨_, rfl, _, _, _, [], p0 ++ p1, [], hW', trodAll_mk1 (shut_bool Try.underlying4 _), trodAll_mk2 (Below.trod laidOut (by kernel_rfl) (of_decide_eq_true (by kernel_rfl)) k0 bel lt0) (Below.trod laidOut (by kernel_rfl) (of_decide_eq_true (by kernel_rfl)) k1 bel lt1), rfl, bel.frame _, fun h => by cases h⟩

theorem proved : Rows.CodecOnlySaid :=
  OpenClaim.holds_of_wide 6 Try.f6 rfl rfl rfl rfl rfl rfl rfl ⟨rfl, rfl, rfl, rfl, rfl⟩ rfl rfl rfl rfl rfl (by kernel_rfl) Try.func6 (by kernel_rfl)
    (of_decide_eq_true (by kernel_rfl)) (by unfold Func.isWrapper; first | (rw [if_pos (by decide +kernel)]; kernel_rfl) | (rw [if_neg (by decide +kernel)]; exact ⟨rfl, rfl⟩))
    (fun os started H enc _ => lifted os started H enc)
end Go.Proofs.Ytbheaolodpiocaa.codecOnly

namespace Go.Proofs.Ytbheaolodpiocaa
/-- For every two signed numbers and every two numbers from 0 on the law answers true, and the arguments read behind the call as they did. -/
theorem codecOnly_holds : Rows.CodecOnlySaid := codecOnly.proved
#print axioms codecOnly_holds
end Go.Proofs.Ytbheaolodpiocaa
