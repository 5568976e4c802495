/-
  SessionLives: a client's life has one session. The condition: a row of numbers as it came in.
-/
import Derived.Test.YthokbififjhflaaSeAwake
namespace Go.Proofs.Ythokbififjhflaa
open Go.RowKit

/-- Where the law stands: the greatest life so far, its session. -/
structure LvI (w wr : World) (X : Nat) (top id : Int) (k : Nat) (S : Nat → Prop) (l : List SeX) : Prop where
  at' : SeAt wr w.heap.size X S l
  top : seLif l 2 = top
  idn : (seLat l 2 : Int) = id
  len : (l.length : Int) = id
  few : l.length ≤ k
  bel : Below w.heap.size w wr
theorem seMay_two {v : Int} (h1 : 1 ≤ v) (h2 : v ≤ 1073741824) : seMay 2 v = true := by
  unfold seMay
  simp only [Bool.and_eq_true, decide_eq_true_eq]
  omega
set_option maxHeartbeats 8000000 in
set_option maxRecDepth 100000 in
theorem lives_walk (w : World) (a : Option Addr) (cap : Nat) (vs : List Int) (hv : IntsAt w (.slice a vs.length cap) vs) :
    Calls Try.prog 7 #[.slice a vs.length cap] w fun e w' => e = .returned (.bool true) ∧ Below w.heap.size w w' := by
  have HN : Hid (Calls Try.prog 9 #[] w (SeNew w)) := snew_any w
  obtain ⟨a', cap', e0, _, hx⟩ := hv.ex
  cases e0
  have HX : Hid _ := hx
  have hmx : vs.length ≤ 9223372036854775807 := hv.mx
  clear hv hx
  go_enter Try.func7, Try.ntmps7
  go_wp2_with (go_at_call 9; refine Calls.mono HN.out ?_; rintro r w1 ⟨⟨X, S1, rfl, h1, b1⟩⟩; have H1 : Hid (SeAt w1 w.heap.size X S1 []) := h1; have B1 : Hid (Below w.heap.size w w1) := b1; clear h1 b1)
  go_loopw [4, 5, 6] (fun t d i wr => ∃ (top id : Int) (k : Nat) (S : Nat → Prop) (l : List SeX), k ≤ vs.length ∧ k ≤ 100 ∧ t = .int .i64 top ∧ d = .int .i64 id ∧ i = .int .i64 k ∧ Hid (LvI w wr X top id k S l)) (fun _ _ i _ => vs.length - (intOf i).toNat)
  case atStart => exact ⟨0, 0, 0, S1, [], by omega, by omega, rfl, rfl, rfl, ⟨H1.out, rfl, rfl, rfl, Nat.le_refl _, B1.out⟩⟩
  case round =>
    obtain ⟨top, id, k, S, l, hk, hk100, rfl, rfl, rfl, I⟩ := hrel
    by_cases hkv : k < vs.length
    · have t1 : decide ((k : Int) < (vs.length : Int)) = true := decide_eq_true (by omega)
      have t1' : decide (k < vs.length) = true := decide_eq_true hkv
      by_cases hk2 : k < 100
      · have t2 : decide ((k : Int) < 100) = true := decide_eq_true (by omega)
        rcases HX.out with h0 | ⟨bk, off, rfl, hbk, hxx⟩
        · omega
        have z0 := (I.out.bel.cell (p := ⟨bk, off + k, none⟩) (by exact hbk)).trans (hxx k hkv)
        obtain ⟨v, hv⟩ : ∃ v, v = vs[k] := ⟨_, rfl⟩
        rw [← hv] at z0
        clear hxx hv
        by_cases hv1 : v < 1
        · have t3 : decide (v < 1) = true := decide_eq_true hv1
          clear hv1
          go_wp2
          exact ⟨⟨top, id, k + 1, S, l, by omega, by omega, rfl, rfl, by simp, ⟨I.out.at', I.out.top, I.out.idn, I.out.len, Nat.le_succ_of_le I.out.few, I.out.bel⟩⟩, by simp [intOf]; omega⟩
        have t3 : decide (v < 1) = false := decide_eq_false hv1
        by_cases hv2 : 1073741824 < v
        · have t4 : decide (1073741824 < v) = true := decide_eq_true hv2
          clear hv1 hv2
          go_wp2
          exact ⟨⟨top, id, k + 1, S, l, by omega, by omega, rfl, rfl, by simp, ⟨I.out.at', I.out.top, I.out.idn, I.out.len, Nat.le_succ_of_le I.out.few, I.out.bel⟩⟩, by simp [intOf]; omega⟩
        have t4 : decide (1073741824 < v) = false := decide_eq_false hv2
        have hmay := seMay_two (v := v) (by omega) (by omega)
        have hop := sopen_any (c := 2) (f := v) I.out.at' (by have := I.out.few; omega)
        have HT : Hid (1 ≤ v ∧ v ≤ 1073741824) := (show Hid _ from (⟨by omega, by omega⟩ : _ ∧ _))
        by_cases c1 : v < top
        · have e1 : seOpn l 2 v = (l, 0, false, 18) := by unfold seOpn; rw [if_neg (by rw [hmay]; decide), if_pos (by rw [I.out.top]; exact c1)]
          rw [e1] at hop
          have t5 : decide (v < top) = true := decide_eq_true c1
          have HP : Hid _ := hop
          clear hop e1 hmay hv1 hv2 c1
          go_wp2_with (go_at_call 22; refine Calls.mono HP.out ?_; rintro r w2 ⟨⟨S2, rfl, h2, k2⟩⟩; have H2 : Hid (SeAt w2 w.heap.size X S2 l) := h2; have B2 : Hid (Below w.heap.size w w2) := I.out.at'.lowk k2 I.out.bel (Nat.le_refl _); clear h2 k2)
          exact ⟨⟨top, id, k + 1, S2, l, by omega, by omega, rfl, rfl, by simp, ⟨H2.out, I.out.top, I.out.idn, I.out.len, Nat.le_succ_of_le I.out.few, B2.out⟩⟩, by simp [intOf]; omega⟩
        have t5 : decide (v < top) = false := decide_eq_false c1
        by_cases c2 : v = top
        · have e1 : seOpn l 2 v = (l, id, false, 0) := by unfold seOpn; rw [if_neg (by rw [hmay]; decide), if_neg (by rw [I.out.top]; exact c1), if_pos (by rw [I.out.top]; exact c2.symm), I.out.idn]
          rw [e1] at hop
          have t6 : (v == top) = true := by simpa using c2
          have HP : Hid _ := hop
          clear hop e1 hmay hv1 hv2 c1 c2
          go_wp2_with (go_at_call 22; refine Calls.mono HP.out ?_; rintro r w2 ⟨⟨S2, rfl, h2, k2⟩⟩; have H2 : Hid (SeAt w2 w.heap.size X S2 l) := h2; have B2 : Hid (Below w.heap.size w w2) := I.out.at'.lowk k2 I.out.bel (Nat.le_refl _); clear h2 k2)
          exact ⟨⟨top, id, k + 1, S2, l, by omega, by omega, rfl, rfl, by simp, ⟨H2.out, I.out.top, I.out.idn, I.out.len, Nat.le_succ_of_le I.out.few, B2.out⟩⟩, by simp [intOf]; omega⟩
        have t6 : (v == top) = false := by simpa using c2
        have hfew := seAllN_len l l.length
        have e1 : seOpn l 2 v = (l ++ [seNew 2 v], id + 1, true, 0) := by
          unfold seOpn
          rw [if_neg (by rw [hmay]; decide), if_neg (by rw [I.out.top]; exact c1), if_neg (by rw [I.out.top]; exact fun e => c2 e.symm), if_neg (by have := I.out.few; show ¬ 256 ≤ (seAll l).length; unfold seAll; omega), I.out.len]
        rw [e1] at hop
        have HP : Hid _ := hop
        have hid : 0 ≤ id ∧ id ≤ 100 := by have := I.out.few; have := I.out.len; omega
        clear hop e1 hmay hv1 hv2 c1 c2 hfew
        go_wp2_with (go_at_call 22; refine Calls.mono HP.out ?_; rintro r w2 ⟨⟨S2, rfl, h2, k2⟩⟩; have H2 : Hid (SeAt w2 w.heap.size X S2 (l ++ [seNew 2 v])) := h2; have B2 : Hid (Below w.heap.size w w2) := I.out.at'.lowk k2 I.out.bel (Nat.le_refl _); clear h2 k2)
        refine ⟨⟨v, id + 1, k + 1, S2, l ++ [seNew 2 v], by omega, by omega, rfl, rfl, by simp, ⟨H2.out, ?_, ?_, ?_, ?_, B2.out⟩⟩, by simp [intOf]; omega⟩
        · rw [seLif_app, if_pos (show (seNew 2 v).client = 2 from rfl)]
          rfl
        · rw [seLat_app, if_pos (show (seNew 2 v).client = 2 from rfl)]
          have := I.out.len
          push_cast
          omega
        · rw [List.length_append, List.length_singleton]
          have := I.out.len
          push_cast
          omega
        · rw [List.length_append, List.length_singleton]
          have := I.out.few
          omega
      · obtain rfl : k = 100 := by omega
        have t2 : decide ((100 : Int) < 100) = false := by decide
        go_wp2_with (go_at_call 19; refine (awake_any _).mono ?_; rintro r w9 ⟨rfl, b9⟩; have B9 : Hid _ := b9; clear b9)
        go_ret
        exact ⟨rfl, bmm I.out.bel I.out.bel.size B9.out⟩
    · obtain rfl : k = vs.length := by omega
      have t1 : decide ((vs.length : Int) < (vs.length : Int)) = false := decide_eq_false (by omega)
      go_wp2_with (go_at_call 19; refine (awake_any _).mono ?_; rintro r w9 ⟨rfl, b9⟩; have B9 : Hid _ := b9; clear b9)
      go_ret
      exact ⟨rfl, bmm I.out.bel I.out.bel.size B9.out⟩
end Go.Proofs.Ythokbififjhflaa
