/-
  DiskNames of layer 5, walked: a file that is renamed is what it was, under the other name alone, also behind a crash. No condition.
-/
import Derived.Test.YtihlbdjghofblaaQName
namespace Go.Proofs.Ytihlbdjghofblaa
open Go.RowKit

set_option maxHeartbeats 3200000 in
set_option maxRecDepth 100000 in
theorem names_long (a b s : ByteArray) (w : World) (hs : 1000 < s.size) :
    Calls Try.prog 5 #[.string a, .string b, .string s] w fun e w' => e = .returned (.bool true) ∧ Below w.heap.size w w' := by
  have t1 : decide ((1000 : Int) < (s.size : Int)) = true := by simp; omega
  go_enter Try.func5, Try.ntmps5
  go_wp2_with (go_at_call 11; refine (awake_any _).mono ?_; rintro e w9 ⟨rfl, bel⟩)
  go_ret
  exact ⟨rfl, bel⟩
set_option maxHeartbeats 3200000 in
set_option maxRecDepth 100000 in
theorem names_bad (a b s : ByteArray) (w : World) (hs : ¬ 1000 < s.size) (hbad : nameB a = false) :
    Calls Try.prog 5 #[.string a, .string b, .string s] w fun e w' => e = .returned (.bool true) ∧ Below w.heap.size w w' := by
  have t1 : decide ((1000 : Int) < (s.size : Int)) = false := by simp; omega
  have hn := new_S w
  obtain ⟨B, hBe⟩ : ∃ B, B = w.heap.size := ⟨_, rfl⟩
  rw [← hBe] at hn ⊢
  have HBL : Hid (B ≤ w.heap.size) := by rw [hBe]; exact Nat.le_refl _
  clear hBe
  by_cases h1 : a.size < 1
  · have t2 : decide ((a.size : Int) < 1) = true := by simp; omega
    have t3 : decide ((1 : Int) ≤ (a.size : Int)) = false := by simp; omega
    go_enter Try.func5, Try.ntmps5
    go_wp2_with (first
      | (go_at_call 11; have bz := b2; refine (awake_any _).mono ?_; rintro e w9 ⟨rfl, b9⟩; have bf := bel_next bz HBL.out b9)
      | (go_at_call 12; have kk := k1; refine (append_bad B a s _ hbad).mono ?_; rintro e w2 ⟨rfl, rfl⟩; have b2 := b1; clear k1 kk)
      | (go_at_call 8; refine hn.mono ?_; rintro e w1 ⟨rfl, ro1, k1, b1⟩))
    go_ret
    exact ⟨rfl, bf⟩
  · have h2 : 64 < a.size := by
      unfold nameB at hbad
      simp at hbad
      omega
    have t2 : decide ((a.size : Int) < 1) = false := by simp; omega
    have t3 : decide ((64 : Int) < (a.size : Int)) = true := by simp; omega
    have t4 : decide ((1 : Int) ≤ (a.size : Int)) = true := by simp; omega
    have t5 : decide ((a.size : Int) ≤ 64) = false := by simp; omega
    go_enter Try.func5, Try.ntmps5
    go_wp2_with (first
      | (go_at_call 11; have bz := b2; refine (awake_any _).mono ?_; rintro e w9 ⟨rfl, b9⟩; have bf := bel_next bz HBL.out b9)
      | (go_at_call 12; have kk := k1; refine (append_bad B a s _ hbad).mono ?_; rintro e w2 ⟨rfl, rfl⟩; have b2 := b1; clear k1 kk)
      | (go_at_call 8; refine hn.mono ?_; rintro e w1 ⟨rfl, ro1, k1, b1⟩))
    go_ret
    exact ⟨rfl, bf⟩
set_option maxHeartbeats 3200000 in
set_option maxRecDepth 100000 in
theorem names_badB (a b s : ByteArray) (w : World) (hs : ¬ 1000 < s.size) (hna : nameB a = true) (hbad : nameB b = false) :
    Calls Try.prog 5 #[.string a, .string b, .string s] w fun e w' => e = .returned (.bool true) ∧ Below w.heap.size w w' := by
  have t1 : decide ((1000 : Int) < (s.size : Int)) = false := by simp; omega
  have ha := name_le hna
  have t2 : decide ((a.size : Int) < 1) = false := by simp; omega
  have t3 : decide ((64 : Int) < (a.size : Int)) = false := by simp; omega
  have t4 : decide ((1 : Int) ≤ (a.size : Int)) = true := by simp; omega
  have t5 : decide ((a.size : Int) ≤ 64) = true := by simp; omega
  have hn := new_S w
  obtain ⟨B, hBe⟩ : ∃ B, B = w.heap.size := ⟨_, rfl⟩
  rw [← hBe] at hn ⊢
  have HBL : Hid (B ≤ w.heap.size) := by rw [hBe]; exact Nat.le_refl _
  clear hBe
  by_cases h1 : b.size < 1
  · have t6 : decide ((b.size : Int) < 1) = true := by simp; omega
    go_enter Try.func5, Try.ntmps5
    go_wp2_with (first
      | (go_at_call 11; have bz := b2; refine (awake_any _).mono ?_; rintro e w9 ⟨rfl, b9⟩; have bf := bel_next bz HBL.out b9)
      | (go_at_call 12; refine (nm_append k1 a s hna rfl (by omega) (by decide)).mono ?_; rintro e w2 ⟨rfl, c, ro2, k2, x2⟩; have b2 := b1.trans x2; clear k1 k2 x2)
      | (go_at_call 8; refine hn.mono ?_; rintro e w1 ⟨rfl, ro1, k1, b1⟩))
    go_ret
    exact ⟨rfl, bf⟩
  · have h2 : 64 < b.size := by
      unfold nameB at hbad
      simp at hbad
      omega
    have t6 : decide ((b.size : Int) < 1) = false := by simp; omega
    have t7 : decide ((64 : Int) < (b.size : Int)) = true := by simp; omega
    go_enter Try.func5, Try.ntmps5
    go_wp2_with (first
      | (go_at_call 11; have bz := b2; refine (awake_any _).mono ?_; rintro e w9 ⟨rfl, b9⟩; have bf := bel_next bz HBL.out b9)
      | (go_at_call 12; refine (nm_append k1 a s hna rfl (by omega) (by decide)).mono ?_; rintro e w2 ⟨rfl, c, ro2, k2, x2⟩; have b2 := b1.trans x2; clear k1 k2 x2)
      | (go_at_call 8; refine hn.mono ?_; rintro e w1 ⟨rfl, ro1, k1, b1⟩))
    go_ret
    exact ⟨rfl, bf⟩
set_option maxHeartbeats 3200000 in
set_option maxRecDepth 100000 in
theorem names_walk (a b s : ByteArray) (w : World) :
    Calls Try.prog 5 #[.string a, .string b, .string s] w fun e w' => e = .returned (.bool true) ∧ Below w.heap.size w w' := by
  by_cases hs : 1000 < s.size
  · exact names_long a b s w hs
  cases hna : nameB a with
  | false => exact names_bad a b s w hs hna
  | true =>
  cases hnb : nameB b with
  | false => exact names_badB a b s w hs hna hnb
  | true =>
  have t1 : decide ((1000 : Int) < (s.size : Int)) = false := by simp; omega
  have ha := name_le hna
  have hb := name_le hnb
  have ham : a.size ≤ maxLen := Nat.le_trans ha.1 (by unfold maxLen; decide)
  have hbm : b.size ≤ maxLen := Nat.le_trans hb.1 (by unfold maxLen; decide)
  have t2 : decide ((a.size : Int) < 1) = false := by simp; omega
  have t3 : decide ((64 : Int) < (a.size : Int)) = false := by simp; omega
  have t6 : decide ((b.size : Int) < 1) = false := by simp; omega
  have t7 : decide ((64 : Int) < (b.size : Int)) = false := by simp; omega
  have hn := new_S w
  obtain ⟨B, hBe⟩ : ∃ B, B = w.heap.size := ⟨_, rfl⟩
  rw [← hBe] at hn ⊢
  have HBL : Hid (B ≤ w.heap.size) := by rw [hBe]; exact Nat.le_refl _
  clear hBe
  by_cases hab : a = b
  · subst hab
    clear hb t6 t7
    go_enter Try.func5, Try.ntmps5
    go_wp2_with (first
      | (go_at_call 11; have bz := bel_next b7 HBL.out b10; refine (awake_any _).mono ?_; rintro e w11 ⟨rfl, b11⟩; have bf := bel_next bz HBL.out b11)
      | (go_at_call 19; refine (nm_files k9).mono ?_; rintro e w10 ⟨p, cap, rfl, b10⟩; clear k9)
      | (go_at_call 15; refine (nm_read k8 ham).mono ?_; rintro e w9 ⟨rfl, rfl⟩; have k9 := k8; clear k8)
      | (go_at_call 15; refine (nm_read k7 hbm).mono ?_; rintro e w8 ⟨rfl, rfl⟩; have k8 := k7; clear k7)
      | (go_at_call 14; refine (nm_crash k6).mono ?_; rintro e w7 ⟨rfl, k7, x7⟩; have b7 := b6.trans x7; clear k6 b6 x7)
      | (go_at_call 18; refine (nm_rename k5 (Or.inl rfl) ham hnb).mono ?_; rintro e w6 ⟨rfl, k6, x6⟩; have b6 := b5.trans x6; clear k5 b5 x6)
      | (go_at_call 13; refine (nm_sync (A := []) k4 rfl ham).mono ?_; rintro e w5 ⟨rfl, k5, x5⟩; have b5 := b4.trans x5; clear k4 b4 x5)
      | (go_at_call 12; refine (nm_append k3 a s hna rfl (by omega) (by decide)).mono ?_; rintro e w4 ⟨rfl, c, ro4, k4, x4⟩; have b4 := b3.trans x4; clear k3 b3 x4)
      | (go_at_call 17; refine (nm_gone k2 ham).mono ?_; rintro e w3 ⟨rfl, k3, x3⟩; have b3 := b2.trans x3; clear k2 b2 x3)
      | (go_at_call 12; refine (nm_way k1 a hnb).mono ?_; rintro e w2 ⟨rfl, c1, ro2, k2, x2⟩; have b2 := b1.trans x2; clear k1 b1 x2)
      | (go_at_call 8; refine hn.mono ?_; rintro e w1 ⟨rfl, ro1, k1, b1⟩))
    go_ret
    exact ⟨rfl, bf⟩
  · have hne : ¬ b = a := fun e => hab e.symm
    have n1 : (a.toList == b.toList) = false := by
      rw [beq_eq_false_iff_ne]
      exact fun e => hab (texts_inj e)
    have n2 : ¬ a.toList = b.toList := fun e => hab (texts_inj e)
    clear hab
    go_enter Try.func5, Try.ntmps5
    go_wp2_with (first
      | (go_at_call 11; have bz := bel_next b7 HBL.out b10; refine (awake_any _).mono ?_; rintro e w11 ⟨rfl, b11⟩; have bf := bel_next bz HBL.out b11)
      | (go_at_call 19; refine (nm_files k9).mono ?_; rintro e w10 ⟨p, cap, rfl, b10⟩; clear k9)
      | (go_at_call 15; refine (nm_away k8 ham hne).mono ?_; rintro e w9 ⟨rfl, rfl⟩; have k9 := k8; clear k8)
      | (go_at_call 15; refine (nm_read k7 hbm).mono ?_; rintro e w8 ⟨rfl, rfl⟩; have k8 := k7; clear k7)
      | (go_at_call 14; refine (nm_crash k6).mono ?_; rintro e w7 ⟨rfl, k7, x7⟩; have b7 := b6.trans x7; clear k6 b6 x7)
      | (go_at_call 18; refine (nm_rename k5 (Or.inr ⟨c1, rfl, hne⟩) ham hnb).mono ?_; rintro e w6 ⟨rfl, k6, x6⟩; have b6 := b5.trans x6; clear k5 b5 x6)
      | (go_at_call 13; refine (nm_sync (A := (wayF b c1)) k4 (lk_one_no _ _ hne) ham).mono ?_; rintro e w5 ⟨rfl, k5, x5⟩; have b5 := b4.trans x5; clear k4 b4 x5)
      | (go_at_call 12; refine (nm_append k3 a s hna (lk_one_no _ _ hne) (by omega) (by decide)).mono ?_; rintro e w4 ⟨rfl, c, ro4, k4, x4⟩; have b4 := b3.trans x4; clear k3 b3 x4)
      | (go_at_call 17; refine (nm_stays k2 ham hne).mono ?_; rintro e w3 ⟨rfl, rfl⟩; have k3 := k2; have b3 := b2; clear k2 b2)
      | (go_at_call 12; refine (nm_way k1 b hnb).mono ?_; rintro e w2 ⟨rfl, c1, ro2, k2, x2⟩; have b2 := b1.trans x2; clear k1 b1 x2)
      | (go_at_call 8; refine hn.mono ?_; rintro e w1 ⟨rfl, ro1, k1, b1⟩))
    go_ret
    exact ⟨rfl, bf⟩
end Go.Proofs.Ytihlbdjghofblaa
