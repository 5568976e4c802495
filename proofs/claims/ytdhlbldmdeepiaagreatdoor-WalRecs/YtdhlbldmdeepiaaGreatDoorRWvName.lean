/-
  The names of segments (package wal): a number's name, a name's number. The condition: the number is below 100.
-/
import Derived.Test.YtdhlbldmdeepiaaGreatDoorRWlName
import Derived.Test.YtdhlbldmdeepiaaGreatDoorRSE
import Derived.Test.YtdhlbldmdeepiaaGreatDoorRPackA
import Derived.Lib.BufferRead
import Derived.Lib.AtoiErrMem
namespace Go.Proofs.YtdhlbldmdeepiaaGreatDoor
open Go.RowKit

/-- A segment's name, as a string; the name of the file that is to be renamed. -/
def segB (k : Nat) : ByteArray := ⟨(segOf k).toArray⟩
def tmpB : ByteArray := ⟨#[108, 111, 103, 46, 116, 109, 112]⟩
theorem decDigits_small (k : Nat) (h : k < 100) : Lib.decDigits k = digs k := by
  rw [Lib.decDigits]
  by_cases h1 : k < 10
  · rw [dif_pos h1, digs_few h1]
  · rw [dif_neg h1, digs_more (by omega) (by omega), Lib.decDigits, dif_pos (by omega), digs_few (by omega)]
theorem digs_two (k : Nat) (h : k < 100) : 1 ≤ (digs k).length ∧ (digs k).length ≤ 2 := by
  by_cases h1 : k < 10
  · rw [digs_few h1]
    exact ⟨Nat.le_refl _, Nat.le_succ 1⟩
  · rw [digs_more (by omega) (by omega), digs_few (n := k / 10) (by omega)]
    exact ⟨Nat.le_succ 1, Nat.le_refl _⟩
theorem segB_size (k : Nat) (h : k < 100) : 5 ≤ (segB k).size ∧ (segB k).size ≤ 6 := by
  have := digs_two k h
  have e : (segB k).size = 4 + (digs k).length := by
    show (segOf k).toArray.size = _
    rw [List.size_toArray]
    unfold segOf
    rw [List.length_append]
    rfl
  omega
theorem segB_log (k : Nat) : (⟨#[108, 111, 103, 46]⟩ : ByteArray) ++ ⟨(digs k).toArray⟩ = segB k := by
  apply ByteArray.ext
  apply Array.ext'
  simp [segB, segOf, logP, ByteArray.data_append]
theorem trim_seg (k : Nat) : Lib.trimPrefix (segB k).data.toList (⟨#[108, 111, 103, 46]⟩ : ByteArray).data.toList = digs k := by
  have e : (segB k).data.toList = logP ++ digs k := by simp [segB, segOf]
  rw [e]
  show Lib.trimPrefix (logP ++ digs k) logP = digs k
  unfold Lib.trimPrefix Lib.hasPrefix
  rw [if_pos (by simp [List.isPrefixOf_iff_prefix]), List.drop_left]
theorem atoi_digs : ∀ k, k < 100 → Lib.atoi (digs k) = some (k : Int) := by decide
theorem segB_inj : ∀ a, a < 100 → ∀ b, b < 100 → segOf a = segOf b → a = b := by
  intro a ha b hb h
  have h1 : digs a = digs b := List.append_cancel_left h
  have h2 := atoi_digs a ha
  rw [h1, atoi_digs b hb] at h2
  have := Option.some.inj h2
  omega
theorem segB_ne {a b : Nat} (ha : a < 100) (hb : b < 100) (h : a ≠ b) : segB a ≠ segB b := fun e => h (segB_inj a ha b hb (by
  have := congrArg (fun s : ByteArray => s.data.toList) e
  simpa [segB] using this))
theorem segB_tmp {a : Nat} (ha : a < 100) : segB a ≠ tmpB := fun e => by
  have h := segB_size a ha
  rw [e] at h
  have : tmpB.size = 7 := rfl
  omega
set_option maxRecDepth 100000 in
theorem segName_any (k : Nat) (hk : k < 100) (w : World) :
    Calls Tryz.prog 48 #[.int .i64 (k : Int)] w fun e w' => e = .returned (.string (segB k)) ∧ w = w' := by
  have q0 := Tryz.strconv_Itoa_small k hk
  rw [decDigits_small k hk] at q0
  have q := fun w => (q0 w).mono fun e w' h => (⟨h.1, h.2.symm⟩ : e = _ ∧ w = w')
  clear q0
  obtain ⟨d, hd⟩ : ∃ d : ByteArray, d = ⟨(digs k).toArray⟩ := ⟨_, rfl⟩
  have zd : d.size ≤ 2 := by
    rw [hd]
    show (digs k).toArray.size ≤ 2
    rw [List.size_toArray]
    exact (digs_two k hk).2
  have HE : Hid ((⟨#[108, 111, 103, 46]⟩ : ByteArray) ++ d = segB k) := by rw [hd]; exact segB_log k
  rw [← hd] at q
  rw [← HE.out]
  clear hd HE
  go_enter Tryz.func48, Tryz.ntmps48
  go_wp2_with (go_at_call 88; refine (q _).mono ?_; rintro e w' ⟨rfl, rfl⟩)
  go_ret
  exact ⟨rfl, rfl⟩
set_option maxHeartbeats 3200000 in
set_option maxRecDepth 100000 in
theorem segNumber_any (k : Nat) (h1 : 1 ≤ k) (hk : k < 100) (w : World) :
    Calls Tryz.prog 82 #[.string (segB k)] w fun e w' => e = .returned (.int .i64 (k : Int)) ∧ Below w.heap.size w w' := by
  have qt0 := Tryz.strings_TrimPrefix (segB k) ⟨#[108, 111, 103, 46]⟩
  rw [trim_seg k] at qt0
  have qt := fun w => (qt0 w).mono fun e w' h => (⟨h.1, h.2.symm⟩ : e = _ ∧ w = w')
  clear qt0
  have qa := Tryz.strconv_Atoi ⟨(digs k).toArray⟩ (k : Int) (by
    show (digs k).toArray.size ≤ 18
    rw [List.size_toArray]
    have := digs_two k hk
    omega) (by
    show Lib.atoi (digs k).toArray.toList = _
    rw [List.toList_toArray]
    exact atoi_digs k hk)
  have qs := segName_any k hk
  obtain ⟨d, hd⟩ : ∃ d : ByteArray, d = ⟨(digs k).toArray⟩ := ⟨_, rfl⟩
  obtain ⟨s, hs⟩ : ∃ s : ByteArray, s = segB k := ⟨_, rfl⟩
  rw [← hd] at qt qa
  rw [← hs] at qt qs ⊢
  clear hd hs
  have k1 : ((k : Int) < 1) = False := eq_false (by omega)
  have k2 : ((9999999999999999 : Int) < (k : Int)) = False := eq_false (by omega)
  go_enter Tryz.func82, Tryz.ntmps82
  go_wp2_with (first
    | (go_at_call 48; have y := b2; refine (qs _).mono ?_; rintro e w3 ⟨rfl, rfl⟩)
    | (go_at_call 109; refine (qa _).mono ?_; rintro e w2 ⟨rfl, t, hw⟩; have b2 : Below w.heap.size w w2 := (by rw [hw]; exact Lib.bytesWorld_below _ _ _); clear hw)
    | (go_at_call 110; refine (qt _).mono ?_; rintro e w1 ⟨rfl, rfl⟩))
  go_ret
  exact ⟨rfl, b2⟩
end Go.Proofs.YtdhlbldmdeepiaaGreatDoor
