/-
  The program's net: a new one, how many there are, whether it is full, whether there is a packet at a place; what is refused. No condition.
-/
import Derived.Test.YtpbkpaendhpbfaaNtMem
namespace Go.Proofs.Ytpbkpaendhpbfaa
open Go.RowKit

abbrev PT : TypeId := 70
/-- Whether there is such a place. -/
def inR (n : Int) (k : Nat) : Bool := decide (0 ≤ n) && decide (n < (k : Int))
theorem pnew_any (w : World) : Calls Try.prog 12 #[] w fun e w' => e = .returned (.pointer (some ⟨w.heap.size, 0, none⟩)) ∧ w' = w.alloc (.cells #[.slice none 0 0] PT) := by
  go_enter Try.func12, Try.ntmps12
  go_wp2
  go_ret
  exact ⟨rfl, rfl⟩
theorem plen_nil (w : World) : Calls Try.prog 21 #[.pointer none] w fun e w' => e = .returned (.int .i64 0) ∧ w = w' := by
  go_enter Try.func21, Try.ntmps21
  go_wp2
  go_ret
  exact ⟨rfl, rfl⟩
theorem plen_any {w : World} {base D : Nat} {S : Nat → Prop} {L : List ByteArray} (h : NtAt PT w base D S L) : Calls Try.prog 21 #[.pointer (some ⟨D, 0, none⟩)] w fun e w' => e = .returned (.int .i64 (L.length : Int)) ∧ w = w' := by
  obtain ⟨p, c, hb, hr, ho, hz⟩ := h.cells
  have c0 : w.cell? ⟨D, 0, none⟩ = some (.slice p L.length c) := by simp [World.cell?, hb]
  clear h hb hr ho hz
  go_enter Try.func21, Try.ntmps21
  go_wp2
  go_ret
  exact ⟨rfl, rfl⟩
theorem pfull_any {w : World} {base D : Nat} {S : Nat → Prop} {L : List ByteArray} (h : NtAt PT w base D S L) : Calls Try.prog 41 #[.pointer (some ⟨D, 0, none⟩)] w fun e w' => e = .returned (.bool (decide (4096 ≤ L.length))) ∧ w = w' := by
  obtain ⟨p, c, hb, hr, ho, hz⟩ := h.cells
  have c0 : w.cell? ⟨D, 0, none⟩ = some (.slice p L.length c) := by simp [World.cell?, hb]
  clear h hb hr ho hz
  go_enter Try.func41, Try.ntmps41
  go_wp2
  go_ret
  exact ⟨congrArg (fun b => Ending.returned (.bool b)) (decide_eq_decide.2 (by omega)), rfl⟩
theorem phas_nil (n : Int) (w : World) : Calls Try.prog 43 #[.pointer none, .int .i64 n] w fun e w' => e = .returned (.bool false) ∧ w = w' := by
  by_cases h : (0 : Int) ≤ n
  · have h1 : decide ((0 : Int) ≤ n) = true := by simpa using h
    have h2 : decide (n < (0 : Int)) = false := by simpa using h
    go_enter Try.func43, Try.ntmps43
    go_wp2_with (go_at_call 21; refine (plen_nil _).mono ?_; rintro e w1 ⟨rfl, rfl⟩)
    go_ret
    exact ⟨rfl, rfl⟩
  · have h1 : decide ((0 : Int) ≤ n) = false := by simpa using h
    go_enter Try.func43, Try.ntmps43
    go_wp2
    go_ret
    exact ⟨rfl, rfl⟩
theorem phas_any {w : World} {base D : Nat} {S : Nat → Prop} {L : List ByteArray} (n : Int) (h : NtAt PT w base D S L) : Calls Try.prog 43 #[.pointer (some ⟨D, 0, none⟩), .int .i64 n] w fun e w' => e = .returned (.bool (inR n L.length)) ∧ w = w' := by
  unfold inR
  by_cases h0 : (0 : Int) ≤ n
  · have h1 : decide ((0 : Int) ≤ n) = true := by simpa using h0
    rw [h1, Bool.true_and]
    go_enter Try.func43, Try.ntmps43
    go_wp2_with (go_at_call 21; refine (plen_any h).mono ?_; rintro e w1 ⟨rfl, rfl⟩)
    go_ret
    exact ⟨rfl, rfl⟩
  · have h1 : decide ((0 : Int) ≤ n) = false := by simpa using h0
    rw [h1, Bool.false_and]
    go_enter Try.func43, Try.ntmps43
    go_wp2
    go_ret
    exact ⟨rfl, rfl⟩
/-- Refused. -/
theorem ppeek_nil (n : Int) (w : World) : Calls Try.prog 17 #[.pointer none, .int .i64 n] w fun e w' => e = .returned (.tuple #[.string ⟨#[]⟩, .int .i64 1]) ∧ w = w' := by
  go_enter Try.func17, Try.ntmps17
  go_wp2_with (go_at_call 43; refine (phas_nil _ _).mono ?_; rintro e w1 ⟨rfl, rfl⟩)
  go_ret2
  exact ⟨rfl, rfl⟩
theorem ppeek_no {w : World} {base D : Nat} {S : Nat → Prop} {L : List ByteArray} (n : Int) (h : NtAt PT w base D S L) (hn : inR n L.length = false) : Calls Try.prog 17 #[.pointer (some ⟨D, 0, none⟩), .int .i64 n] w fun e w' => e = .returned (.tuple #[.string ⟨#[]⟩, .int .i64 1]) ∧ w = w' := by
  go_enter Try.func17, Try.ntmps17
  go_wp2_with (go_at_call 43; refine (phas_any n h).mono ?_; rw [hn]; rintro e w1 ⟨rfl, rfl⟩)
  go_ret2
  exact ⟨rfl, rfl⟩
theorem ptake_nil (n : Int) (w : World) : Calls Try.prog 15 #[.pointer none, .int .i64 n] w fun e w' => e = .returned (.tuple #[.string ⟨#[]⟩, .int .i64 1]) ∧ w = w' := by
  go_enter Try.func15, Try.ntmps15
  go_wp2_with (go_at_call 17; refine (ppeek_nil _ _).mono ?_; rintro e w1 ⟨rfl, rfl⟩)
  go_ret2
  exact ⟨rfl, rfl⟩
theorem ptake_no {w : World} {base D : Nat} {S : Nat → Prop} {L : List ByteArray} (n : Int) (h : NtAt PT w base D S L) (hn : inR n L.length = false) : Calls Try.prog 15 #[.pointer (some ⟨D, 0, none⟩), .int .i64 n] w fun e w' => e = .returned (.tuple #[.string ⟨#[]⟩, .int .i64 1]) ∧ w = w' := by
  go_enter Try.func15, Try.ntmps15
  go_wp2_with (go_at_call 17; refine (ppeek_no n h hn).mono ?_; rintro e w1 ⟨rfl, rfl⟩)
  go_ret2
  exact ⟨rfl, rfl⟩
theorem pdouble_nil (n : Int) (w : World) : Calls Try.prog 19 #[.pointer none, .int .i64 n] w fun e w' => e = .returned (.int .i64 1) ∧ w = w' := by
  go_enter Try.func19, Try.ntmps19
  go_wp2_with (go_at_call 43; refine (phas_nil _ _).mono ?_; rintro e w1 ⟨rfl, rfl⟩)
  go_ret
  exact ⟨rfl, rfl⟩
theorem pdouble_no {w : World} {base D : Nat} {S : Nat → Prop} {L : List ByteArray} (n : Int) (h : NtAt PT w base D S L) (hn : inR n L.length = false) : Calls Try.prog 19 #[.pointer (some ⟨D, 0, none⟩), .int .i64 n] w fun e w' => e = .returned (.int .i64 1) ∧ w = w' := by
  go_enter Try.func19, Try.ntmps19
  go_wp2_with (go_at_call 43; refine (phas_any n h).mono ?_; rw [hn]; rintro e w1 ⟨rfl, rfl⟩)
  go_ret
  exact ⟨rfl, rfl⟩
theorem pdouble_full {w : World} {base D : Nat} {S : Nat → Prop} {L : List ByteArray} (n : Int) (h : NtAt PT w base D S L) (hn : inR n L.length = true) (hf : 4096 ≤ L.length) : Calls Try.prog 19 #[.pointer (some ⟨D, 0, none⟩), .int .i64 n] w fun e w' => e = .returned (.int .i64 17) ∧ w = w' := by
  have hf' : decide (4096 ≤ L.length) = true := by simpa using hf
  go_enter Try.func19, Try.ntmps19
  go_wp2_with (first
    | (go_at_call 41; refine (pfull_any h).mono ?_; rw [hf']; rintro e w1 ⟨rfl, rfl⟩)
    | (go_at_call 43; refine (phas_any n h).mono ?_; rw [hn]; rintro e w1 ⟨rfl, rfl⟩))
  go_ret
  exact ⟨rfl, rfl⟩
theorem psend_nil (s : ByteArray) (w : World) : Calls Try.prog 13 #[.pointer none, .string s] w fun e w' => e = .returned (.int .i64 1) ∧ w = w' := by
  go_enter Try.func13, Try.ntmps13
  go_wp2
  go_ret
  exact ⟨rfl, rfl⟩
theorem psend_full {w : World} {base D : Nat} {S : Nat → Prop} {L : List ByteArray} (s : ByteArray) (h : NtAt PT w base D S L) (hf : 4096 ≤ L.length) : Calls Try.prog 13 #[.pointer (some ⟨D, 0, none⟩), .string s] w fun e w' => e = .returned (.int .i64 17) ∧ w = w' := by
  have hf' : decide (4096 ≤ L.length) = true := by simpa using hf
  go_enter Try.func13, Try.ntmps13
  go_wp2_with (go_at_call 41; refine (pfull_any h).mono ?_; rw [hf']; rintro e w1 ⟨rfl, rfl⟩)
  go_ret
  exact ⟨rfl, rfl⟩
theorem psend_long {w : World} {base D : Nat} {S : Nat → Prop} {L : List ByteArray} (s : ByteArray) (h : NtAt PT w base D S L) (hf : L.length < 4096) (hs : 524288 < s.size) : Calls Try.prog 13 #[.pointer (some ⟨D, 0, none⟩), .string s] w fun e w' => e = .returned (.int .i64 15) ∧ w = w' := by
  have hf' : decide (4096 ≤ L.length) = false := by simpa using hf
  have hs' : decide ((524288 : Int) < (s.size : Int)) = true := by simp; omega
  go_enter Try.func13, Try.ntmps13
  go_wp2_with (go_at_call 41; refine (pfull_any h).mono ?_; rw [hf']; rintro e w1 ⟨rfl, rfl⟩)
  go_ret
  exact ⟨rfl, rfl⟩
theorem pall_nil (w : World) : Calls Try.prog 23 #[.pointer none] w fun e w' => e = .returned (.slice none 0 0) ∧ w = w' := by
  go_enter Try.func23, Try.ntmps23
  go_wp2
  go_ret
  exact ⟨rfl, rfl⟩
end Go.Proofs.Ytpbkpaendhpbfaa
