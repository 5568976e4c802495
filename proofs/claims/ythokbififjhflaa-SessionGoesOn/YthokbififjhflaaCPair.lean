/-
  The two readers (package codec's and the document's) read alike; what was written is read. No condition.
-/
import Derived.Test.YthokbififjhflaaCRefText
namespace Go.Proofs.Ythokbififjhflaa
open Go.RowKit

/-- The two readers stand alike: as long as neither is bad they hold the same text. -/
def Pair (s1 s2 : ByteArray) (b : Bool) : Prop := (b = false → s1 = s2) ∧ (b = true → s1 = ⟨#[]⟩)

theorem pairU {s1 s2 : ByteArray} {b : Bool} (h : Pair s1 s2 b) : (xU s2 b).1 = (rU s1 b).1 ∧ (xU s2 b).2.2 = (rU s1 b).2.2 ∧ Pair (rU s1 b).2.1 (xU s2 b).2.1 (rU s1 b).2.2 := by
  cases b with
  | true =>
    obtain rfl := h.2 rfl
    have e1 : rU ⟨#[]⟩ true = (0, ⟨#[]⟩, true) := rfl
    have e2 : xU s2 true = (0, s2, true) := by unfold xU; rw [if_pos (Or.inl rfl)]
    rw [e1, e2]
    exact ⟨rfl, rfl, ⟨fun h => (by cases h), fun _ => rfl⟩⟩
  | false =>
    obtain rfl := h.1 rfl
    unfold rU xU
    by_cases hz : (num 0 0 s1.data.toList).2 = 0
    · rw [if_pos hz, if_pos (Or.inr hz)]
      exact ⟨rfl, rfl, ⟨fun h => (by cases h), fun _ => rfl⟩⟩
    · rw [if_neg hz, if_neg (by simp; exact hz)]
      exact ⟨rfl, rfl, ⟨fun _ => rfl, fun h => (by cases h)⟩⟩

theorem pairT {s1 s2 : ByteArray} {b : Bool} (h : Pair s1 s2 b) : (xT s2 b).1 = (rT s1 b).1 ∧ (xT s2 b).2.2 = (rT s1 b).2.2 ∧ Pair (rT s1 b).2.1 (xT s2 b).2.1 (rT s1 b).2.2 := by
  obtain ⟨h1, h2, h3⟩ := pairU h
  unfold rT xT
  rw [h1, h2]
  have hb0 : (rU s1 b).2.2 = true → (rU s1 b).1 = 0 := by
    intro hb
    cases b with
    | true => obtain rfl := h.2 rfl; rfl
    | false =>
      unfold rU at hb ⊢
      split
      · rfl
      · rename_i hz; rw [if_neg hz] at hb; cases hb
  generalize (rU s1 b).1 = N at *
  generalize (rU s1 b).2.1 = t1 at *
  generalize (rU s1 b).2.2 = c at *
  generalize (xU s2 b).2.1 = t2 at *
  cases c with
  | true =>
    obtain rfl := h3.2 rfl
    obtain rfl := hb0 rfl
    rw [if_pos (Or.inl rfl), if_neg (by simp)]
    exact ⟨rfl, rfl, ⟨fun h => (by cases h), fun _ => rfl⟩⟩
  | false =>
    obtain rfl := h3.1 rfl
    by_cases hc : 524288 < N ∨ t1.size < N
    · rw [if_pos hc, if_pos (Or.inr hc)]
      exact ⟨rfl, rfl, ⟨fun h => (by cases h), fun _ => rfl⟩⟩
    · rw [if_neg hc, if_neg (by simp; omega)]
      exact ⟨rfl, rfl, ⟨fun _ => rfl, fun h => (by cases h)⟩⟩

theorem pairD {s1 s2 : ByteArray} {b : Bool} (h : Pair s1 s2 b) : rD s2 b = rD s1 b := by
  cases b with
  | true => rfl
  | false => rw [h.1 rfl]

theorem rT_size (s : ByteArray) (b : Bool) : (rT s b).2.1.size ≤ s.size := by
  have h := rU_size s b
  unfold rT
  split
  · exact Nat.zero_le _
  · rw [Lib.size_eq, Lib.extract_to_end, List.length_drop, ← Lib.size_eq]
    omega
theorem xT_size (s : ByteArray) (b : Bool) : (xT s b).2.1.size ≤ s.size := by
  have h := xU_size s b
  unfold xT
  split
  · exact h
  · rw [Lib.size_eq, Lib.extract_to_end, List.length_drop, ← Lib.size_eq]
    omega

theorem rU_enc (n : Nat) (hn : n < 18446744073709551616) (rest : List UInt8) : rU ⟨(enc n ++ rest).toArray⟩ false = (n, ⟨rest.toArray⟩, false) := by
  have h := num_enc0 n hn rest
  have hp := enc_pos n
  have e : num 0 0 (⟨(enc n ++ rest).toArray⟩ : ByteArray).data.toList = (n, (enc n).length) := by simpa using h
  unfold rU
  rw [e, if_neg (by simp; intro h; rw [h] at hp; simp at hp)]
  have e2 : (⟨(enc n ++ rest).toArray⟩ : ByteArray).extract (enc n).length (⟨(enc n ++ rest).toArray⟩ : ByteArray).size = ⟨rest.toArray⟩ := by
    rw [Lib.extract_eq, size_list]
    simp
  simp only [e2]

theorem rT_text (S : ByteArray) (hS : S.size ≤ 524288) (rest : List UInt8) : rT ⟨(lenText S ++ rest).toArray⟩ false = (S, ⟨rest.toArray⟩, false) := by
  have h : rU ⟨(lenText S ++ rest).toArray⟩ false = (S.size, ⟨(S.data.toList ++ rest).toArray⟩, false) := by
    unfold lenText
    rw [List.append_assoc]
    exact rU_enc S.size (by omega) _
  have hl := Lib.size_eq S
  have hsz : (⟨(S.data.toList ++ rest).toArray⟩ : ByteArray).size = S.size + rest.length := by rw [size_list, List.length_append, ← hl]
  have x0 : (⟨(S.data.toList ++ rest).toArray⟩ : ByteArray).extract 0 S.size = S := by
    rw [Lib.extract_eq, hl]
    simp
  have x1 : (⟨(S.data.toList ++ rest).toArray⟩ : ByteArray).extract S.size (⟨(S.data.toList ++ rest).toArray⟩ : ByteArray).size = ⟨rest.toArray⟩ := by
    rw [hsz, Lib.extract_eq, hl]
    simp
  unfold rT
  rw [h]
  show (if 524288 < S.size ∨ (⟨(S.data.toList ++ rest).toArray⟩ : ByteArray).size < S.size then _ else ((⟨(S.data.toList ++ rest).toArray⟩ : ByteArray).extract 0 S.size, (⟨(S.data.toList ++ rest).toArray⟩ : ByteArray).extract S.size (⟨(S.data.toList ++ rest).toArray⟩ : ByteArray).size, false)) = _
  rw [if_neg (by rw [hsz]; omega), x0, x1]

theorem readI (R : Nat) (N : Int) (lo : -9223372036854775808 ≤ N) (hi : N ≤ 9223372036854775807) (rest : List UInt8) (hl : (enc (zig N) ++ rest).length ≤ 9223372036854775807) (w : World) (h : Rd w R ⟨(enc (zig N) ++ rest).toArray⟩ false) :
    Calls Try.prog 41 #[.pointer (some ⟨R, 0, none⟩)] w fun e w' => e = .returned (.int .i64 N) ∧ Rd w' R ⟨rest.toArray⟩ false ∧ w.grownBy w' (some R) := by
  have := rint_any R _ false (by rw [size_list]; exact hl) w h
  rw [rU_enc (zig N) (zig_bound lo hi) rest, zag_zig] at this
  exact this
theorem readU (R : Nat) (U : Nat) (hu : U < 18446744073709551616) (rest : List UInt8) (hl : (enc U ++ rest).length ≤ 9223372036854775807) (w : World) (h : Rd w R ⟨(enc U ++ rest).toArray⟩ false) :
    Calls Try.prog 58 #[.pointer (some ⟨R, 0, none⟩)] w fun e w' => e = .returned (.int .u64 U) ∧ Rd w' R ⟨rest.toArray⟩ false ∧ w.grownBy w' (some R) := by
  have := ru64_any R _ false (by rw [size_list]; exact hl) w h
  rw [rU_enc U hu rest] at this
  exact this
end Go.Proofs.Ythokbififjhflaa
