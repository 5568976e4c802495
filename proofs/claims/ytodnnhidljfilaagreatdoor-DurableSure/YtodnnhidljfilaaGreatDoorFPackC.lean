/-
  Parts of the proof, laid together: CmPlain, CmRef, CmMayA, CmMayB, CmMayC, CmMayD, CmMay, CmREnc, CmRDec, CmRDecE. The conditions stand at each part.
-/
import Derived.Deep.RegionHeld3
import Derived.BigQuiet
import Derived.WalkSmall
import Derived.Test.YtodnnhidljfilaaGreatDoorFPackB
/-
  Commands and entries, as plain data: which may be, their bytes, how bytes are read as one; what is read of bytes has just these bytes. No condition.
-/
namespace Go.Proofs.YtodnnhidljfilaaGreatDoor

/-! ### A number has one row of bytes -/
theorem num_only : ∀ (l : List UInt8) (X k : Nat), k ≤ 9 → (num X k l).2 ≠ 0 →
    ∃ e, (num X k l).1 = X + e * 2 ^ (7 * k) ∧ (num X k l).2 = k + (enc e).length ∧ l.take (enc e).length = enc e ∧ (k = 0 ∨ e ≠ 0)
  | [], _, _, _, h => absurd rfl h
  | c :: r, X, k, hk, h => by
    have hc : c.toNat < 256 := UInt8.toNat_lt c
    have hof : UInt8.ofNat c.toNat = c := by
      apply UInt8.toNat_inj.1
      rw [byte_ofNat hc]
    unfold num at h ⊢
    by_cases h9 : k = 9 ∧ 1 < c.toNat
    · rw [if_pos h9] at h
      exact absurd rfl h
    · rw [if_neg h9] at h ⊢
      by_cases h128 : 128 ≤ c.toNat
      · rw [if_pos h128] at h ⊢
        obtain ⟨e, h1, h2, h3, h4⟩ := num_only r (X + c.toNat % 128 * 2 ^ (7 * k)) (k + 1) (by omega) h
        have he : e ≠ 0 := by omega
        have hge : 128 ≤ c.toNat % 128 + 128 * e := by omega
        have hen : enc (c.toNat % 128 + 128 * e) = c :: enc e := by
          rw [enc_ge hge, show (c.toNat % 128 + 128 * e) % 128 + 128 = c.toNat by omega, show (c.toNat % 128 + 128 * e) / 128 = e by omega, hof]
        refine ⟨c.toNat % 128 + 128 * e, ?_, ?_, ?_, Or.inr (by omega)⟩
        · rw [h1, pow7, Nat.add_mul, Nat.add_assoc, ← Nat.mul_assoc, Nat.mul_comm e 128]
        · rw [h2, hen, List.length_cons]
          omega
        · rw [hen, List.length_cons, List.take_succ_cons, h3]
      · rw [if_neg h128] at h ⊢
        by_cases h0 : c.toNat = 0 ∧ 0 < k
        · rw [if_pos h0] at h
          exact absurd rfl h
        · rw [if_neg h0]
          have hlt : c.toNat < 128 := by omega
          refine ⟨c.toNat, by rw [Nat.mod_eq_of_lt hlt], by rw [enc_len_lt hlt], ?_, by omega⟩
          rw [enc_lt hlt, hof]
          rfl

theorem zig_zag (n : Nat) : zig (zag n) = n := by
  unfold zag zig
  split <;> split <;> omega

/-- What is read as a number has that number's bytes at its front. -/
theorem rU_only {s t : ByteArray} {b : Bool} {n : Nat} (h : rU s b = (n, t, false)) : b = false ∧ s.data.toList = enc n ++ t.data.toList := by
  unfold rU at h
  by_cases hz : (num 0 0 s.data.toList).2 = 0
  · rw [if_pos hz] at h
    simp at h
  · rw [if_neg hz] at h
    obtain ⟨e, h1, h2, h3, _⟩ := num_only s.data.toList 0 0 (by omega) hz
    simp only [Prod.mk.injEq] at h
    obtain ⟨ha, hb, hc⟩ := h
    have he : e = n := by rw [← ha, h1]; simp
    subst he
    refine ⟨hc, ?_⟩
    rw [← hb, Lib.extract_to_end, h2, Nat.zero_add]
    conv => lhs; rw [← List.take_append_drop (enc e).length s.data.toList]
    rw [h3]
theorem rT_only {s t S : ByteArray} {b : Bool} (h : rT s b = (S, t, false)) : b = false ∧ s.data.toList = lenText S ++ t.data.toList ∧ S.size ≤ 524288 := by
  unfold rT at h
  by_cases hz : 524288 < (rU s b).1 ∨ (rU s b).2.1.size < (rU s b).1
  · rw [if_pos hz] at h
    simp at h
  · rw [if_neg hz] at h
    obtain ⟨n, u, c, e⟩ : ∃ n u c, rU s b = (n, u, c) := ⟨_, _, _, rfl⟩
    rw [e] at h hz
    simp only [Prod.mk.injEq] at h hz
    obtain ⟨h1, h2, h3⟩ := h
    rw [h3] at e
    obtain ⟨hb, hs⟩ := rU_only e
    have hu := Lib.size_eq u
    have d1 : S.data.toList = u.data.toList.take n := by rw [← h1, Lib.extract_data]; simp
    have d2 : t.data.toList = u.data.toList.drop n := by rw [← h2, Lib.extract_to_end]
    have hS : S.size = n := by rw [Lib.size_eq, d1, List.length_take, ← hu]; omega
    refine ⟨hb, ?_, by omega⟩
    rw [hs, d2]
    unfold lenText
    rw [hS, d1, List.append_assoc, List.take_append_drop]
theorem rD_only {s : ByteArray} {b : Bool} (h : rD s b = 0) : b = false ∧ s.data.toList = [] := by
  unfold rD at h
  by_cases hz : b = true ∨ s.size ≠ 0
  · rw [if_pos hz] at h
    cases h
  · have hs := Lib.size_eq s
    refine ⟨by cases b <;> simp_all, List.eq_nil_of_length_eq_zero (by omega)⟩

/-! ### Commands -/
/-- A command. -/
structure Cm where
  kind : Int
  session : Int
  seq : Int
  name : ByteArray
  n : Int

/-- The command all of whose fields are 0 and "". -/
def Cm.zero : Cm := ⟨0, 0, 0, ⟨#[]⟩, 0⟩

/-- A number from 1 to 2^30. -/
def great (n : Int) : Bool := decide (1 ≤ n) && decide (n ≤ 1073741824)
/-- A ballot. -/
def isBallot (n : Int) : Bool := decide (1 ≤ n) && decide (n ≤ 1099511627776)
/-- A name. -/
def isName (s : ByteArray) : Bool := decide (1 ≤ s.size) && decide (s.size ≤ 64)

/-- Which commands may be. -/
def mayB (c : Cm) : Bool :=
  if c.kind = 0 then decide (c.session = 0) && (decide (c.seq = 0) && (decide (c.name.size = 0) && decide (c.n = 0)))
  else if c.kind = 1 then decide (c.session = 0) && (decide (c.seq = 0) && (decide (c.name.size = 0) && isBallot c.n))
  else if c.kind = 4 then great c.session && (decide (c.seq = 0) && (decide (c.name.size = 0) && isBallot c.n))
  else if c.kind = 2 then (decide (0 ≤ c.session) && decide (c.session ≤ 7)) && (great c.seq && (decide (c.name.size = 0) && decide (c.n = 0)))
  else if c.kind = 3 then great c.session && (great c.seq && (decide (c.name.size = 0) && decide (c.n = 0)))
  else if c.kind = 9 then great c.session && (great c.seq && (isName c.name && (decide (-1073741824 ≤ c.n) && decide (c.n ≤ 1073741824))))
  else if 5 ≤ c.kind ∧ c.kind ≤ 12 then great c.session && (great c.seq && (isName c.name && decide (c.n = 0)))
  else false

/-- What a command that may be holds, roughly. -/
theorem may_small {c : Cm} (h : mayB c = true) : (0 ≤ c.kind ∧ c.kind ≤ 12) ∧ (0 ≤ c.session ∧ c.session ≤ 1073741824) ∧ (0 ≤ c.seq ∧ c.seq ≤ 1073741824) ∧ c.name.size ≤ 64 ∧ (-1073741824 ≤ c.n ∧ c.n ≤ 1099511627776) := by
  unfold mayB great isBallot isName at h
  split at h
  · simp only [Bool.and_eq_true, decide_eq_true_eq] at h; omega
  · split at h
    · simp only [Bool.and_eq_true, decide_eq_true_eq] at h; omega
    · split at h
      · simp only [Bool.and_eq_true, decide_eq_true_eq] at h; omega
      · split at h
        · simp only [Bool.and_eq_true, decide_eq_true_eq] at h; omega
        · split at h
          · simp only [Bool.and_eq_true, decide_eq_true_eq] at h; omega
          · split at h
            · simp only [Bool.and_eq_true, decide_eq_true_eq] at h; omega
            · split at h
              · simp only [Bool.and_eq_true, decide_eq_true_eq] at h; omega
              · cases h

/-- A command's bytes. -/
def encC (c : Cm) : List UInt8 := enc (zig c.kind) ++ (enc (zig c.session) ++ (enc (zig c.seq) ++ (lenText c.name ++ enc (zig c.n))))

theorem encC_len {c : Cm} (h : mayB c = true) : (encC c).length ≤ 200 := by
  obtain ⟨h1, h2, h3, h4, h5⟩ := may_small h
  have l1 := enc_len_ten (zig_bound (n := c.kind) (by omega) (by omega))
  have l2 := enc_len_ten (zig_bound (n := c.session) (by omega) (by omega))
  have l3 := enc_len_ten (zig_bound (n := c.seq) (by omega) (by omega))
  have l4 := enc_len_ten (n := c.name.size) (by omega)
  have l5 := enc_len_ten (zig_bound (n := c.n) (by omega) (by omega))
  have hs := Lib.size_eq c.name
  unfold encC lenText
  simp only [List.length_append]
  omega

/-- What is read of bytes as a command, and what Done says. -/
def readC (s : ByteArray) : Cm × Int :=
  let a := rU s false
  let b := rU a.2.1 a.2.2
  let c := rU b.2.1 b.2.2
  let d := rT c.2.1 c.2.2
  let e := rU d.2.1 d.2.2
  (⟨zag a.1, zag b.1, zag c.1, d.1, zag e.1⟩, rD e.2.1 e.2.2)

/-- Bytes as a command. -/
def decC (s : ByteArray) : Option Cm := if (readC s).2 = 0 ∧ mayB (readC s).1 = true then some (readC s).1 else none

theorem eta3 {α β γ : Type} (x : α × β × γ) : x = (x.1, x.2.1, x.2.2) := rfl

/-- What is read of bytes has just these bytes. -/
theorem readC_only {s : ByteArray} (h : (readC s).2 = 0) : s = ⟨(encC (readC s).1).toArray⟩ := by
  unfold readC at h ⊢
  simp only at h ⊢
  obtain ⟨b5, t5⟩ := rD_only h
  obtain ⟨b4, t4⟩ := rU_only ((eta3 _).trans (by rw [b5]))
  obtain ⟨b3, t3, _⟩ := rT_only ((eta3 _).trans (by rw [b4]))
  obtain ⟨b2, t2⟩ := rU_only ((eta3 _).trans (by rw [b3]))
  obtain ⟨b1, t1⟩ := rU_only ((eta3 _).trans (by rw [b2]))
  obtain ⟨_, t0⟩ := rU_only ((eta3 _).trans (by rw [b1]))
  have hs : s.data.toList = encC ⟨zag (rU s false).1, zag (rU (rU s false).2.1 (rU s false).2.2).1, zag (rU (rU (rU s false).2.1 (rU s false).2.2).2.1 (rU (rU s false).2.1 (rU s false).2.2).2.2).1, (rT (rU (rU (rU s false).2.1 (rU s false).2.2).2.1 (rU (rU s false).2.1 (rU s false).2.2).2.2).2.1 (rU (rU (rU s false).2.1 (rU s false).2.2).2.1 (rU (rU s false).2.1 (rU s false).2.2).2.2).2.2).1, zag (rU (rT (rU (rU (rU s false).2.1 (rU s false).2.2).2.1 (rU (rU s false).2.1 (rU s false).2.2).2.2).2.1 (rU (rU (rU s false).2.1 (rU s false).2.2).2.1 (rU (rU s false).2.1 (rU s false).2.2).2.2).2.2).2.1 (rT (rU (rU (rU s false).2.1 (rU s false).2.2).2.1 (rU (rU s false).2.1 (rU s false).2.2).2.2).2.1 (rU (rU (rU s false).2.1 (rU s false).2.2).2.1 (rU (rU s false).2.1 (rU s false).2.2).2.2).2.2).2.2).1⟩ := by
    unfold encC
    simp only [zig_zag]
    rw [t5, List.append_nil] at t4
    rw [← t4, ← t3, ← t2, ← t1, ← t0]
  rw [← hs, Lib.mk_data]

theorem readC_enc {c : Cm} (h : mayB c = true) : readC ⟨(encC c).toArray⟩ = (c, 0) := by
  obtain ⟨h1, h2, h3, h4, h5⟩ := may_small h
  have e1 := rU_enc (zig c.kind) (zig_bound (by omega) (by omega)) (enc (zig c.session) ++ (enc (zig c.seq) ++ (lenText c.name ++ enc (zig c.n))))
  have e2 := rU_enc (zig c.session) (zig_bound (by omega) (by omega)) (enc (zig c.seq) ++ (lenText c.name ++ enc (zig c.n)))
  have e3 := rU_enc (zig c.seq) (zig_bound (by omega) (by omega)) (lenText c.name ++ enc (zig c.n))
  have e4 := rT_text c.name (by omega) (enc (zig c.n))
  have e5 := rU_enc (zig c.n) (zig_bound (by omega) (by omega)) []
  rw [List.append_nil] at e5
  unfold readC encC
  simp only [e1, e2, e3, e4, e5, zag_zig]
  rfl

theorem decC_enc {c : Cm} (h : mayB c = true) : decC ⟨(encC c).toArray⟩ = some c := by
  unfold decC
  rw [readC_enc h, if_pos ⟨rfl, h⟩]
theorem decC_only {s : ByteArray} {c : Cm} (h : decC s = some c) : mayB c = true ∧ s = ⟨(encC c).toArray⟩ := by
  unfold decC at h
  by_cases hz : (readC s).2 = 0 ∧ mayB (readC s).1 = true
  · rw [if_pos hz] at h
    have e := Option.some.inj h
    rw [← e]
    exact ⟨hz.2, readC_only hz.1⟩
  · rw [if_neg hz] at h
    cases h
/-! ### Entries -/
/-- An entry. -/
structure En where
  slot : Int
  ballot : Int
  cmd : Cm
def En.zero : En := ⟨0, 0, Cm.zero⟩
def mayE (e : En) : Bool := (decide (1 ≤ e.slot) && decide (e.slot ≤ 1099511627776)) && ((decide (0 ≤ e.ballot) && decide (e.ballot ≤ 1099511627776)) && mayB e.cmd)
theorem mayE_small {e : En} (h : mayE e = true) : (1 ≤ e.slot ∧ e.slot ≤ 1099511627776) ∧ (0 ≤ e.ballot ∧ e.ballot ≤ 1099511627776) ∧ mayB e.cmd = true := by
  unfold mayE at h
  simp at h
  exact h
/-- An entry's bytes. -/
def encE (e : En) : List UInt8 := enc (zig e.slot) ++ (enc (zig e.ballot) ++ lenText ⟨(encC e.cmd).toArray⟩)
/-- What is read of bytes as an entry: its numbers, its command's bytes, what Done says. -/
def readE (s : ByteArray) : Int × Int × ByteArray × Int :=
  let a := rU s false
  let b := rU a.2.1 a.2.2
  let d := rT b.2.1 b.2.2
  (zag a.1, zag b.1, d.1, rD d.2.1 d.2.2)
/-- Bytes as an entry. -/
def decE (s : ByteArray) : Option En :=
  match decC (readE s).2.2.1 with
  | none => none
  | some c => if (readE s).2.2.2 = 0 ∧ mayE ⟨(readE s).1, (readE s).2.1, c⟩ = true then some ⟨(readE s).1, (readE s).2.1, c⟩ else none

theorem readE_only {s : ByteArray} (h : (readE s).2.2.2 = 0) : s = ⟨(enc (zig (readE s).1) ++ (enc (zig (readE s).2.1) ++ lenText (readE s).2.2.1)).toArray⟩ := by
  unfold readE at h ⊢
  simp only at h ⊢
  obtain ⟨b3, t3⟩ := rD_only h
  obtain ⟨b2, t2, _⟩ := rT_only ((eta3 _).trans (by rw [b3]))
  obtain ⟨b1, t1⟩ := rU_only ((eta3 _).trans (by rw [b2]))
  obtain ⟨_, t0⟩ := rU_only ((eta3 _).trans (by rw [b1]))
  rw [t3, List.append_nil] at t2
  simp only [zig_zag]
  rw [← t2, ← t1, ← t0, Lib.mk_data]
theorem readE_enc {e : En} (h : mayE e = true) : readE ⟨(encE e).toArray⟩ = (e.slot, e.ballot, ⟨(encC e.cmd).toArray⟩, 0) := by
  obtain ⟨h1, h2, h3⟩ := mayE_small h
  have hl := encC_len h3
  have e1 := rU_enc (zig e.slot) (zig_bound (by omega) (by omega)) (enc (zig e.ballot) ++ lenText ⟨(encC e.cmd).toArray⟩)
  have e2 := rU_enc (zig e.ballot) (zig_bound (by omega) (by omega)) (lenText ⟨(encC e.cmd).toArray⟩)
  have e3 := rT_text ⟨(encC e.cmd).toArray⟩ (by rw [size_list]; omega) []
  rw [List.append_nil] at e3
  unfold readE encE
  simp only [e1, e2, e3, zag_zig]
  rfl
theorem decE_enc {e : En} (h : mayE e = true) : decE ⟨(encE e).toArray⟩ = some e := by
  unfold decE
  rw [readE_enc h]
  simp only [decC_enc (mayE_small h).2.2]
  rw [if_pos ⟨trivial, h⟩]
end Go.Proofs.YtodnnhidljfilaaGreatDoor
/-
  The contracts of the document's own commands (package latchkeyref03): which may be. No condition.
-/
namespace Go.Proofs.YtodnnhidljfilaaGreatDoor
open Go.RowKit

/-- What a name is to the tests. -/
theorem name_kinds (T : ByteArray) : T = ⟨#[]⟩ ∨ (¬ T.toList = [] ∧ 1 ≤ T.size) := by
  by_cases h : T.size = 0
  · exact Or.inl (is_empty h)
  · refine Or.inr ⟨fun e => ?_, by omega⟩
    have := not_empty h
    rw [e] at this
    cases this

/-! ### Which may be, kind by kind -/
theorem may_0 (S Q N : Int) (T : ByteArray) : mayB ⟨0, S, Q, T, N⟩ = true ↔ S = 0 ∧ Q = 0 ∧ T.size = 0 ∧ N = 0 := by
  have e : mayB ⟨0, S, Q, T, N⟩ = (decide (S = 0) && (decide (Q = 0) && (decide (T.size = 0) && decide (N = 0)))) := rfl
  rw [e]
  simp only [Bool.and_eq_true, decide_eq_true_eq]
theorem may_1 (S Q N : Int) (T : ByteArray) : mayB ⟨1, S, Q, T, N⟩ = true ↔ S = 0 ∧ Q = 0 ∧ T.size = 0 ∧ (1 ≤ N ∧ N ≤ 1099511627776) := by
  have e : mayB ⟨1, S, Q, T, N⟩ = (decide (S = 0) && (decide (Q = 0) && (decide (T.size = 0) && isBallot N))) := rfl
  rw [e]
  unfold isBallot
  simp only [Bool.and_eq_true, decide_eq_true_eq]
theorem may_2 (S Q N : Int) (T : ByteArray) : mayB ⟨2, S, Q, T, N⟩ = true ↔ (0 ≤ S ∧ S ≤ 7) ∧ (1 ≤ Q ∧ Q ≤ 1073741824) ∧ T.size = 0 ∧ N = 0 := by
  have e : mayB ⟨2, S, Q, T, N⟩ = ((decide (0 ≤ S) && decide (S ≤ 7)) && (great Q && (decide (T.size = 0) && decide (N = 0)))) := rfl
  rw [e]
  unfold great
  simp only [Bool.and_eq_true, decide_eq_true_eq]
theorem may_3 (S Q N : Int) (T : ByteArray) : mayB ⟨3, S, Q, T, N⟩ = true ↔ (1 ≤ S ∧ S ≤ 1073741824) ∧ (1 ≤ Q ∧ Q ≤ 1073741824) ∧ T.size = 0 ∧ N = 0 := by
  have e : mayB ⟨3, S, Q, T, N⟩ = (great S && (great Q && (decide (T.size = 0) && decide (N = 0)))) := rfl
  rw [e]
  unfold great
  simp only [Bool.and_eq_true, decide_eq_true_eq]
theorem may_4 (S Q N : Int) (T : ByteArray) : mayB ⟨4, S, Q, T, N⟩ = true ↔ (1 ≤ S ∧ S ≤ 1073741824) ∧ Q = 0 ∧ T.size = 0 ∧ (1 ≤ N ∧ N ≤ 1099511627776) := by
  have e : mayB ⟨4, S, Q, T, N⟩ = (great S && (decide (Q = 0) && (decide (T.size = 0) && isBallot N))) := rfl
  rw [e]
  unfold great isBallot
  simp only [Bool.and_eq_true, decide_eq_true_eq]
theorem may_5 (S Q N : Int) (T : ByteArray) : mayB ⟨5, S, Q, T, N⟩ = true ↔ (1 ≤ S ∧ S ≤ 1073741824) ∧ (1 ≤ Q ∧ Q ≤ 1073741824) ∧ (1 ≤ T.size ∧ T.size ≤ 64) ∧ N = 0 := by
  have e : mayB ⟨5, S, Q, T, N⟩ = (great S && (great Q && (isName T && decide (N = 0)))) := rfl
  rw [e]
  unfold great isName
  simp only [Bool.and_eq_true, decide_eq_true_eq]
theorem may_6 (S Q N : Int) (T : ByteArray) : mayB ⟨6, S, Q, T, N⟩ = true ↔ (1 ≤ S ∧ S ≤ 1073741824) ∧ (1 ≤ Q ∧ Q ≤ 1073741824) ∧ (1 ≤ T.size ∧ T.size ≤ 64) ∧ N = 0 := by
  have e : mayB ⟨6, S, Q, T, N⟩ = (great S && (great Q && (isName T && decide (N = 0)))) := rfl
  rw [e]
  unfold great isName
  simp only [Bool.and_eq_true, decide_eq_true_eq]
theorem may_7 (S Q N : Int) (T : ByteArray) : mayB ⟨7, S, Q, T, N⟩ = true ↔ (1 ≤ S ∧ S ≤ 1073741824) ∧ (1 ≤ Q ∧ Q ≤ 1073741824) ∧ (1 ≤ T.size ∧ T.size ≤ 64) ∧ N = 0 := by
  have e : mayB ⟨7, S, Q, T, N⟩ = (great S && (great Q && (isName T && decide (N = 0)))) := rfl
  rw [e]
  unfold great isName
  simp only [Bool.and_eq_true, decide_eq_true_eq]
theorem may_8 (S Q N : Int) (T : ByteArray) : mayB ⟨8, S, Q, T, N⟩ = true ↔ (1 ≤ S ∧ S ≤ 1073741824) ∧ (1 ≤ Q ∧ Q ≤ 1073741824) ∧ (1 ≤ T.size ∧ T.size ≤ 64) ∧ N = 0 := by
  have e : mayB ⟨8, S, Q, T, N⟩ = (great S && (great Q && (isName T && decide (N = 0)))) := rfl
  rw [e]
  unfold great isName
  simp only [Bool.and_eq_true, decide_eq_true_eq]
theorem may_9 (S Q N : Int) (T : ByteArray) : mayB ⟨9, S, Q, T, N⟩ = true ↔ (1 ≤ S ∧ S ≤ 1073741824) ∧ (1 ≤ Q ∧ Q ≤ 1073741824) ∧ (1 ≤ T.size ∧ T.size ≤ 64) ∧ (-1073741824 ≤ N ∧ N ≤ 1073741824) := by
  have e : mayB ⟨9, S, Q, T, N⟩ = (great S && (great Q && (isName T && (decide (-1073741824 ≤ N) && decide (N ≤ 1073741824))))) := rfl
  rw [e]
  unfold great isName
  simp only [Bool.and_eq_true, decide_eq_true_eq]
theorem may_10 (S Q N : Int) (T : ByteArray) : mayB ⟨10, S, Q, T, N⟩ = true ↔ (1 ≤ S ∧ S ≤ 1073741824) ∧ (1 ≤ Q ∧ Q ≤ 1073741824) ∧ (1 ≤ T.size ∧ T.size ≤ 64) ∧ N = 0 := by
  have e : mayB ⟨10, S, Q, T, N⟩ = (great S && (great Q && (isName T && decide (N = 0)))) := rfl
  rw [e]
  unfold great isName
  simp only [Bool.and_eq_true, decide_eq_true_eq]
theorem may_11 (S Q N : Int) (T : ByteArray) : mayB ⟨11, S, Q, T, N⟩ = true ↔ (1 ≤ S ∧ S ≤ 1073741824) ∧ (1 ≤ Q ∧ Q ≤ 1073741824) ∧ (1 ≤ T.size ∧ T.size ≤ 64) ∧ N = 0 := by
  have e : mayB ⟨11, S, Q, T, N⟩ = (great S && (great Q && (isName T && decide (N = 0)))) := rfl
  rw [e]
  unfold great isName
  simp only [Bool.and_eq_true, decide_eq_true_eq]
theorem may_12 (S Q N : Int) (T : ByteArray) : mayB ⟨12, S, Q, T, N⟩ = true ↔ (1 ≤ S ∧ S ≤ 1073741824) ∧ (1 ≤ Q ∧ Q ≤ 1073741824) ∧ (1 ≤ T.size ∧ T.size ≤ 64) ∧ N = 0 := by
  have e : mayB ⟨12, S, Q, T, N⟩ = (great S && (great Q && (isName T && decide (N = 0)))) := rfl
  rw [e]
  unfold great isName
  simp only [Bool.and_eq_true, decide_eq_true_eq]
end Go.Proofs.YtodnnhidljfilaaGreatDoor
/-
  The contracts of the document's own encoding of commands and entries (package latchkeyref03). The condition: numbers are of 64 bits.
-/
namespace Go.Proofs.YtodnnhidljfilaaGreatDoor
open Go.RowKit

/-- A command laid in block B, from cell o on. -/
structure Box (w : World) (B o : Nat) (K S Q : Int) (T : ByteArray) (N : Int) : Prop where
  lt : B < w.heap.size
  c0 : w.cell? ⟨B, o, none⟩ = some (.int .i64 K)
  c1 : w.cell? ⟨B, o + 1, none⟩ = some (.int .i64 S)
  c2 : w.cell? ⟨B, o + 2, none⟩ = some (.int .i64 Q)
  c3 : w.cell? ⟨B, o + 3, none⟩ = some (.string T)
  c4 : w.cell? ⟨B, o + 4, none⟩ = some (.int .i64 N)
theorem Box.below {w w' : World} {B o : Nat} {K S Q N : Int} {T : ByteArray} (h : Box w B o K S Q T N) (b : Below w.heap.size w w') : Box w' B o K S Q T N :=
  ⟨Nat.lt_of_lt_of_le h.lt b.size, (b.cell (by exact h.lt)).trans h.c0, (b.cell (by exact h.lt)).trans h.c1, (b.cell (by exact h.lt)).trans h.c2, (b.cell (by exact h.lt)).trans h.c3, (b.cell (by exact h.lt)).trans h.c4⟩

/-- Encode's two answers. -/
def encT (c : Cm) : ByteArray × Int := if mayB c = true then (⟨(encC c).toArray⟩, 0) else (⟨#[]⟩, 1)

theorem bmm {w w1 w2 : World} {b : Nat} (h : Below b w w1) (hb : b ≤ w1.heap.size) (k : Below w1.heap.size w1 w2) : Below b w w2 := h.trans (k.mono hb)

theorem undrew {w w2 : World} (b : Below w.drew.heap.size w.drew w2) : Below w.heap.size w w2 := ⟨b.os, b.tape, b.output, b.size, b.block⟩

/-! ### Entries -/
/-- EncodeEntry's two answers. -/
def encET (e : En) : ByteArray × Int := if mayE e = true then (⟨(encE e).toArray⟩, 0) else (⟨#[]⟩, 1)

end Go.Proofs.YtodnnhidljfilaaGreatDoor
/-
  The contracts of the document's own decoding of commands and entries (package latchkeyref03). The condition: the text is no longer than a text of 64 bits' length.
-/
namespace Go.Proofs.YtodnnhidljfilaaGreatDoor
open Go.RowKit

/-- A command laid in a block of its own. -/
def Lies (w : World) (B : Nat) (K S Q : Int) (T : ByteArray) (N : Int) : Prop := w.heap[B]? = some (.cells #[.int .i64 K, .int .i64 S, .int .i64 Q, .string T, .int .i64 N] 64 (0, 0))
theorem Lies.box {w : World} {B : Nat} {K S Q N : Int} {T : ByteArray} (h : Lies w B K S Q T N) : Box w B 0 K S Q T N := by
  unfold Lies at h
  exact ⟨lt_of_block h, by simp [World.cell?, h], by simp [World.cell?, h], by simp [World.cell?, h], by simp [World.cell?, h], by simp [World.cell?, h]⟩
theorem Lies.free {w : World} {B : Nat} {K S Q N : Int} {T : ByteArray} (h : Lies w B K S Q T N) (i : Nat) : w.frozen? ⟨B, i, none⟩ = false := by
  unfold Lies at h
  simp [World.frozen?, h]
theorem Lies.set0 {w : World} {B : Nat} {K S Q N : Int} {T : ByteArray} (h : Lies w B K S Q T N) (K' : Int) : Lies (w.setCell ⟨B, 0, none⟩ (.int .i64 K')) B K' S Q T N := Lib.heap_setCell_same (i := 0) h _
theorem Lies.set1 {w : World} {B : Nat} {K S Q N : Int} {T : ByteArray} (h : Lies w B K S Q T N) (S' : Int) : Lies (w.setCell ⟨B, 1, none⟩ (.int .i64 S')) B K S' Q T N := Lib.heap_setCell_same (i := 1) h _
theorem Lies.set2 {w : World} {B : Nat} {K S Q N : Int} {T : ByteArray} (h : Lies w B K S Q T N) (Q' : Int) : Lies (w.setCell ⟨B, 2, none⟩ (.int .i64 Q')) B K S Q' T N := Lib.heap_setCell_same (i := 2) h _
theorem Lies.set3 {w : World} {B : Nat} {K S Q N : Int} {T : ByteArray} (h : Lies w B K S Q T N) (T' : ByteArray) : Lies (w.setCell ⟨B, 3, none⟩ (.string T')) B K S Q T' N := Lib.heap_setCell_same (i := 3) h _
theorem Lies.set4 {w : World} {B : Nat} {K S Q N : Int} {T : ByteArray} (h : Lies w B K S Q T N) (N' : Int) : Lies (w.setCell ⟨B, 4, none⟩ (.int .i64 N')) B K S Q T N' := Lib.heap_setCell_same (i := 4) h _
theorem Lies.far {w w' : World} {B : Nat} {K S Q N : Int} {T : ByteArray} (h : Lies w B K S Q T N) (hb : w'.heap[B]? = w.heap[B]?) : Lies w' B K S Q T N := by
  unfold Lies at h ⊢
  rw [hb]
  exact h

/-- Three new blocks. -/
theorem three_new (w : World) (o1 o2 o3 : Obj) {base : Nat} (h : w.heap.size = base) :
    (((w.alloc o1).alloc o2).alloc o3).heap[base]? = some o1 ∧ (((w.alloc o1).alloc o2).alloc o3).heap[base + 1]? = some o2 ∧ (((w.alloc o1).alloc o2).alloc o3).heap[base + 1 + 1]? = some o3 := by
  have n1 : (w.alloc o1).heap.size = base + 1 := by rw [World.size_alloc, h]
  have n2 : ((w.alloc o1).alloc o2).heap.size = base + 1 + 1 := by rw [World.size_alloc, n1]
  refine ⟨?_, ?_, ?_⟩
  · rw [Below.heap_alloc _ o3 base (by omega), Below.heap_alloc _ o2 base (by omega), ← h]
    exact heap_alloc_new w o1
  · rw [Below.heap_alloc _ o3 (base + 1) (by omega)]
    have := heap_alloc_new (w.alloc o1) o2
    rw [n1] at this
    exact this
  · have := heap_alloc_new ((w.alloc o1).alloc o2) o3
    rw [n2] at this
    exact this

/-- Decode's two answers. -/
def decT (s : ByteArray) : Cm × Int := match decC s with | some c => (c, 0) | none => (Cm.zero, 2)
theorem decT_ok {s : ByteArray} (h1 : (readC s).2 = 0) (h2 : mayB (readC s).1 = true) : decT s = ((readC s).1, 0) := by
  unfold decT decC
  rw [if_pos ⟨h1, h2⟩]
theorem decT_no {s : ByteArray} (h : ¬ ((readC s).2 = 0 ∧ mayB (readC s).1 = true)) : decT s = (Cm.zero, 2) := by
  unfold decT decC
  rw [if_neg h]

end Go.Proofs.YtodnnhidljfilaaGreatDoor
/-
  The contract of the document's own decoding of entries (package latchkeyref03). The condition: the text is no longer than a text of 64 bits' length.
-/
namespace Go.Proofs.YtodnnhidljfilaaGreatDoor
open Go.RowKit

/-- An entry laid in a block of its own. -/
def LiesE (w : World) (X : Nat) (A B K S Q : Int) (T : ByteArray) (N : Int) : Prop := w.heap[X]? = some (.cells #[.int .i64 A, .int .i64 B, .int .i64 K, .int .i64 S, .int .i64 Q, .string T, .int .i64 N] 66 (0, 0))
/-- Its cells. -/
structure BoxE (w : World) (X : Nat) (A B K S Q : Int) (T : ByteArray) (N : Int) : Prop where
  lt : X < w.heap.size
  c0 : w.cell? ⟨X, 0, none⟩ = some (.int .i64 A)
  c1 : w.cell? ⟨X, 1, none⟩ = some (.int .i64 B)
  c2 : w.cell? ⟨X, 2, none⟩ = some (.int .i64 K)
  c3 : w.cell? ⟨X, 3, none⟩ = some (.int .i64 S)
  c4 : w.cell? ⟨X, 4, none⟩ = some (.int .i64 Q)
  c5 : w.cell? ⟨X, 5, none⟩ = some (.string T)
  c6 : w.cell? ⟨X, 6, none⟩ = some (.int .i64 N)
theorem LiesE.box {w : World} {X : Nat} {A B K S Q N : Int} {T : ByteArray} (h : LiesE w X A B K S Q T N) : BoxE w X A B K S Q T N := by
  unfold LiesE at h
  exact ⟨lt_of_block h, by simp [World.cell?, h], by simp [World.cell?, h], by simp [World.cell?, h], by simp [World.cell?, h], by simp [World.cell?, h], by simp [World.cell?, h], by simp [World.cell?, h]⟩
theorem LiesE.free {w : World} {X : Nat} {A B K S Q N : Int} {T : ByteArray} (h : LiesE w X A B K S Q T N) (i : Nat) : w.frozen? ⟨X, i, none⟩ = false := by
  unfold LiesE at h
  simp [World.frozen?, h]
theorem LiesE.set0 {w : World} {X : Nat} {A B K S Q N : Int} {T : ByteArray} (h : LiesE w X A B K S Q T N) (x : Int) : LiesE (w.setCell ⟨X, 0, none⟩ (.int .i64 x)) X x B K S Q T N := Lib.heap_setCell_same (i := 0) h _
theorem LiesE.set1 {w : World} {X : Nat} {A B K S Q N : Int} {T : ByteArray} (h : LiesE w X A B K S Q T N) (x : Int) : LiesE (w.setCell ⟨X, 1, none⟩ (.int .i64 x)) X A x K S Q T N := Lib.heap_setCell_same (i := 1) h _
theorem LiesE.set2 {w : World} {X : Nat} {A B K S Q N : Int} {T : ByteArray} (h : LiesE w X A B K S Q T N) (x : Int) : LiesE (w.setCell ⟨X, 2, none⟩ (.int .i64 x)) X A B x S Q T N := Lib.heap_setCell_same (i := 2) h _
theorem LiesE.set3 {w : World} {X : Nat} {A B K S Q N : Int} {T : ByteArray} (h : LiesE w X A B K S Q T N) (x : Int) : LiesE (w.setCell ⟨X, 3, none⟩ (.int .i64 x)) X A B K x Q T N := Lib.heap_setCell_same (i := 3) h _
theorem LiesE.set4 {w : World} {X : Nat} {A B K S Q N : Int} {T : ByteArray} (h : LiesE w X A B K S Q T N) (x : Int) : LiesE (w.setCell ⟨X, 4, none⟩ (.int .i64 x)) X A B K S x T N := Lib.heap_setCell_same (i := 4) h _
theorem LiesE.set5 {w : World} {X : Nat} {A B K S Q N : Int} {T : ByteArray} (h : LiesE w X A B K S Q T N) (x : ByteArray) : LiesE (w.setCell ⟨X, 5, none⟩ (.string x)) X A B K S Q x N := Lib.heap_setCell_same (i := 5) h _
theorem LiesE.set6 {w : World} {X : Nat} {A B K S Q N : Int} {T : ByteArray} (h : LiesE w X A B K S Q T N) (x : Int) : LiesE (w.setCell ⟨X, 6, none⟩ (.int .i64 x)) X A B K S Q T x := Lib.heap_setCell_same (i := 6) h _
theorem LiesE.far {w w' : World} {X : Nat} {A B K S Q N : Int} {T : ByteArray} (h : LiesE w X A B K S Q T N) (hb : w'.heap[X]? = w.heap[X]?) : LiesE w' X A B K S Q T N := by
  unfold LiesE at h ⊢
  rw [hb]
  exact h

/-- DecodeEntry's two answers. -/
def decET (s : ByteArray) : En × Int := match decE s with | some e => (e, 0) | none => (En.zero, 2)
theorem decET_ok {s : ByteArray} {c : Cm} (h0 : decC (readE s).2.2.1 = some c) (h1 : (readE s).2.2.2 = 0) (h2 : mayE ⟨(readE s).1, (readE s).2.1, c⟩ = true) : decET s = (⟨(readE s).1, (readE s).2.1, c⟩, 0) := by
  unfold decET decE
  rw [h0]
  simp only
  rw [if_pos ⟨h1, h2⟩]
theorem decET_no0 {s : ByteArray} (h0 : decC (readE s).2.2.1 = none) : decET s = (En.zero, 2) := by
  unfold decET decE
  rw [h0]
theorem decET_no {s : ByteArray} {c : Cm} (h0 : decC (readE s).2.2.1 = some c) (h : ¬ ((readE s).2.2.2 = 0 ∧ mayE ⟨(readE s).1, (readE s).2.1, c⟩ = true)) : decET s = (En.zero, 2) := by
  unfold decET decE
  rw [h0]
  simp only
  rw [if_neg h]
theorem decET_no1 {s : ByteArray} (h : ¬ (readE s).2.2.2 = 0) : decET s = (En.zero, 2) := by
  cases h0 : decC (readE s).2.2.1 with
  | none => exact decET_no0 h0
  | some c => exact decET_no h0 (fun x => h x.1)

end Go.Proofs.YtodnnhidljfilaaGreatDoor
