/-
  Parts of the proof, laid together: CmPlain, CmRef, CmMayA, CmMayB, CmMayC, CmMayD, CmMay, CmREnc, CmRDec, CmRDecE. The conditions stand at each part.
-/
import Derived.Deep.RegionHeld3
import Derived.BigQuiet
import Derived.WalkSmall
import Derived.Test.YtgecfplaimabpaaGreatDoorAPackB
/-
  Commands and entries, as plain data: which may be, their bytes, how bytes are read as one; what is read of bytes has just these bytes. No condition.
-/
namespace Go.Proofs.YtgecfplaimabpaaGreatDoor

/-! ### A number has one row of bytes -/
theorem num_only : ∀ (l : List UInt8) (X k : Nat), k ≤ 9 → (num X k l).2 ≠ 0 →
    ∃ e, (num X k l).1 = X + e * 2 ^ (7 * k) ∧ (num X k l).2 = k + (enc e).length ∧ l.take (enc e).length = enc e ∧ (k = 0 ∨ e ≠ 0)
  | [], _, _, _, h => absurd rfl h
  | c :: r, X, k, hk, h => by
    have hc : c.toNat < 256 := UInt8.toNat_lt c
    have hof : UInt8.ofNat c.toNat = c := by
      apply UInt8.toNat_inj.1
      rw [byte_ofNat hc]
    unfold num at h ⊢
    by_cases h9 : k = 9 ∧ 1 < c.toNat
    · rw [if_pos h9] at h
      exact absurd rfl h
    · rw [if_neg h9] at h ⊢
      by_cases h128 : 128 ≤ c.toNat
      · rw [if_pos h128] at h ⊢
        obtain ⟨e, h1, h2, h3, h4⟩ := num_only r (X + c.toNat % 128 * 2 ^ (7 * k)) (k + 1) (by omega) h
        have he : e ≠ 0 := by omega
        have hge : 128 ≤ c.toNat % 128 + 128 * e := by omega
        have hen : enc (c.toNat % 128 + 128 * e) = c :: enc e := by
          rw [enc_ge hge, show (c.toNat % 128 + 128 * e) % 128 + 128 = c.toNat by omega, show (c.toNat % 128 + 128 * e) / 128 = e by omega, hof]
        refine ⟨c.toNat % 128 + 128 * e, ?_, ?_, ?_, Or.inr (by omega)⟩
        · rw [h1, pow7, Nat.add_mul, Nat.add_assoc, ← Nat.mul_assoc, Nat.mul_comm e 128]
        · rw [h2, hen, List.length_cons]
          omega
        · rw [hen, List.length_cons, List.take_succ_cons, h3]
      · rw [if_neg h128] at h ⊢
        by_cases h0 : c.toNat = 0 ∧ 0 < k
        · rw [if_pos h0] at h
          exact absurd rfl h
        · rw [if_neg h0]
          have hlt : c.toNat < 128 := by omega
          refine ⟨c.toNat, by rw [Nat.mod_eq_of_lt hlt], by rw [enc_len_lt hlt], ?_, by omega⟩
          rw [enc_lt hlt, hof]
          rfl

theorem zig_zag (n : Nat) : zig (zag n) = n := by
  unfold zag zig
  split <;> split <;> omega

/-- What is read as a number has that number's bytes at its front. -/
theorem rU_only {s t : ByteArray} {b : Bool} {n : Nat} (h : rU s b = (n, t, false)) : b = false ∧ s.data.toList = enc n ++ t.data.toList := by
  unfold rU at h
  by_cases hz : (num 0 0 s.data.toList).2 = 0
  · rw [if_pos hz] at h
    simp at h
  · rw [if_neg hz] at h
    obtain ⟨e, h1, h2, h3, _⟩ := num_only s.data.toList 0 0 (by omega) hz
    simp only [Prod.mk.injEq] at h
    obtain ⟨ha, hb, hc⟩ := h
    have he : e = n := by rw [← ha, h1]; simp
    subst he
    refine ⟨hc, ?_⟩
    rw [← hb, Lib.extract_to_end, h2, Nat.zero_add]
    conv => lhs; rw [← List.take_append_drop (enc e).length s.data.toList]
    rw [h3]
theorem rT_only {s t S : ByteArray} {b : Bool} (h : rT s b = (S, t, false)) : b = false ∧ s.data.toList = lenText S ++ t.data.toList ∧ S.size ≤ 524288 := by
  unfold rT at h
  by_cases hz : 524288 < (rU s b).1 ∨ (rU s b).2.1.size < (rU s b).1
  · rw [if_pos hz] at h
    simp at h
  · rw [if_neg hz] at h
    obtain ⟨n, u, c, e⟩ : ∃ n u c, rU s b = (n, u, c) := ⟨_, _, _, rfl⟩
    rw [e] at h hz
    simp only [Prod.mk.injEq] at h hz
    obtain ⟨h1, h2, h3⟩ := h
    rw [h3] at e
    obtain ⟨hb, hs⟩ := rU_only e
    have hu := Lib.size_eq u
    have d1 : S.data.toList = u.data.toList.take n := by rw [← h1, Lib.extract_data]; simp
    have d2 : t.data.toList = u.data.toList.drop n := by rw [← h2, Lib.extract_to_end]
    have hS : S.size = n := by rw [Lib.size_eq, d1, List.length_take, ← hu]; omega
    refine ⟨hb, ?_, by omega⟩
    rw [hs, d2]
    unfold lenText
    rw [hS, d1, List.append_assoc, List.take_append_drop]
theorem rD_only {s : ByteArray} {b : Bool} (h : rD s b = 0) : b = false ∧ s.data.toList = [] := by
  unfold rD at h
  by_cases hz : b = true ∨ s.size ≠ 0
  · rw [if_pos hz] at h
    cases h
  · have hs := Lib.size_eq s
    refine ⟨by cases b <;> simp_all, List.eq_nil_of_length_eq_zero (by omega)⟩

/-! ### Commands -/
/-- A command. -/
structure Cm where
  kind : Int
  session : Int
  seq : Int
  name : ByteArray
  n : Int

/-- The command all of whose fields are 0 and "". -/
def Cm.zero : Cm := ⟨0, 0, 0, ⟨#[]⟩, 0⟩

/-- A number from 1 to 2^30. -/
def great (n : Int) : Bool := decide (1 ≤ n) && decide (n ≤ 1073741824)
/-- A ballot. -/
def isBallot (n : Int) : Bool := decide (1 ≤ n) && decide (n ≤ 1099511627776)
/-- A name. -/
def isName (s : ByteArray) : Bool := decide (1 ≤ s.size) && decide (s.size ≤ 64)

/-- Which commands may be. -/
def mayB (c : Cm) : Bool :=
  if c.kind = 0 then decide (c.session = 0) && (decide (c.seq = 0) && (decide (c.name.size = 0) && decide (c.n = 0)))
  else if c.kind = 1 then decide (c.session = 0) && (decide (c.seq = 0) && (decide (c.name.size = 0) && isBallot c.n))
  else if c.kind = 4 then great c.session && (decide (c.seq = 0) && (decide (c.name.size = 0) && isBallot c.n))
  else if c.kind = 2 then (decide (0 ≤ c.session) && decide (c.session ≤ 7)) && (great c.seq && (decide (c.name.size = 0) && decide (c.n = 0)))
  else if c.kind = 3 then great c.session && (great c.seq && (decide (c.name.size = 0) && decide (c.n = 0)))
  else if c.kind = 9 then great c.session && (great c.seq && (isName c.name && (decide (-1073741824 ≤ c.n) && decide (c.n ≤ 1073741824))))
  else if 5 ≤ c.kind ∧ c.kind ≤ 12 then great c.session && (great c.seq && (isName c.name && decide (c.n = 0)))
  else false

/-- What a command that may be holds, roughly. -/
theorem may_small {c : Cm} (h : mayB c = true) : (0 ≤ c.kind ∧ c.kind ≤ 12) ∧ (0 ≤ c.session ∧ c.session ≤ 1073741824) ∧ (0 ≤ c.seq ∧ c.seq ≤ 1073741824) ∧ c.name.size ≤ 64 ∧ (-1073741824 ≤ c.n ∧ c.n ≤ 1099511627776) := by
  unfold mayB great isBallot isName at h
  split at h
  · simp only [Bool.and_eq_true, decide_eq_true_eq] at h; omega
  · split at h
    · simp only [Bool.and_eq_true, decide_eq_true_eq] at h; omega
    · split at h
      · simp only [Bool.and_eq_true, decide_eq_true_eq] at h; omega
      · split at h
        · simp only [Bool.and_eq_true, decide_eq_true_eq] at h; omega
        · split at h
          · simp only [Bool.and_eq_true, decide_eq_true_eq] at h; omega
          · split at h
            · simp only [Bool.and_eq_true, decide_eq_true_eq] at h; omega
            · split at h
              · simp only [Bool.and_eq_true, decide_eq_true_eq] at h; omega
              · cases h

/-- A command's bytes. -/
def encC (c : Cm) : List UInt8 := enc (zig c.kind) ++ (enc (zig c.session) ++ (enc (zig c.seq) ++ (lenText c.name ++ enc (zig c.n))))

theorem encC_len {c : Cm} (h : mayB c = true) : (encC c).length ≤ 200 := by
  obtain ⟨h1, h2, h3, h4, h5⟩ := may_small h
  have l1 := enc_len_ten (zig_bound (n := c.kind) (by omega) (by omega))
  have l2 := enc_len_ten (zig_bound (n := c.session) (by omega) (by omega))
  have l3 := enc_len_ten (zig_bound (n := c.seq) (by omega) (by omega))
  have l4 := enc_len_ten (n := c.name.size) (by omega)
  have l5 := enc_len_ten (zig_bound (n := c.n) (by omega) (by omega))
  have hs := Lib.size_eq c.name
  unfold encC lenText
  simp only [List.length_append]
  omega

/-- What is read of bytes as a command, and what Done says. -/
def readC (s : ByteArray) : Cm × Int :=
  let a := rU s false
  let b := rU a.2.1 a.2.2
  let c := rU b.2.1 b.2.2
  let d := rT c.2.1 c.2.2
  let e := rU d.2.1 d.2.2
  (⟨zag a.1, zag b.1, zag c.1, d.1, zag e.1⟩, rD e.2.1 e.2.2)

/-- Bytes as a command. -/
def decC (s : ByteArray) : Option Cm := if (readC s).2 = 0 ∧ mayB (readC s).1 = true then some (readC s).1 else none

theorem eta3 {α β γ : Type} (x : α × β × γ) : x = (x.1, x.2.1, x.2.2) := rfl

/-- What is read of bytes has just these bytes. -/
theorem readC_only {s : ByteArray} (h : (readC s).2 = 0) : s = ⟨(encC (readC s).1).toArray⟩ := by
  unfold readC at h ⊢
  simp only at h ⊢
  obtain ⟨b5, t5⟩ := rD_only h
  obtain ⟨b4, t4⟩ := rU_only ((eta3 _).trans (by rw [b5]))
  obtain ⟨b3, t3, _⟩ := rT_only ((eta3 _).trans (by rw [b4]))
  obtain ⟨b2, t2⟩ := rU_only ((eta3 _).trans (by rw [b3]))
  obtain ⟨b1, t1⟩ := rU_only ((eta3 _).trans (by rw [b2]))
  obtain ⟨_, t0⟩ := rU_only ((eta3 _).trans (by rw [b1]))
  have hs : s.data.toList = encC ⟨zag (rU s false).1, zag (rU (rU s false).2.1 (rU s false).2.2).1, zag (rU (rU (rU s false).2.1 (rU s false).2.2).2.1 (rU (rU s false).2.1 (rU s false).2.2).2.2).1, (rT (rU (rU (rU s false).2.1 (rU s false).2.2).2.1 (rU (rU s false).2.1 (rU s false).2.2).2.2).2.1 (rU (rU (rU s false).2.1 (rU s false).2.2).2.1 (rU (rU s false).2.1 (rU s false).2.2).2.2).2.2).1, zag (rU (rT (rU (rU (rU s false).2.1 (rU s false).2.2).2.1 (rU (rU s false).2.1 (rU s false).2.2).2.2).2.1 (rU (rU (rU s false).2.1 (rU s false).2.2).2.1 (rU (rU s false).2.1 (rU s false).2.2).2.2).2.2).2.1 (rT (rU (rU (rU s false).2.1 (rU s false).2.2).2.1 (rU (rU s false).2.1 (rU s false).2.2).2.2).2.1 (rU (rU (rU s false).2.1 (rU s false).2.2).2.1 (rU (rU s false).2.1 (rU s false).2.2).2.2).2.2).2.2).1⟩ := by
    unfold encC
    simp only [zig_zag]
    rw [t5, List.append_nil] at t4
    rw [← t4, ← t3, ← t2, ← t1, ← t0]
  rw [← hs, Lib.mk_data]

theorem readC_enc {c : Cm} (h : mayB c = true) : readC ⟨(encC c).toArray⟩ = (c, 0) := by
  obtain ⟨h1, h2, h3, h4, h5⟩ := may_small h
  have e1 := rU_enc (zig c.kind) (zig_bound (by omega) (by omega)) (enc (zig c.session) ++ (enc (zig c.seq) ++ (lenText c.name ++ enc (zig c.n))))
  have e2 := rU_enc (zig c.session) (zig_bound (by omega) (by omega)) (enc (zig c.seq) ++ (lenText c.name ++ enc (zig c.n)))
  have e3 := rU_enc (zig c.seq) (zig_bound (by omega) (by omega)) (lenText c.name ++ enc (zig c.n))
  have e4 := rT_text c.name (by omega) (enc (zig c.n))
  have e5 := rU_enc (zig c.n) (zig_bound (by omega) (by omega)) []
  rw [List.append_nil] at e5
  unfold readC encC
  simp only [e1, e2, e3, e4, e5, zag_zig]
  rfl

theorem decC_enc {c : Cm} (h : mayB c = true) : decC ⟨(encC c).toArray⟩ = some c := by
  unfold decC
  rw [readC_enc h, if_pos ⟨rfl, h⟩]
theorem decC_only {s : ByteArray} {c : Cm} (h : decC s = some c) : mayB c = true ∧ s = ⟨(encC c).toArray⟩ := by
  unfold decC at h
  by_cases hz : (readC s).2 = 0 ∧ mayB (readC s).1 = true
  · rw [if_pos hz] at h
    have e := Option.some.inj h
    rw [← e]
    exact ⟨hz.2, readC_only hz.1⟩
  · rw [if_neg hz] at h
    cases h
/-! ### Entries -/
/-- An entry. -/
structure En where
  slot : Int
  ballot : Int
  cmd : Cm
def En.zero : En := ⟨0, 0, Cm.zero⟩
def mayE (e : En) : Bool := (decide (1 ≤ e.slot) && decide (e.slot ≤ 1099511627776)) && ((decide (0 ≤ e.ballot) && decide (e.ballot ≤ 1099511627776)) && mayB e.cmd)
theorem mayE_small {e : En} (h : mayE e = true) : (1 ≤ e.slot ∧ e.slot ≤ 1099511627776) ∧ (0 ≤ e.ballot ∧ e.ballot ≤ 1099511627776) ∧ mayB e.cmd = true := by
  unfold mayE at h
  simp at h
  exact h
/-- An entry's bytes. -/
def encE (e : En) : List UInt8 := enc (zig e.slot) ++ (enc (zig e.ballot) ++ lenText ⟨(encC e.cmd).toArray⟩)
/-- What is read of bytes as an entry: its numbers, its command's bytes, what Done says. -/
def readE (s : ByteArray) : Int × Int × ByteArray × Int :=
  let a := rU s false
  let b := rU a.2.1 a.2.2
  let d := rT b.2.1 b.2.2
  (zag a.1, zag b.1, d.1, rD d.2.1 d.2.2)
/-- Bytes as an entry. -/
def decE (s : ByteArray) : Option En :=
  match decC (readE s).2.2.1 with
  | none => none
  | some c => if (readE s).2.2.2 = 0 ∧ mayE ⟨(readE s).1, (readE s).2.1, c⟩ = true then some ⟨(readE s).1, (readE s).2.1, c⟩ else none

theorem readE_only {s : ByteArray} (h : (readE s).2.2.2 = 0) : s = ⟨(enc (zig (readE s).1) ++ (enc (zig (readE s).2.1) ++ lenText (readE s).2.2.1)).toArray⟩ := by
  unfold readE at h ⊢
  simp only at h ⊢
  obtain ⟨b3, t3⟩ := rD_only h
  obtain ⟨b2, t2, _⟩ := rT_only ((eta3 _).trans (by rw [b3]))
  obtain ⟨b1, t1⟩ := rU_only ((eta3 _).trans (by rw [b2]))
  obtain ⟨_, t0⟩ := rU_only ((eta3 _).trans (by rw [b1]))
  rw [t3, List.append_nil] at t2
  simp only [zig_zag]
  rw [← t2, ← t1, ← t0, Lib.mk_data]
theorem readE_enc {e : En} (h : mayE e = true) : readE ⟨(encE e).toArray⟩ = (e.slot, e.ballot, ⟨(encC e.cmd).toArray⟩, 0) := by
  obtain ⟨h1, h2, h3⟩ := mayE_small h
  have hl := encC_len h3
  have e1 := rU_enc (zig e.slot) (zig_bound (by omega) (by omega)) (enc (zig e.ballot) ++ lenText ⟨(encC e.cmd).toArray⟩)
  have e2 := rU_enc (zig e.ballot) (zig_bound (by omega) (by omega)) (lenText ⟨(encC e.cmd).toArray⟩)
  have e3 := rT_text ⟨(encC e.cmd).toArray⟩ (by rw [size_list]; omega) []
  rw [List.append_nil] at e3
  unfold readE encE
  simp only [e1, e2, e3, zag_zig]
  rfl
theorem decE_enc {e : En} (h : mayE e = true) : decE ⟨(encE e).toArray⟩ = some e := by
  unfold decE
  rw [readE_enc h]
  simp only [decC_enc (mayE_small h).2.2]
  rw [if_pos ⟨trivial, h⟩]
end Go.Proofs.YtgecfplaimabpaaGreatDoor
/-
  The contracts of the document's own commands (package latchkeyref03): which may be. No condition.
-/
namespace Go.Proofs.YtgecfplaimabpaaGreatDoor
open Go.RowKit

theorem rwithin_any (n lo hi : Int) (w : World) :
    Calls Tryz.prog 202 #[.int .i64 n, .int .i64 lo, .int .i64 hi] w fun e w' => e = .returned (.bool (decide (lo ≤ n) && decide (n ≤ hi))) ∧ w = w' := by
  by_cases h : lo ≤ n
  · go_enter Tryz.func202, Tryz.ntmps202
    go_wp2
    go_ret
    exact ⟨by simp [h], rfl⟩
  · have e : decide (lo ≤ n) = false := by simpa using h
    rw [e, Bool.false_and]
    go_enter Tryz.func202, Tryz.ntmps202
    go_wp2
    go_ret
    exact ⟨rfl, rfl⟩

/-- What a name is to the tests. -/
theorem name_kinds (T : ByteArray) : T = ⟨#[]⟩ ∨ (¬ T.toList = [] ∧ 1 ≤ T.size) := by
  by_cases h : T.size = 0
  · exact Or.inl (is_empty h)
  · refine Or.inr ⟨fun e => ?_, by omega⟩
    have := not_empty h
    rw [e] at this
    cases this

theorem endB {x y : Bool} (h : x = true ↔ y = true) : Ending.returned (.bool x) = Ending.returned (.bool y) := by
  rw [Bool.eq_iff_iff.2 h]
theorem and_two {p q : Prop} [Decidable p] [Decidable q] (h : (decide p && decide q) = true) : p ∧ q := by simpa using h
theorem two_and {p q : Prop} [Decidable p] [Decidable q] (h : p ∧ q) : (decide p && decide q) = true := by simpa using h

/-! ### Which may be, kind by kind -/
theorem may_0 (S Q N : Int) (T : ByteArray) : mayB ⟨0, S, Q, T, N⟩ = true ↔ S = 0 ∧ Q = 0 ∧ T.size = 0 ∧ N = 0 := by
  have e : mayB ⟨0, S, Q, T, N⟩ = (decide (S = 0) && (decide (Q = 0) && (decide (T.size = 0) && decide (N = 0)))) := rfl
  rw [e]
  simp only [Bool.and_eq_true, decide_eq_true_eq]
theorem may_1 (S Q N : Int) (T : ByteArray) : mayB ⟨1, S, Q, T, N⟩ = true ↔ S = 0 ∧ Q = 0 ∧ T.size = 0 ∧ (1 ≤ N ∧ N ≤ 1099511627776) := by
  have e : mayB ⟨1, S, Q, T, N⟩ = (decide (S = 0) && (decide (Q = 0) && (decide (T.size = 0) && isBallot N))) := rfl
  rw [e]
  unfold isBallot
  simp only [Bool.and_eq_true, decide_eq_true_eq]
theorem may_2 (S Q N : Int) (T : ByteArray) : mayB ⟨2, S, Q, T, N⟩ = true ↔ (0 ≤ S ∧ S ≤ 7) ∧ (1 ≤ Q ∧ Q ≤ 1073741824) ∧ T.size = 0 ∧ N = 0 := by
  have e : mayB ⟨2, S, Q, T, N⟩ = ((decide (0 ≤ S) && decide (S ≤ 7)) && (great Q && (decide (T.size = 0) && decide (N = 0)))) := rfl
  rw [e]
  unfold great
  simp only [Bool.and_eq_true, decide_eq_true_eq]
theorem may_3 (S Q N : Int) (T : ByteArray) : mayB ⟨3, S, Q, T, N⟩ = true ↔ (1 ≤ S ∧ S ≤ 1073741824) ∧ (1 ≤ Q ∧ Q ≤ 1073741824) ∧ T.size = 0 ∧ N = 0 := by
  have e : mayB ⟨3, S, Q, T, N⟩ = (great S && (great Q && (decide (T.size = 0) && decide (N = 0)))) := rfl
  rw [e]
  unfold great
  simp only [Bool.and_eq_true, decide_eq_true_eq]
theorem may_4 (S Q N : Int) (T : ByteArray) : mayB ⟨4, S, Q, T, N⟩ = true ↔ (1 ≤ S ∧ S ≤ 1073741824) ∧ Q = 0 ∧ T.size = 0 ∧ (1 ≤ N ∧ N ≤ 1099511627776) := by
  have e : mayB ⟨4, S, Q, T, N⟩ = (great S && (decide (Q = 0) && (decide (T.size = 0) && isBallot N))) := rfl
  rw [e]
  unfold great isBallot
  simp only [Bool.and_eq_true, decide_eq_true_eq]
theorem may_5 (S Q N : Int) (T : ByteArray) : mayB ⟨5, S, Q, T, N⟩ = true ↔ (1 ≤ S ∧ S ≤ 1073741824) ∧ (1 ≤ Q ∧ Q ≤ 1073741824) ∧ (1 ≤ T.size ∧ T.size ≤ 64) ∧ N = 0 := by
  have e : mayB ⟨5, S, Q, T, N⟩ = (great S && (great Q && (isName T && decide (N = 0)))) := rfl
  rw [e]
  unfold great isName
  simp only [Bool.and_eq_true, decide_eq_true_eq]
theorem may_6 (S Q N : Int) (T : ByteArray) : mayB ⟨6, S, Q, T, N⟩ = true ↔ (1 ≤ S ∧ S ≤ 1073741824) ∧ (1 ≤ Q ∧ Q ≤ 1073741824) ∧ (1 ≤ T.size ∧ T.size ≤ 64) ∧ N = 0 := by
  have e : mayB ⟨6, S, Q, T, N⟩ = (great S && (great Q && (isName T && decide (N = 0)))) := rfl
  rw [e]
  unfold great isName
  simp only [Bool.and_eq_true, decide_eq_true_eq]
theorem may_7 (S Q N : Int) (T : ByteArray) : mayB ⟨7, S, Q, T, N⟩ = true ↔ (1 ≤ S ∧ S ≤ 1073741824) ∧ (1 ≤ Q ∧ Q ≤ 1073741824) ∧ (1 ≤ T.size ∧ T.size ≤ 64) ∧ N = 0 := by
  have e : mayB ⟨7, S, Q, T, N⟩ = (great S && (great Q && (isName T && decide (N = 0)))) := rfl
  rw [e]
  unfold great isName
  simp only [Bool.and_eq_true, decide_eq_true_eq]
theorem may_8 (S Q N : Int) (T : ByteArray) : mayB ⟨8, S, Q, T, N⟩ = true ↔ (1 ≤ S ∧ S ≤ 1073741824) ∧ (1 ≤ Q ∧ Q ≤ 1073741824) ∧ (1 ≤ T.size ∧ T.size ≤ 64) ∧ N = 0 := by
  have e : mayB ⟨8, S, Q, T, N⟩ = (great S && (great Q && (isName T && decide (N = 0)))) := rfl
  rw [e]
  unfold great isName
  simp only [Bool.and_eq_true, decide_eq_true_eq]
theorem may_9 (S Q N : Int) (T : ByteArray) : mayB ⟨9, S, Q, T, N⟩ = true ↔ (1 ≤ S ∧ S ≤ 1073741824) ∧ (1 ≤ Q ∧ Q ≤ 1073741824) ∧ (1 ≤ T.size ∧ T.size ≤ 64) ∧ (-1073741824 ≤ N ∧ N ≤ 1073741824) := by
  have e : mayB ⟨9, S, Q, T, N⟩ = (great S && (great Q && (isName T && (decide (-1073741824 ≤ N) && decide (N ≤ 1073741824))))) := rfl
  rw [e]
  unfold great isName
  simp only [Bool.and_eq_true, decide_eq_true_eq]
theorem may_10 (S Q N : Int) (T : ByteArray) : mayB ⟨10, S, Q, T, N⟩ = true ↔ (1 ≤ S ∧ S ≤ 1073741824) ∧ (1 ≤ Q ∧ Q ≤ 1073741824) ∧ (1 ≤ T.size ∧ T.size ≤ 64) ∧ N = 0 := by
  have e : mayB ⟨10, S, Q, T, N⟩ = (great S && (great Q && (isName T && decide (N = 0)))) := rfl
  rw [e]
  unfold great isName
  simp only [Bool.and_eq_true, decide_eq_true_eq]
theorem may_11 (S Q N : Int) (T : ByteArray) : mayB ⟨11, S, Q, T, N⟩ = true ↔ (1 ≤ S ∧ S ≤ 1073741824) ∧ (1 ≤ Q ∧ Q ≤ 1073741824) ∧ (1 ≤ T.size ∧ T.size ≤ 64) ∧ N = 0 := by
  have e : mayB ⟨11, S, Q, T, N⟩ = (great S && (great Q && (isName T && decide (N = 0)))) := rfl
  rw [e]
  unfold great isName
  simp only [Bool.and_eq_true, decide_eq_true_eq]
theorem may_12 (S Q N : Int) (T : ByteArray) : mayB ⟨12, S, Q, T, N⟩ = true ↔ (1 ≤ S ∧ S ≤ 1073741824) ∧ (1 ≤ Q ∧ Q ≤ 1073741824) ∧ (1 ≤ T.size ∧ T.size ≤ 64) ∧ N = 0 := by
  have e : mayB ⟨12, S, Q, T, N⟩ = (great S && (great Q && (isName T && decide (N = 0)))) := rfl
  rw [e]
  unfold great isName
  simp only [Bool.and_eq_true, decide_eq_true_eq]
end Go.Proofs.YtgecfplaimabpaaGreatDoor
/-
  Which commands may be, by the document's own (package latchkeyref03), some kinds. No condition.
-/
namespace Go.Proofs.YtgecfplaimabpaaGreatDoor
open Go.RowKit

set_option maxHeartbeats 3200000 in
set_option maxRecDepth 100000 in
theorem rmay_0 (S Q N : Int) (T : ByteArray) (w : World) :
    Calls Tryz.prog 203 #[.agg #[.int .i64 0, .int .i64 S, .int .i64 Q, .string T, .int .i64 N]] w fun e w' => e = .returned (.bool (mayB ⟨0, S, Q, T, N⟩)) ∧ Below w.heap.size w w' := by
  have q := rwithin_any
  rcases name_kinds T with rfl | ⟨hT, h1⟩
  · have hz : (⟨#[]⟩ : ByteArray).size = 0 := rfl
    go_enter Tryz.func203, Tryz.ntmps203
    go_wp2_with (go_at_call 202; refine (q _ _ _ _).mono ?_; rintro e w' ⟨rfl, rfl⟩)
    all_goals go_ret
    all_goals refine ⟨endB ?_, (Below.refl _ w).alloc (Nat.le_refl _) _⟩
    all_goals rw [may_0]
    all_goals (first
      | exact ⟨fun h => Bool.noConfusion h, fun h => by omega⟩
      | exact ⟨fun _ => by omega, fun _ => rfl⟩
      | exact ⟨fun h => by have := eq_of_beq h; omega, fun h => beq_iff_eq.mpr (by omega)⟩
      | exact ⟨fun h => by have := and_two h; omega, fun h => two_and (by omega)⟩)
  · have h1' : (1 : Int) ≤ (T.size : Int) := by omega
    go_enter Tryz.func203, Tryz.ntmps203
    go_wp2_with (go_at_call 202; refine (q _ _ _ _).mono ?_; rintro e w' ⟨rfl, rfl⟩)
    all_goals go_ret
    all_goals refine ⟨endB ?_, (Below.refl _ w).alloc (Nat.le_refl _) _⟩
    all_goals rw [may_0]
    all_goals (first
      | exact ⟨fun h => Bool.noConfusion h, fun h => by omega⟩
      | exact ⟨fun _ => by omega, fun _ => rfl⟩
      | exact ⟨fun h => by have := eq_of_beq h; omega, fun h => beq_iff_eq.mpr (by omega)⟩
      | exact ⟨fun h => by have := and_two h; omega, fun h => two_and (by omega)⟩)

set_option maxHeartbeats 3200000 in
set_option maxRecDepth 100000 in
theorem rmay_1 (S Q N : Int) (T : ByteArray) (w : World) :
    Calls Tryz.prog 203 #[.agg #[.int .i64 1, .int .i64 S, .int .i64 Q, .string T, .int .i64 N]] w fun e w' => e = .returned (.bool (mayB ⟨1, S, Q, T, N⟩)) ∧ Below w.heap.size w w' := by
  have q := rwithin_any
  rcases name_kinds T with rfl | ⟨hT, h1⟩
  · have hz : (⟨#[]⟩ : ByteArray).size = 0 := rfl
    go_enter Tryz.func203, Tryz.ntmps203
    go_wp2_with (go_at_call 202; refine (q _ _ _ _).mono ?_; rintro e w' ⟨rfl, rfl⟩)
    all_goals go_ret
    all_goals refine ⟨endB ?_, (Below.refl _ w).alloc (Nat.le_refl _) _⟩
    all_goals rw [may_1]
    all_goals (first
      | exact ⟨fun h => Bool.noConfusion h, fun h => by omega⟩
      | exact ⟨fun _ => by omega, fun _ => rfl⟩
      | exact ⟨fun h => by have := eq_of_beq h; omega, fun h => beq_iff_eq.mpr (by omega)⟩
      | exact ⟨fun h => by have := and_two h; omega, fun h => two_and (by omega)⟩)
  · have h1' : (1 : Int) ≤ (T.size : Int) := by omega
    go_enter Tryz.func203, Tryz.ntmps203
    go_wp2_with (go_at_call 202; refine (q _ _ _ _).mono ?_; rintro e w' ⟨rfl, rfl⟩)
    all_goals go_ret
    all_goals refine ⟨endB ?_, (Below.refl _ w).alloc (Nat.le_refl _) _⟩
    all_goals rw [may_1]
    all_goals (first
      | exact ⟨fun h => Bool.noConfusion h, fun h => by omega⟩
      | exact ⟨fun _ => by omega, fun _ => rfl⟩
      | exact ⟨fun h => by have := eq_of_beq h; omega, fun h => beq_iff_eq.mpr (by omega)⟩
      | exact ⟨fun h => by have := and_two h; omega, fun h => two_and (by omega)⟩)

set_option maxHeartbeats 3200000 in
set_option maxRecDepth 100000 in
theorem rmay_2 (S Q N : Int) (T : ByteArray) (w : World) :
    Calls Tryz.prog 203 #[.agg #[.int .i64 2, .int .i64 S, .int .i64 Q, .string T, .int .i64 N]] w fun e w' => e = .returned (.bool (mayB ⟨2, S, Q, T, N⟩)) ∧ Below w.heap.size w w' := by
  have q := rwithin_any
  rcases name_kinds T with rfl | ⟨hT, h1⟩
  · have hz : (⟨#[]⟩ : ByteArray).size = 0 := rfl
    go_enter Tryz.func203, Tryz.ntmps203
    go_wp2_with (go_at_call 202; refine (q _ _ _ _).mono ?_; rintro e w' ⟨rfl, rfl⟩)
    all_goals go_ret
    all_goals refine ⟨endB ?_, (Below.refl _ w).alloc (Nat.le_refl _) _⟩
    all_goals rw [may_2]
    all_goals (first
      | exact ⟨fun h => Bool.noConfusion h, fun h => by omega⟩
      | exact ⟨fun _ => by omega, fun _ => rfl⟩
      | exact ⟨fun h => by have := eq_of_beq h; omega, fun h => beq_iff_eq.mpr (by omega)⟩
      | exact ⟨fun h => by have := and_two h; omega, fun h => two_and (by omega)⟩)
  · have h1' : (1 : Int) ≤ (T.size : Int) := by omega
    go_enter Tryz.func203, Tryz.ntmps203
    go_wp2_with (go_at_call 202; refine (q _ _ _ _).mono ?_; rintro e w' ⟨rfl, rfl⟩)
    all_goals go_ret
    all_goals refine ⟨endB ?_, (Below.refl _ w).alloc (Nat.le_refl _) _⟩
    all_goals rw [may_2]
    all_goals (first
      | exact ⟨fun h => Bool.noConfusion h, fun h => by omega⟩
      | exact ⟨fun _ => by omega, fun _ => rfl⟩
      | exact ⟨fun h => by have := eq_of_beq h; omega, fun h => beq_iff_eq.mpr (by omega)⟩
      | exact ⟨fun h => by have := and_two h; omega, fun h => two_and (by omega)⟩)

set_option maxHeartbeats 3200000 in
set_option maxRecDepth 100000 in
theorem rmay_3 (S Q N : Int) (T : ByteArray) (w : World) :
    Calls Tryz.prog 203 #[.agg #[.int .i64 3, .int .i64 S, .int .i64 Q, .string T, .int .i64 N]] w fun e w' => e = .returned (.bool (mayB ⟨3, S, Q, T, N⟩)) ∧ Below w.heap.size w w' := by
  have q := rwithin_any
  rcases name_kinds T with rfl | ⟨hT, h1⟩
  · have hz : (⟨#[]⟩ : ByteArray).size = 0 := rfl
    go_enter Tryz.func203, Tryz.ntmps203
    go_wp2_with (go_at_call 202; refine (q _ _ _ _).mono ?_; rintro e w' ⟨rfl, rfl⟩)
    all_goals go_ret
    all_goals refine ⟨endB ?_, (Below.refl _ w).alloc (Nat.le_refl _) _⟩
    all_goals rw [may_3]
    all_goals (first
      | exact ⟨fun h => Bool.noConfusion h, fun h => by omega⟩
      | exact ⟨fun _ => by omega, fun _ => rfl⟩
      | exact ⟨fun h => by have := eq_of_beq h; omega, fun h => beq_iff_eq.mpr (by omega)⟩
      | exact ⟨fun h => by have := and_two h; omega, fun h => two_and (by omega)⟩)
  · have h1' : (1 : Int) ≤ (T.size : Int) := by omega
    go_enter Tryz.func203, Tryz.ntmps203
    go_wp2_with (go_at_call 202; refine (q _ _ _ _).mono ?_; rintro e w' ⟨rfl, rfl⟩)
    all_goals go_ret
    all_goals refine ⟨endB ?_, (Below.refl _ w).alloc (Nat.le_refl _) _⟩
    all_goals rw [may_3]
    all_goals (first
      | exact ⟨fun h => Bool.noConfusion h, fun h => by omega⟩
      | exact ⟨fun _ => by omega, fun _ => rfl⟩
      | exact ⟨fun h => by have := eq_of_beq h; omega, fun h => beq_iff_eq.mpr (by omega)⟩
      | exact ⟨fun h => by have := and_two h; omega, fun h => two_and (by omega)⟩)

end Go.Proofs.YtgecfplaimabpaaGreatDoor
/-
  Which commands may be, by the document's own (package latchkeyref03), some kinds. No condition.
-/
namespace Go.Proofs.YtgecfplaimabpaaGreatDoor
open Go.RowKit

set_option maxHeartbeats 3200000 in
set_option maxRecDepth 100000 in
theorem rmay_4 (S Q N : Int) (T : ByteArray) (w : World) :
    Calls Tryz.prog 203 #[.agg #[.int .i64 4, .int .i64 S, .int .i64 Q, .string T, .int .i64 N]] w fun e w' => e = .returned (.bool (mayB ⟨4, S, Q, T, N⟩)) ∧ Below w.heap.size w w' := by
  have q := rwithin_any
  rcases name_kinds T with rfl | ⟨hT, h1⟩
  · have hz : (⟨#[]⟩ : ByteArray).size = 0 := rfl
    go_enter Tryz.func203, Tryz.ntmps203
    go_wp2_with (go_at_call 202; refine (q _ _ _ _).mono ?_; rintro e w' ⟨rfl, rfl⟩)
    all_goals go_ret
    all_goals refine ⟨endB ?_, (Below.refl _ w).alloc (Nat.le_refl _) _⟩
    all_goals rw [may_4]
    all_goals (first
      | exact ⟨fun h => Bool.noConfusion h, fun h => by omega⟩
      | exact ⟨fun _ => by omega, fun _ => rfl⟩
      | exact ⟨fun h => by have := eq_of_beq h; omega, fun h => beq_iff_eq.mpr (by omega)⟩
      | exact ⟨fun h => by have := and_two h; omega, fun h => two_and (by omega)⟩)
  · have h1' : (1 : Int) ≤ (T.size : Int) := by omega
    go_enter Tryz.func203, Tryz.ntmps203
    go_wp2_with (go_at_call 202; refine (q _ _ _ _).mono ?_; rintro e w' ⟨rfl, rfl⟩)
    all_goals go_ret
    all_goals refine ⟨endB ?_, (Below.refl _ w).alloc (Nat.le_refl _) _⟩
    all_goals rw [may_4]
    all_goals (first
      | exact ⟨fun h => Bool.noConfusion h, fun h => by omega⟩
      | exact ⟨fun _ => by omega, fun _ => rfl⟩
      | exact ⟨fun h => by have := eq_of_beq h; omega, fun h => beq_iff_eq.mpr (by omega)⟩
      | exact ⟨fun h => by have := and_two h; omega, fun h => two_and (by omega)⟩)

set_option maxHeartbeats 3200000 in
set_option maxRecDepth 100000 in
theorem rmay_5 (S Q N : Int) (T : ByteArray) (w : World) :
    Calls Tryz.prog 203 #[.agg #[.int .i64 5, .int .i64 S, .int .i64 Q, .string T, .int .i64 N]] w fun e w' => e = .returned (.bool (mayB ⟨5, S, Q, T, N⟩)) ∧ Below w.heap.size w w' := by
  have q := rwithin_any
  rcases name_kinds T with rfl | ⟨hT, h1⟩
  · have hz : (⟨#[]⟩ : ByteArray).size = 0 := rfl
    go_enter Tryz.func203, Tryz.ntmps203
    go_wp2_with (go_at_call 202; refine (q _ _ _ _).mono ?_; rintro e w' ⟨rfl, rfl⟩)
    all_goals go_ret
    all_goals refine ⟨endB ?_, (Below.refl _ w).alloc (Nat.le_refl _) _⟩
    all_goals rw [may_5]
    all_goals (first
      | exact ⟨fun h => Bool.noConfusion h, fun h => by omega⟩
      | exact ⟨fun _ => by omega, fun _ => rfl⟩
      | exact ⟨fun h => by have := eq_of_beq h; omega, fun h => beq_iff_eq.mpr (by omega)⟩
      | exact ⟨fun h => by have := and_two h; omega, fun h => two_and (by omega)⟩)
  · have h1' : (1 : Int) ≤ (T.size : Int) := by omega
    go_enter Tryz.func203, Tryz.ntmps203
    go_wp2_with (go_at_call 202; refine (q _ _ _ _).mono ?_; rintro e w' ⟨rfl, rfl⟩)
    all_goals go_ret
    all_goals refine ⟨endB ?_, (Below.refl _ w).alloc (Nat.le_refl _) _⟩
    all_goals rw [may_5]
    all_goals (first
      | exact ⟨fun h => Bool.noConfusion h, fun h => by omega⟩
      | exact ⟨fun _ => by omega, fun _ => rfl⟩
      | exact ⟨fun h => by have := eq_of_beq h; omega, fun h => beq_iff_eq.mpr (by omega)⟩
      | exact ⟨fun h => by have := and_two h; omega, fun h => two_and (by omega)⟩)

set_option maxHeartbeats 3200000 in
set_option maxRecDepth 100000 in
theorem rmay_6 (S Q N : Int) (T : ByteArray) (w : World) :
    Calls Tryz.prog 203 #[.agg #[.int .i64 6, .int .i64 S, .int .i64 Q, .string T, .int .i64 N]] w fun e w' => e = .returned (.bool (mayB ⟨6, S, Q, T, N⟩)) ∧ Below w.heap.size w w' := by
  have q := rwithin_any
  rcases name_kinds T with rfl | ⟨hT, h1⟩
  · have hz : (⟨#[]⟩ : ByteArray).size = 0 := rfl
    go_enter Tryz.func203, Tryz.ntmps203
    go_wp2_with (go_at_call 202; refine (q _ _ _ _).mono ?_; rintro e w' ⟨rfl, rfl⟩)
    all_goals go_ret
    all_goals refine ⟨endB ?_, (Below.refl _ w).alloc (Nat.le_refl _) _⟩
    all_goals rw [may_6]
    all_goals (first
      | exact ⟨fun h => Bool.noConfusion h, fun h => by omega⟩
      | exact ⟨fun _ => by omega, fun _ => rfl⟩
      | exact ⟨fun h => by have := eq_of_beq h; omega, fun h => beq_iff_eq.mpr (by omega)⟩
      | exact ⟨fun h => by have := and_two h; omega, fun h => two_and (by omega)⟩)
  · have h1' : (1 : Int) ≤ (T.size : Int) := by omega
    go_enter Tryz.func203, Tryz.ntmps203
    go_wp2_with (go_at_call 202; refine (q _ _ _ _).mono ?_; rintro e w' ⟨rfl, rfl⟩)
    all_goals go_ret
    all_goals refine ⟨endB ?_, (Below.refl _ w).alloc (Nat.le_refl _) _⟩
    all_goals rw [may_6]
    all_goals (first
      | exact ⟨fun h => Bool.noConfusion h, fun h => by omega⟩
      | exact ⟨fun _ => by omega, fun _ => rfl⟩
      | exact ⟨fun h => by have := eq_of_beq h; omega, fun h => beq_iff_eq.mpr (by omega)⟩
      | exact ⟨fun h => by have := and_two h; omega, fun h => two_and (by omega)⟩)

end Go.Proofs.YtgecfplaimabpaaGreatDoor
/-
  Which commands may be, by the document's own (package latchkeyref03), some kinds. No condition.
-/
namespace Go.Proofs.YtgecfplaimabpaaGreatDoor
open Go.RowKit

set_option maxHeartbeats 3200000 in
set_option maxRecDepth 100000 in
theorem rmay_7 (S Q N : Int) (T : ByteArray) (w : World) :
    Calls Tryz.prog 203 #[.agg #[.int .i64 7, .int .i64 S, .int .i64 Q, .string T, .int .i64 N]] w fun e w' => e = .returned (.bool (mayB ⟨7, S, Q, T, N⟩)) ∧ Below w.heap.size w w' := by
  have q := rwithin_any
  rcases name_kinds T with rfl | ⟨hT, h1⟩
  · have hz : (⟨#[]⟩ : ByteArray).size = 0 := rfl
    go_enter Tryz.func203, Tryz.ntmps203
    go_wp2_with (go_at_call 202; refine (q _ _ _ _).mono ?_; rintro e w' ⟨rfl, rfl⟩)
    all_goals go_ret
    all_goals refine ⟨endB ?_, (Below.refl _ w).alloc (Nat.le_refl _) _⟩
    all_goals rw [may_7]
    all_goals (first
      | exact ⟨fun h => Bool.noConfusion h, fun h => by omega⟩
      | exact ⟨fun _ => by omega, fun _ => rfl⟩
      | exact ⟨fun h => by have := eq_of_beq h; omega, fun h => beq_iff_eq.mpr (by omega)⟩
      | exact ⟨fun h => by have := and_two h; omega, fun h => two_and (by omega)⟩)
  · have h1' : (1 : Int) ≤ (T.size : Int) := by omega
    go_enter Tryz.func203, Tryz.ntmps203
    go_wp2_with (go_at_call 202; refine (q _ _ _ _).mono ?_; rintro e w' ⟨rfl, rfl⟩)
    all_goals go_ret
    all_goals refine ⟨endB ?_, (Below.refl _ w).alloc (Nat.le_refl _) _⟩
    all_goals rw [may_7]
    all_goals (first
      | exact ⟨fun h => Bool.noConfusion h, fun h => by omega⟩
      | exact ⟨fun _ => by omega, fun _ => rfl⟩
      | exact ⟨fun h => by have := eq_of_beq h; omega, fun h => beq_iff_eq.mpr (by omega)⟩
      | exact ⟨fun h => by have := and_two h; omega, fun h => two_and (by omega)⟩)

set_option maxHeartbeats 3200000 in
set_option maxRecDepth 100000 in
theorem rmay_8 (S Q N : Int) (T : ByteArray) (w : World) :
    Calls Tryz.prog 203 #[.agg #[.int .i64 8, .int .i64 S, .int .i64 Q, .string T, .int .i64 N]] w fun e w' => e = .returned (.bool (mayB ⟨8, S, Q, T, N⟩)) ∧ Below w.heap.size w w' := by
  have q := rwithin_any
  rcases name_kinds T with rfl | ⟨hT, h1⟩
  · have hz : (⟨#[]⟩ : ByteArray).size = 0 := rfl
    go_enter Tryz.func203, Tryz.ntmps203
    go_wp2_with (go_at_call 202; refine (q _ _ _ _).mono ?_; rintro e w' ⟨rfl, rfl⟩)
    all_goals go_ret
    all_goals refine ⟨endB ?_, (Below.refl _ w).alloc (Nat.le_refl _) _⟩
    all_goals rw [may_8]
    all_goals (first
      | exact ⟨fun h => Bool.noConfusion h, fun h => by omega⟩
      | exact ⟨fun _ => by omega, fun _ => rfl⟩
      | exact ⟨fun h => by have := eq_of_beq h; omega, fun h => beq_iff_eq.mpr (by omega)⟩
      | exact ⟨fun h => by have := and_two h; omega, fun h => two_and (by omega)⟩)
  · have h1' : (1 : Int) ≤ (T.size : Int) := by omega
    go_enter Tryz.func203, Tryz.ntmps203
    go_wp2_with (go_at_call 202; refine (q _ _ _ _).mono ?_; rintro e w' ⟨rfl, rfl⟩)
    all_goals go_ret
    all_goals refine ⟨endB ?_, (Below.refl _ w).alloc (Nat.le_refl _) _⟩
    all_goals rw [may_8]
    all_goals (first
      | exact ⟨fun h => Bool.noConfusion h, fun h => by omega⟩
      | exact ⟨fun _ => by omega, fun _ => rfl⟩
      | exact ⟨fun h => by have := eq_of_beq h; omega, fun h => beq_iff_eq.mpr (by omega)⟩
      | exact ⟨fun h => by have := and_two h; omega, fun h => two_and (by omega)⟩)

set_option maxHeartbeats 3200000 in
set_option maxRecDepth 100000 in
theorem rmay_9 (S Q N : Int) (T : ByteArray) (w : World) :
    Calls Tryz.prog 203 #[.agg #[.int .i64 9, .int .i64 S, .int .i64 Q, .string T, .int .i64 N]] w fun e w' => e = .returned (.bool (mayB ⟨9, S, Q, T, N⟩)) ∧ Below w.heap.size w w' := by
  have q := rwithin_any
  rcases name_kinds T with rfl | ⟨hT, h1⟩
  · have hz : (⟨#[]⟩ : ByteArray).size = 0 := rfl
    go_enter Tryz.func203, Tryz.ntmps203
    go_wp2_with (go_at_call 202; refine (q _ _ _ _).mono ?_; rintro e w' ⟨rfl, rfl⟩)
    all_goals go_ret
    all_goals refine ⟨endB ?_, (Below.refl _ w).alloc (Nat.le_refl _) _⟩
    all_goals rw [may_9]
    all_goals (first
      | exact ⟨fun h => Bool.noConfusion h, fun h => by omega⟩
      | exact ⟨fun _ => by omega, fun _ => rfl⟩
      | exact ⟨fun h => by have := eq_of_beq h; omega, fun h => beq_iff_eq.mpr (by omega)⟩
      | exact ⟨fun h => by have := and_two h; omega, fun h => two_and (by omega)⟩)
  · have h1' : (1 : Int) ≤ (T.size : Int) := by omega
    go_enter Tryz.func203, Tryz.ntmps203
    go_wp2_with (go_at_call 202; refine (q _ _ _ _).mono ?_; rintro e w' ⟨rfl, rfl⟩)
    all_goals go_ret
    all_goals refine ⟨endB ?_, (Below.refl _ w).alloc (Nat.le_refl _) _⟩
    all_goals rw [may_9]
    all_goals (first
      | exact ⟨fun h => Bool.noConfusion h, fun h => by omega⟩
      | exact ⟨fun _ => by omega, fun _ => rfl⟩
      | exact ⟨fun h => by have := eq_of_beq h; omega, fun h => beq_iff_eq.mpr (by omega)⟩
      | exact ⟨fun h => by have := and_two h; omega, fun h => two_and (by omega)⟩)

end Go.Proofs.YtgecfplaimabpaaGreatDoor
/-
  Which commands may be, by the document's own (package latchkeyref03), some kinds. No condition.
-/
namespace Go.Proofs.YtgecfplaimabpaaGreatDoor
open Go.RowKit

set_option maxHeartbeats 3200000 in
set_option maxRecDepth 100000 in
theorem rmay_10 (S Q N : Int) (T : ByteArray) (w : World) :
    Calls Tryz.prog 203 #[.agg #[.int .i64 10, .int .i64 S, .int .i64 Q, .string T, .int .i64 N]] w fun e w' => e = .returned (.bool (mayB ⟨10, S, Q, T, N⟩)) ∧ Below w.heap.size w w' := by
  have q := rwithin_any
  rcases name_kinds T with rfl | ⟨hT, h1⟩
  · have hz : (⟨#[]⟩ : ByteArray).size = 0 := rfl
    go_enter Tryz.func203, Tryz.ntmps203
    go_wp2_with (go_at_call 202; refine (q _ _ _ _).mono ?_; rintro e w' ⟨rfl, rfl⟩)
    all_goals go_ret
    all_goals refine ⟨endB ?_, (Below.refl _ w).alloc (Nat.le_refl _) _⟩
    all_goals rw [may_10]
    all_goals (first
      | exact ⟨fun h => Bool.noConfusion h, fun h => by omega⟩
      | exact ⟨fun _ => by omega, fun _ => rfl⟩
      | exact ⟨fun h => by have := eq_of_beq h; omega, fun h => beq_iff_eq.mpr (by omega)⟩
      | exact ⟨fun h => by have := and_two h; omega, fun h => two_and (by omega)⟩)
  · have h1' : (1 : Int) ≤ (T.size : Int) := by omega
    go_enter Tryz.func203, Tryz.ntmps203
    go_wp2_with (go_at_call 202; refine (q _ _ _ _).mono ?_; rintro e w' ⟨rfl, rfl⟩)
    all_goals go_ret
    all_goals refine ⟨endB ?_, (Below.refl _ w).alloc (Nat.le_refl _) _⟩
    all_goals rw [may_10]
    all_goals (first
      | exact ⟨fun h => Bool.noConfusion h, fun h => by omega⟩
      | exact ⟨fun _ => by omega, fun _ => rfl⟩
      | exact ⟨fun h => by have := eq_of_beq h; omega, fun h => beq_iff_eq.mpr (by omega)⟩
      | exact ⟨fun h => by have := and_two h; omega, fun h => two_and (by omega)⟩)

set_option maxHeartbeats 3200000 in
set_option maxRecDepth 100000 in
theorem rmay_11 (S Q N : Int) (T : ByteArray) (w : World) :
    Calls Tryz.prog 203 #[.agg #[.int .i64 11, .int .i64 S, .int .i64 Q, .string T, .int .i64 N]] w fun e w' => e = .returned (.bool (mayB ⟨11, S, Q, T, N⟩)) ∧ Below w.heap.size w w' := by
  have q := rwithin_any
  rcases name_kinds T with rfl | ⟨hT, h1⟩
  · have hz : (⟨#[]⟩ : ByteArray).size = 0 := rfl
    go_enter Tryz.func203, Tryz.ntmps203
    go_wp2_with (go_at_call 202; refine (q _ _ _ _).mono ?_; rintro e w' ⟨rfl, rfl⟩)
    all_goals go_ret
    all_goals refine ⟨endB ?_, (Below.refl _ w).alloc (Nat.le_refl _) _⟩
    all_goals rw [may_11]
    all_goals (first
      | exact ⟨fun h => Bool.noConfusion h, fun h => by omega⟩
      | exact ⟨fun _ => by omega, fun _ => rfl⟩
      | exact ⟨fun h => by have := eq_of_beq h; omega, fun h => beq_iff_eq.mpr (by omega)⟩
      | exact ⟨fun h => by have := and_two h; omega, fun h => two_and (by omega)⟩)
  · have h1' : (1 : Int) ≤ (T.size : Int) := by omega
    go_enter Tryz.func203, Tryz.ntmps203
    go_wp2_with (go_at_call 202; refine (q _ _ _ _).mono ?_; rintro e w' ⟨rfl, rfl⟩)
    all_goals go_ret
    all_goals refine ⟨endB ?_, (Below.refl _ w).alloc (Nat.le_refl _) _⟩
    all_goals rw [may_11]
    all_goals (first
      | exact ⟨fun h => Bool.noConfusion h, fun h => by omega⟩
      | exact ⟨fun _ => by omega, fun _ => rfl⟩
      | exact ⟨fun h => by have := eq_of_beq h; omega, fun h => beq_iff_eq.mpr (by omega)⟩
      | exact ⟨fun h => by have := and_two h; omega, fun h => two_and (by omega)⟩)

set_option maxHeartbeats 3200000 in
set_option maxRecDepth 100000 in
theorem rmay_12 (S Q N : Int) (T : ByteArray) (w : World) :
    Calls Tryz.prog 203 #[.agg #[.int .i64 12, .int .i64 S, .int .i64 Q, .string T, .int .i64 N]] w fun e w' => e = .returned (.bool (mayB ⟨12, S, Q, T, N⟩)) ∧ Below w.heap.size w w' := by
  have q := rwithin_any
  rcases name_kinds T with rfl | ⟨hT, h1⟩
  · have hz : (⟨#[]⟩ : ByteArray).size = 0 := rfl
    go_enter Tryz.func203, Tryz.ntmps203
    go_wp2_with (go_at_call 202; refine (q _ _ _ _).mono ?_; rintro e w' ⟨rfl, rfl⟩)
    all_goals go_ret
    all_goals refine ⟨endB ?_, (Below.refl _ w).alloc (Nat.le_refl _) _⟩
    all_goals rw [may_12]
    all_goals (first
      | exact ⟨fun h => Bool.noConfusion h, fun h => by omega⟩
      | exact ⟨fun _ => by omega, fun _ => rfl⟩
      | exact ⟨fun h => by have := eq_of_beq h; omega, fun h => beq_iff_eq.mpr (by omega)⟩
      | exact ⟨fun h => by have := and_two h; omega, fun h => two_and (by omega)⟩)
  · have h1' : (1 : Int) ≤ (T.size : Int) := by omega
    go_enter Tryz.func203, Tryz.ntmps203
    go_wp2_with (go_at_call 202; refine (q _ _ _ _).mono ?_; rintro e w' ⟨rfl, rfl⟩)
    all_goals go_ret
    all_goals refine ⟨endB ?_, (Below.refl _ w).alloc (Nat.le_refl _) _⟩
    all_goals rw [may_12]
    all_goals (first
      | exact ⟨fun h => Bool.noConfusion h, fun h => by omega⟩
      | exact ⟨fun _ => by omega, fun _ => rfl⟩
      | exact ⟨fun h => by have := eq_of_beq h; omega, fun h => beq_iff_eq.mpr (by omega)⟩
      | exact ⟨fun h => by have := and_two h; omega, fun h => two_and (by omega)⟩)

set_option maxHeartbeats 3200000 in
set_option maxRecDepth 100000 in
theorem rmay_no (K S Q N : Int) (T : ByteArray) (hK : K < 0 ∨ 12 < K) (w : World) :
    Calls Tryz.prog 203 #[.agg #[.int .i64 K, .int .i64 S, .int .i64 Q, .string T, .int .i64 N]] w fun e w' => e = .returned (.bool (mayB ⟨K, S, Q, T, N⟩)) ∧ Below w.heap.size w w' := by
  have q := rwithin_any
  have e : mayB ⟨K, S, Q, T, N⟩ = false := by
    unfold mayB
    rw [if_neg (by show ¬ K = 0; omega), if_neg (by show ¬ K = 1; omega), if_neg (by show ¬ K = 4; omega), if_neg (by show ¬ K = 2; omega), if_neg (by show ¬ K = 3; omega), if_neg (by show ¬ K = 9; omega), if_neg (by show ¬ (5 ≤ K ∧ K ≤ 12); omega)]
  rw [e]
  have k0 : (K == 0) = false := by rw [beq_eq_false_iff_ne]; omega
  have k1 : (K == 1) = false := by rw [beq_eq_false_iff_ne]; omega
  have k2 : (K == 2) = false := by rw [beq_eq_false_iff_ne]; omega
  have k3 : (K == 3) = false := by rw [beq_eq_false_iff_ne]; omega
  have k4 : (K == 4) = false := by rw [beq_eq_false_iff_ne]; omega
  have k5 : (K == 5) = false := by rw [beq_eq_false_iff_ne]; omega
  have k6 : (K == 6) = false := by rw [beq_eq_false_iff_ne]; omega
  have k7 : (K == 7) = false := by rw [beq_eq_false_iff_ne]; omega
  have k8 : (K == 8) = false := by rw [beq_eq_false_iff_ne]; omega
  have k9 : (K == 9) = false := by rw [beq_eq_false_iff_ne]; omega
  have k10 : (K == 10) = false := by rw [beq_eq_false_iff_ne]; omega
  have k11 : (K == 11) = false := by rw [beq_eq_false_iff_ne]; omega
  have k12 : (K == 12) = false := by rw [beq_eq_false_iff_ne]; omega
  clear hK e
  rcases name_kinds T with rfl | ⟨hT, h1⟩
  · go_enter Tryz.func203, Tryz.ntmps203
    go_wp2_with (go_at_call 202; refine (q _ _ _ _).mono ?_; rintro e w' ⟨rfl, rfl⟩)
    all_goals go_ret
    all_goals exact ⟨rfl, (Below.refl _ w).alloc (Nat.le_refl _) _⟩
  · have h1' : (1 : Int) ≤ (T.size : Int) := by omega
    go_enter Tryz.func203, Tryz.ntmps203
    go_wp2_with (go_at_call 202; refine (q _ _ _ _).mono ?_; rintro e w' ⟨rfl, rfl⟩)
    all_goals go_ret
    all_goals exact ⟨rfl, (Below.refl _ w).alloc (Nat.le_refl _) _⟩

end Go.Proofs.YtgecfplaimabpaaGreatDoor
/-
  Which commands may be, by the document's own (package latchkeyref03): for every command. No condition.
-/
namespace Go.Proofs.YtgecfplaimabpaaGreatDoor
open Go.RowKit

theorem kind_cases (K : Int) : (K < 0 ∨ 12 < K) ∨ K = 0 ∨ K = 1 ∨ K = 2 ∨ K = 3 ∨ K = 4 ∨ K = 5 ∨ K = 6 ∨ K = 7 ∨ K = 8 ∨ K = 9 ∨ K = 10 ∨ K = 11 ∨ K = 12 := by omega
theorem rmay_any (K S Q N : Int) (T : ByteArray) (w : World) :
    Calls Tryz.prog 203 #[.agg #[.int .i64 K, .int .i64 S, .int .i64 Q, .string T, .int .i64 N]] w fun e w' => e = .returned (.bool (mayB ⟨K, S, Q, T, N⟩)) ∧ Below w.heap.size w w' := by
  rcases kind_cases K with h | rfl | rfl | rfl | rfl | rfl | rfl | rfl | rfl | rfl | rfl | rfl | rfl | rfl
  · exact rmay_no K S Q N T h w
  · exact rmay_0 S Q N T w
  · exact rmay_1 S Q N T w
  · exact rmay_2 S Q N T w
  · exact rmay_3 S Q N T w
  · exact rmay_4 S Q N T w
  · exact rmay_5 S Q N T w
  · exact rmay_6 S Q N T w
  · exact rmay_7 S Q N T w
  · exact rmay_8 S Q N T w
  · exact rmay_9 S Q N T w
  · exact rmay_10 S Q N T w
  · exact rmay_11 S Q N T w
  · exact rmay_12 S Q N T w
end Go.Proofs.YtgecfplaimabpaaGreatDoor
/-
  The contracts of the document's own encoding of commands and entries (package latchkeyref03). The condition: numbers are of 64 bits.
-/
namespace Go.Proofs.YtgecfplaimabpaaGreatDoor
open Go.RowKit

/-- A command laid in block B, from cell o on. -/
structure Box (w : World) (B o : Nat) (K S Q : Int) (T : ByteArray) (N : Int) : Prop where
  lt : B < w.heap.size
  c0 : w.cell? ⟨B, o, none⟩ = some (.int .i64 K)
  c1 : w.cell? ⟨B, o + 1, none⟩ = some (.int .i64 S)
  c2 : w.cell? ⟨B, o + 2, none⟩ = some (.int .i64 Q)
  c3 : w.cell? ⟨B, o + 3, none⟩ = some (.string T)
  c4 : w.cell? ⟨B, o + 4, none⟩ = some (.int .i64 N)
theorem Box.below {w w' : World} {B o : Nat} {K S Q N : Int} {T : ByteArray} (h : Box w B o K S Q T N) (b : Below w.heap.size w w') : Box w' B o K S Q T N :=
  ⟨Nat.lt_of_lt_of_le h.lt b.size, (b.cell (by exact h.lt)).trans h.c0, (b.cell (by exact h.lt)).trans h.c1, (b.cell (by exact h.lt)).trans h.c2, (b.cell (by exact h.lt)).trans h.c3, (b.cell (by exact h.lt)).trans h.c4⟩

/-- Encode's two answers. -/
def encT (c : Cm) : ByteArray × Int := if mayB c = true then (⟨(encC c).toArray⟩, 0) else (⟨#[]⟩, 1)

theorem bmm {w w1 w2 : World} {b : Nat} (h : Below b w w1) (hb : b ≤ w1.heap.size) (k : Below w1.heap.size w1 w2) : Below b w w2 := h.trans (k.mono hb)

theorem undrew {w w2 : World} (b : Below w.drew.heap.size w.drew w2) : Below w.heap.size w w2 := ⟨b.os, b.tape, b.output, b.size, b.block⟩

set_option maxHeartbeats 3200000 in
set_option maxRecDepth 100000 in
theorem rencode_any (K S Q N : Int) (T : ByteArray) (w : World) :
    Calls Tryz.prog 179 #[.agg #[.int .i64 K, .int .i64 S, .int .i64 Q, .string T, .int .i64 N]] w fun e w' => e = .returned (.tuple #[.string (encT ⟨K, S, Q, T, N⟩).1, .int .i64 (encT ⟨K, S, Q, T, N⟩).2]) ∧ Below w.heap.size w w' := by
  have q0 := rmay_any K S Q N T (w.alloc (.cells #[.int .i64 K, .int .i64 S, .int .i64 Q, .string T, .int .i64 N] 64))
  have ba : Below w.heap.size w (w.alloc (.cells #[.int .i64 K, .int .i64 S, .int .i64 Q, .string T, .int .i64 N] 64)) := (Below.refl _ w).alloc (Nat.le_refl _) _
  have x0 : Box (w.alloc (.cells #[.int .i64 K, .int .i64 S, .int .i64 Q, .string T, .int .i64 N] 64)) w.heap.size 0 K S Q T N := ⟨by simp, by simp, by simp, by simp, by simp, by simp⟩
  by_cases hm : mayB ⟨K, S, Q, T, N⟩ = true
  · have e : encT ⟨K, S, Q, T, N⟩ = (⟨(encC ⟨K, S, Q, T, N⟩).toArray⟩, 0) := by unfold encT; rw [if_pos hm]
    rw [e]
    rw [hm] at q0
    obtain ⟨⟨k1, k2⟩, ⟨s1, s2⟩, ⟨p1, p2⟩, t1, ⟨n1, n2⟩⟩ := may_small hm
    simp only at k1 k2 s1 s2 p1 p2 t1 n1 n2
    have y1 := fint_any K (by omega) (by omega)
    have y2 := fint_any S (by omega) (by omega)
    have y3 := fint_any Q (by omega) (by omega)
    have y4 := ftext_any T (by omega)
    have y5 := fint_any N (by omega) (by omega)
    have l1 := enc_len_ten (zig_bound (n := K) (by omega) (by omega))
    have l2 := enc_len_ten (zig_bound (n := S) (by omega) (by omega))
    have l3 := enc_len_ten (zig_bound (n := Q) (by omega) (by omega))
    have l4 : (lenText T).length ≤ 74 := by
      have := enc_len_ten (n := T.size) (by omega)
      have := Lib.size_eq T
      unfold lenText
      rw [List.length_append]
      omega
    have l5 := enc_len_ten (zig_bound (n := N) (by omega) (by omega))
    obtain ⟨A1, hA1⟩ : ∃ A : ByteArray, A = ⟨(enc (zig K)).toArray⟩ := ⟨_, rfl⟩
    obtain ⟨A2, hA2⟩ : ∃ A : ByteArray, A = ⟨(enc (zig S)).toArray⟩ := ⟨_, rfl⟩
    obtain ⟨A3, hA3⟩ : ∃ A : ByteArray, A = ⟨(enc (zig Q)).toArray⟩ := ⟨_, rfl⟩
    obtain ⟨A4, hA4⟩ : ∃ A : ByteArray, A = ⟨(lenText T).toArray⟩ := ⟨_, rfl⟩
    obtain ⟨A5, hA5⟩ : ∃ A : ByteArray, A = ⟨(enc (zig N)).toArray⟩ := ⟨_, rfl⟩
    obtain ⟨B2, hB2⟩ : ∃ B : ByteArray, A1 ++ A2 = B := ⟨_, rfl⟩
    obtain ⟨B3, hB3⟩ : ∃ B : ByteArray, B2 ++ A3 = B := ⟨_, rfl⟩
    obtain ⟨B4, hB4⟩ : ∃ B : ByteArray, B3 ++ A4 = B := ⟨_, rfl⟩
    obtain ⟨B5, hB5⟩ : ∃ B : ByteArray, B4 ++ A5 = B := ⟨_, rfl⟩
    have z1 : A1.size ≤ 10 := by rw [hA1, size_list]; exact l1
    have z2 : A2.size ≤ 10 := by rw [hA2, size_list]; exact l2
    have z3 : A3.size ≤ 10 := by rw [hA3, size_list]; exact l3
    have z4 : A4.size ≤ 74 := by rw [hA4, size_list]; exact l4
    have z5 : A5.size ≤ 10 := by rw [hA5, size_list]; exact l5
    have u2 : B2.size ≤ 20 := by rw [← hB2, ByteArray.size_append]; omega
    have u3 : B3.size ≤ 30 := by rw [← hB3, ByteArray.size_append]; omega
    have u4 : B4.size ≤ 104 := by rw [← hB4, ByteArray.size_append]; omega
    have v1 : (9223372036854775807 < A1.size + A2.size) = False := eq_false (by omega)
    have v2 : (9223372036854775807 < B2.size + A3.size) = False := eq_false (by omega)
    have v3 : (9223372036854775807 < B3.size + A4.size) = False := eq_false (by omega)
    have v4 : (9223372036854775807 < B4.size + A5.size) = False := eq_false (by omega)
    have HB : Hid (B5 = ⟨(encC ⟨K, S, Q, T, N⟩).toArray⟩) := by
      show B5 = _
      rw [← hB5, ← hB4, ← hB3, ← hB2, hA1, hA2, hA3, hA4, hA5, append_lists, append_lists, append_lists, append_lists]
      unfold encC
      simp
    rw [← hA1] at y1
    rw [← hA2] at y2
    rw [← hA3] at y3
    rw [← hA4] at y4
    rw [← hA5] at y5
    rw [← HB.out]
    clear hA1 hA2 hA3 hA4 hA5 l1 l2 l3 l4 l5 z1 z2 z3 z4 z5 u2 u3 u4 k1 k2 s1 s2 p1 p2 t1 n1 n2 e hm HB
    go_enter Tryz.func179, Tryz.ntmps179
    go_wp2_with (go_at_call 203; refine q0.mono ?_; rintro e w1 ⟨rfl, b1⟩)
    have i1 := x0.below b1
    have g1x0 := i1.c0
    have g1x1 := i1.c1
    have g1x2 := i1.c2
    have g1x3 := i1.c3
    have g1x4 := i1.c4
    simp only [Nat.zero_add] at g1x1 g1x2 g1x3 g1x4
    have f1 := bmm ba ba.size b1
    go_region_held3 (fun w' => w'.cell? ⟨w.heap.size, 0, none⟩ = some (.int .i64 K) ∧ w'.cell? ⟨w.heap.size, 1, none⟩ = some (.int .i64 S) ∧ w'.cell? ⟨w.heap.size, 2, none⟩ = some (.int .i64 Q) ∧ w'.cell? ⟨w.heap.size, 3, none⟩ = some (.string T) ∧ w'.cell? ⟨w.heap.size, 4, none⟩ = some (.int .i64 N)) (go_keep)
      (first
        | (go_at_call 89; have d3 := d2; refine (y5 _).mono ?_; rintro e w6 ⟨rfl, b6⟩; have i6 := i5.below b6; have g6x0 := i6.c0; have g6x1 := i6.c1; have g6x2 := i6.c2; have g6x3 := i6.c3; have g6x4 := i6.c4; simp only [Nat.zero_add] at g6x1 g6x2 g6x3 g6x4; have f6 := bmm f5 f5.size b6)
        | (go_at_call 90; refine (y4 _).mono ?_; rintro e w5 ⟨rfl, b5⟩; have i5 := i4.below b5; have g5x0 := i5.c0; have g5x1 := i5.c1; have g5x2 := i5.c2; have g5x3 := i5.c3; have g5x4 := i5.c4; simp only [Nat.zero_add] at g5x1 g5x2 g5x3 g5x4; have f5 := bmm f4 f4.size b5; have d2 : True := trivial)
        | (go_at_call 89; have d2 := d1; refine (y3 _).mono ?_; rintro e w4 ⟨rfl, b4⟩; have i4 := i3.below b4; have g4x0 := i4.c0; have g4x1 := i4.c1; have g4x2 := i4.c2; have g4x3 := i4.c3; have g4x4 := i4.c4; simp only [Nat.zero_add] at g4x1 g4x2 g4x3 g4x4; have f4 := bmm f3 f3.size b4)
        | (go_at_call 89; have d1 := d0; refine (y2 _).mono ?_; rintro e w3 ⟨rfl, b3⟩; have i3 := i2.below b3; have g3x0 := i3.c0; have g3x1 := i3.c1; have g3x2 := i3.c2; have g3x3 := i3.c3; have g3x4 := i3.c4; simp only [Nat.zero_add] at g3x1 g3x2 g3x3 g3x4; have f3 := bmm f2 f2.size b3; have d1 : True := trivial)
        | (go_at_call 89; refine (y1 _).mono ?_; rintro e w2 ⟨rfl, b2'⟩; have b2 := undrew b2'; have i2 := i1.below b2; have g2x0 := i2.c0; have g2x1 := i2.c1; have g2x2 := i2.c2; have g2x3 := i2.c3; have g2x4 := i2.c4; simp only [Nat.zero_add] at g2x1 g2x2 g2x3 g2x4; have f2 := bmm f1 f1.size b2; have d0 : True := trivial))
    go_wp2
    go_ret2
    exact ⟨rfl, f6⟩
  · have e : encT ⟨K, S, Q, T, N⟩ = (⟨#[]⟩, 1) := by unfold encT; rw [if_neg hm]
    rw [e]
    rw [show mayB ⟨K, S, Q, T, N⟩ = false by simpa using hm] at q0
    go_enter Tryz.func179, Tryz.ntmps179
    go_wp2_with (go_at_call 203; refine q0.mono ?_; rintro e w1 ⟨rfl, b1⟩)
    go_ret2
    exact ⟨rfl, bmm ba ba.size b1⟩

/-! ### Entries -/
set_option maxRecDepth 100000 in
theorem rmayE_any (A B K S Q N : Int) (T : ByteArray) (w : World) :
    Calls Tryz.prog 178 #[.agg #[.int .i64 A, .int .i64 B, .int .i64 K, .int .i64 S, .int .i64 Q, .string T, .int .i64 N]] w fun e w' => e = .returned (.bool (mayE ⟨A, B, ⟨K, S, Q, T, N⟩⟩)) ∧ Below w.heap.size w w' := by
  have q := rwithin_any
  have q0 := rmay_any K S Q N T (w.alloc (.cells #[.int .i64 A, .int .i64 B, .int .i64 K, .int .i64 S, .int .i64 Q, .string T, .int .i64 N] 66))
  have ba : Below w.heap.size w (w.alloc (.cells #[.int .i64 A, .int .i64 B, .int .i64 K, .int .i64 S, .int .i64 Q, .string T, .int .i64 N] 66)) := (Below.refl _ w).alloc (Nat.le_refl _) _
  have e : mayE ⟨A, B, ⟨K, S, Q, T, N⟩⟩ = ((decide (1 ≤ A) && decide (A ≤ 1099511627776)) && ((decide (0 ≤ B) && decide (B ≤ 1099511627776)) && mayB ⟨K, S, Q, T, N⟩)) := rfl
  rw [e]
  obtain ⟨m, hm⟩ : ∃ m, m = mayB ⟨K, S, Q, T, N⟩ := ⟨_, rfl⟩
  rw [← hm] at q0 ⊢
  clear hm e
  have q1 := rwithin_any A 1 1099511627776
  have q2 := rwithin_any B 0 1099511627776
  obtain ⟨a, ha⟩ : ∃ a, a = (decide (1 ≤ A) && decide (A ≤ 1099511627776)) := ⟨_, rfl⟩
  obtain ⟨b, hb⟩ : ∃ b, b = (decide (0 ≤ B) && decide (B ≤ 1099511627776)) := ⟨_, rfl⟩
  rw [← ha] at q1 ⊢
  rw [← hb] at q2 ⊢
  clear ha hb q
  cases a with
  | false =>
    go_enter Tryz.func178, Tryz.ntmps178
    go_wp2_with (go_at_call 202; refine (q1 _).mono ?_; rintro e w' ⟨rfl, rfl⟩)
    go_ret
    exact ⟨rfl, ba⟩
  | true =>
    cases b with
    | false =>
      go_enter Tryz.func178, Tryz.ntmps178
      go_wp2_with (first
        | (go_at_call 202; have d2 := d1; refine (q2 _).mono ?_; rintro e w' ⟨rfl, rfl⟩)
        | (go_at_call 202; refine (q1 _).mono ?_; rintro e w' ⟨rfl, rfl⟩; have d1 : True := trivial))
      go_ret
      exact ⟨rfl, ba⟩
    | true =>
      go_enter Tryz.func178, Tryz.ntmps178
      go_wp2_with (first
        | (go_at_call 203; refine q0.mono ?_; rintro e w1 ⟨rfl, b1⟩)
        | (go_at_call 202; have d2 := d1; refine (q2 _).mono ?_; rintro e w' ⟨rfl, rfl⟩)
        | (go_at_call 202; refine (q1 _).mono ?_; rintro e w' ⟨rfl, rfl⟩; have d1 : True := trivial))
      go_ret
      exact ⟨rfl, bmm ba ba.size b1⟩

/-- EncodeEntry's two answers. -/
def encET (e : En) : ByteArray × Int := if mayE e = true then (⟨(encE e).toArray⟩, 0) else (⟨#[]⟩, 1)

set_option maxHeartbeats 3200000 in
set_option maxRecDepth 100000 in
theorem rencodeE_any (A B K S Q N : Int) (T : ByteArray) (w : World) :
    Calls Tryz.prog 145 #[.agg #[.int .i64 A, .int .i64 B, .int .i64 K, .int .i64 S, .int .i64 Q, .string T, .int .i64 N]] w fun e w' => e = .returned (.tuple #[.string (encET ⟨A, B, ⟨K, S, Q, T, N⟩⟩).1, .int .i64 (encET ⟨A, B, ⟨K, S, Q, T, N⟩⟩).2]) ∧ Below w.heap.size w w' := by
  have q0 := rmayE_any A B K S Q N T (w.alloc (.cells #[.int .i64 A, .int .i64 B, .int .i64 K, .int .i64 S, .int .i64 Q, .string T, .int .i64 N] 66))
  have ba : Below w.heap.size w (w.alloc (.cells #[.int .i64 A, .int .i64 B, .int .i64 K, .int .i64 S, .int .i64 Q, .string T, .int .i64 N] 66)) := (Below.refl _ w).alloc (Nat.le_refl _) _
  have x0 : Box (w.alloc (.cells #[.int .i64 A, .int .i64 B, .int .i64 K, .int .i64 S, .int .i64 Q, .string T, .int .i64 N] 66)) w.heap.size 2 K S Q T N := ⟨by simp, by simp, by simp, by simp, by simp, by simp⟩
  have xa : (w.alloc (.cells #[.int .i64 A, .int .i64 B, .int .i64 K, .int .i64 S, .int .i64 Q, .string T, .int .i64 N] 66)).cell? ⟨w.heap.size, 0, none⟩ = some (.int .i64 A) := by simp
  have xb : (w.alloc (.cells #[.int .i64 A, .int .i64 B, .int .i64 K, .int .i64 S, .int .i64 Q, .string T, .int .i64 N] 66)).cell? ⟨w.heap.size, 1, none⟩ = some (.int .i64 B) := by simp
  by_cases hm : mayE ⟨A, B, ⟨K, S, Q, T, N⟩⟩ = true
  · have e : encET ⟨A, B, ⟨K, S, Q, T, N⟩⟩ = (⟨(encE ⟨A, B, ⟨K, S, Q, T, N⟩⟩).toArray⟩, 0) := by unfold encET; rw [if_pos hm]
    rw [e]
    rw [hm] at q0
    obtain ⟨⟨k1, k2⟩, ⟨s1, s2⟩, hmc⟩ := mayE_small hm
    simp only at k1 k2 s1 s2 hmc
    have lc := encC_len hmc
    have qc := rencode_any K S Q N T
    have ec : encT ⟨K, S, Q, T, N⟩ = (⟨(encC ⟨K, S, Q, T, N⟩).toArray⟩, 0) := by unfold encT; rw [if_pos hmc]
    rw [ec] at qc
    obtain ⟨C, hC⟩ : ∃ C : ByteArray, C = ⟨(encC ⟨K, S, Q, T, N⟩).toArray⟩ := ⟨_, rfl⟩
    have zC : C.size ≤ 200 := by rw [hC, size_list]; exact lc
    have qc' : ∀ w, Calls Tryz.prog 179 #[.agg #[.int .i64 K, .int .i64 S, .int .i64 Q, .string T, .int .i64 N]] w fun e w' => e = .returned (.tuple #[.string C, .int .i64 0]) ∧ Below w.heap.size w w' := by rw [hC]; exact qc
    have y1 := fint_any A (by omega) (by omega)
    have y2 := fint_any B (by omega) (by omega)
    have y3 := ftext_any C (by omega)
    have l1 := enc_len_ten (zig_bound (n := A) (by omega) (by omega))
    have l2 := enc_len_ten (zig_bound (n := B) (by omega) (by omega))
    have l3 : (lenText C).length ≤ 210 := by
      have := enc_len_ten (n := C.size) (by omega)
      have := Lib.size_eq C
      unfold lenText
      rw [List.length_append]
      omega
    obtain ⟨A1, hA1⟩ : ∃ A' : ByteArray, A' = ⟨(enc (zig A)).toArray⟩ := ⟨_, rfl⟩
    obtain ⟨A2, hA2⟩ : ∃ A' : ByteArray, A' = ⟨(enc (zig B)).toArray⟩ := ⟨_, rfl⟩
    obtain ⟨A3, hA3⟩ : ∃ A' : ByteArray, A' = ⟨(lenText C).toArray⟩ := ⟨_, rfl⟩
    obtain ⟨B2, hB2⟩ : ∃ B : ByteArray, A1 ++ A2 = B := ⟨_, rfl⟩
    obtain ⟨B3, hB3⟩ : ∃ B : ByteArray, B2 ++ A3 = B := ⟨_, rfl⟩
    have z1 : A1.size ≤ 10 := by rw [hA1, size_list]; exact l1
    have z2 : A2.size ≤ 10 := by rw [hA2, size_list]; exact l2
    have z3 : A3.size ≤ 210 := by rw [hA3, size_list]; exact l3
    have u2 : B2.size ≤ 20 := by rw [← hB2, ByteArray.size_append]; omega
    have v1 : (9223372036854775807 < A1.size + A2.size) = False := eq_false (by omega)
    have v2 : (9223372036854775807 < B2.size + A3.size) = False := eq_false (by omega)
    have HB : Hid (B3 = ⟨(encE ⟨A, B, ⟨K, S, Q, T, N⟩⟩).toArray⟩) := by
      show B3 = _
      rw [← hB3, ← hB2, hA1, hA2, hA3, append_lists, append_lists, hC]
      unfold encE
      simp
    rw [← hA1] at y1
    rw [← hA2] at y2
    rw [← hA3] at y3
    rw [← HB.out]
    clear hA1 hA2 hA3 l1 l2 l3 z1 z2 z3 u2 k1 k2 s1 s2 e hm hmc HB zC lc hC qc ec
    go_enter Tryz.func145, Tryz.ntmps145
    go_wp2_with (first
      | (go_at_call 179; refine (qc' _).mono ?_; rintro e w2 ⟨rfl, b2⟩)
      | (go_at_call 178; refine q0.mono ?_; rintro e w1 ⟨rfl, b1⟩; have i1 := x0.below b1; have g1x0 := i1.c0; have g1x1 := i1.c1; have g1x2 := i1.c2; have g1x3 := i1.c3; have g1x4 := i1.c4; simp only [Nat.reduceAdd] at g1x1 g1x2 g1x3 g1x4))
    have f1 := bmm ba ba.size b1
    have f2 := bmm f1 f1.size b2
    have lb1 : w.heap.size < w1.heap.size := i1.lt
    have lb2 : w.heap.size < w2.heap.size := Nat.lt_of_lt_of_le lb1 b2.size
    have ha1 := (b2.cell (p := ⟨w.heap.size, 0, none⟩) (by exact lb1)).trans ((b1.cell (by exact x0.lt)).trans xa)
    have hb1 := (b2.cell (p := ⟨w.heap.size, 1, none⟩) (by exact lb1)).trans ((b1.cell (by exact x0.lt)).trans xb)
    go_region_held3 (fun w' => w'.cell? ⟨w.heap.size, 0, none⟩ = some (.int .i64 A) ∧ w'.cell? ⟨w.heap.size, 1, none⟩ = some (.int .i64 B)) (go_keep)
      (first
        | (go_at_call 90; refine (y3 _).mono ?_; rintro e w5 ⟨rfl, b5⟩; have f5 := bmm f4 f4.size b5; have ha4 := (b5.cell (p := ⟨w.heap.size, 0, none⟩) (by exact lb4)).trans ha3; have hb4 := (b5.cell (p := ⟨w.heap.size, 1, none⟩) (by exact lb4)).trans hb3)
        | (go_at_call 89; have d1 := d0; refine (y2 _).mono ?_; rintro e w4 ⟨rfl, b4⟩; have f4 := bmm f3 f3.size b4; have lb4 := Nat.lt_of_lt_of_le lb3 b4.size; have ha3 := (b4.cell (p := ⟨w.heap.size, 0, none⟩) (by exact lb3)).trans ha2; have hb3 := (b4.cell (p := ⟨w.heap.size, 1, none⟩) (by exact lb3)).trans hb2)
        | (go_at_call 89; refine (y1 _).mono ?_; rintro e w3 ⟨rfl, b3'⟩; have b3 := undrew b3'; have f3 := bmm f2 f2.size b3; have lb3 := Nat.lt_of_lt_of_le lb2 b3.size; have ha2 := (b3.cell (p := ⟨w.heap.size, 0, none⟩) (by exact lb2)).trans ha1; have hb2 := (b3.cell (p := ⟨w.heap.size, 1, none⟩) (by exact lb2)).trans hb1; have d0 : True := trivial))
    go_wp2
    go_ret2
    exact ⟨rfl, f5⟩
  · have e : encET ⟨A, B, ⟨K, S, Q, T, N⟩⟩ = (⟨#[]⟩, 1) := by unfold encET; rw [if_neg hm]
    rw [e]
    rw [show mayE ⟨A, B, ⟨K, S, Q, T, N⟩⟩ = false by simpa using hm] at q0
    go_enter Tryz.func145, Tryz.ntmps145
    go_wp2_with (go_at_call 178; refine q0.mono ?_; rintro e w1 ⟨rfl, b1⟩)
    go_ret2
    exact ⟨rfl, bmm ba ba.size b1⟩

end Go.Proofs.YtgecfplaimabpaaGreatDoor
/-
  The contracts of the document's own decoding of commands and entries (package latchkeyref03). The condition: the text is no longer than a text of 64 bits' length.
-/
namespace Go.Proofs.YtgecfplaimabpaaGreatDoor
open Go.RowKit

/-- A command laid in a block of its own. -/
def Lies (w : World) (B : Nat) (K S Q : Int) (T : ByteArray) (N : Int) : Prop := w.heap[B]? = some (.cells #[.int .i64 K, .int .i64 S, .int .i64 Q, .string T, .int .i64 N] 64 (0, 0))
theorem Lies.box {w : World} {B : Nat} {K S Q N : Int} {T : ByteArray} (h : Lies w B K S Q T N) : Box w B 0 K S Q T N := by
  unfold Lies at h
  exact ⟨lt_of_block h, by simp [World.cell?, h], by simp [World.cell?, h], by simp [World.cell?, h], by simp [World.cell?, h], by simp [World.cell?, h]⟩
theorem Lies.free {w : World} {B : Nat} {K S Q N : Int} {T : ByteArray} (h : Lies w B K S Q T N) (i : Nat) : w.frozen? ⟨B, i, none⟩ = false := by
  unfold Lies at h
  simp [World.frozen?, h]
theorem Lies.set0 {w : World} {B : Nat} {K S Q N : Int} {T : ByteArray} (h : Lies w B K S Q T N) (K' : Int) : Lies (w.setCell ⟨B, 0, none⟩ (.int .i64 K')) B K' S Q T N := Lib.heap_setCell_same (i := 0) h _
theorem Lies.set1 {w : World} {B : Nat} {K S Q N : Int} {T : ByteArray} (h : Lies w B K S Q T N) (S' : Int) : Lies (w.setCell ⟨B, 1, none⟩ (.int .i64 S')) B K S' Q T N := Lib.heap_setCell_same (i := 1) h _
theorem Lies.set2 {w : World} {B : Nat} {K S Q N : Int} {T : ByteArray} (h : Lies w B K S Q T N) (Q' : Int) : Lies (w.setCell ⟨B, 2, none⟩ (.int .i64 Q')) B K S Q' T N := Lib.heap_setCell_same (i := 2) h _
theorem Lies.set3 {w : World} {B : Nat} {K S Q N : Int} {T : ByteArray} (h : Lies w B K S Q T N) (T' : ByteArray) : Lies (w.setCell ⟨B, 3, none⟩ (.string T')) B K S Q T' N := Lib.heap_setCell_same (i := 3) h _
theorem Lies.set4 {w : World} {B : Nat} {K S Q N : Int} {T : ByteArray} (h : Lies w B K S Q T N) (N' : Int) : Lies (w.setCell ⟨B, 4, none⟩ (.int .i64 N')) B K S Q T N' := Lib.heap_setCell_same (i := 4) h _
theorem Lies.far {w w' : World} {B : Nat} {K S Q N : Int} {T : ByteArray} (h : Lies w B K S Q T N) (hb : w'.heap[B]? = w.heap[B]?) : Lies w' B K S Q T N := by
  unfold Lies at h ⊢
  rw [hb]
  exact h

/-- Three new blocks. -/
theorem three_new (w : World) (o1 o2 o3 : Obj) {base : Nat} (h : w.heap.size = base) :
    (((w.alloc o1).alloc o2).alloc o3).heap[base]? = some o1 ∧ (((w.alloc o1).alloc o2).alloc o3).heap[base + 1]? = some o2 ∧ (((w.alloc o1).alloc o2).alloc o3).heap[base + 1 + 1]? = some o3 := by
  have n1 : (w.alloc o1).heap.size = base + 1 := by rw [World.size_alloc, h]
  have n2 : ((w.alloc o1).alloc o2).heap.size = base + 1 + 1 := by rw [World.size_alloc, n1]
  refine ⟨?_, ?_, ?_⟩
  · rw [Below.heap_alloc _ o3 base (by omega), Below.heap_alloc _ o2 base (by omega), ← h]
    exact heap_alloc_new w o1
  · rw [Below.heap_alloc _ o3 (base + 1) (by omega)]
    have := heap_alloc_new (w.alloc o1) o2
    rw [n1] at this
    exact this
  · have := heap_alloc_new ((w.alloc o1).alloc o2) o3
    rw [n2] at this
    exact this

/-- Decode's two answers. -/
def decT (s : ByteArray) : Cm × Int := match decC s with | some c => (c, 0) | none => (Cm.zero, 2)
theorem decT_ok {s : ByteArray} (h1 : (readC s).2 = 0) (h2 : mayB (readC s).1 = true) : decT s = ((readC s).1, 0) := by
  unfold decT decC
  rw [if_pos ⟨h1, h2⟩]
theorem decT_no {s : ByteArray} (h : ¬ ((readC s).2 = 0 ∧ mayB (readC s).1 = true)) : decT s = (Cm.zero, 2) := by
  unfold decT decC
  rw [if_neg h]

end Go.Proofs.YtgecfplaimabpaaGreatDoor
/-
  The contract of the document's own decoding of entries (package latchkeyref03). The condition: the text is no longer than a text of 64 bits' length.
-/
namespace Go.Proofs.YtgecfplaimabpaaGreatDoor
open Go.RowKit

/-- An entry laid in a block of its own. -/
def LiesE (w : World) (X : Nat) (A B K S Q : Int) (T : ByteArray) (N : Int) : Prop := w.heap[X]? = some (.cells #[.int .i64 A, .int .i64 B, .int .i64 K, .int .i64 S, .int .i64 Q, .string T, .int .i64 N] 66 (0, 0))
/-- Its cells. -/
structure BoxE (w : World) (X : Nat) (A B K S Q : Int) (T : ByteArray) (N : Int) : Prop where
  lt : X < w.heap.size
  c0 : w.cell? ⟨X, 0, none⟩ = some (.int .i64 A)
  c1 : w.cell? ⟨X, 1, none⟩ = some (.int .i64 B)
  c2 : w.cell? ⟨X, 2, none⟩ = some (.int .i64 K)
  c3 : w.cell? ⟨X, 3, none⟩ = some (.int .i64 S)
  c4 : w.cell? ⟨X, 4, none⟩ = some (.int .i64 Q)
  c5 : w.cell? ⟨X, 5, none⟩ = some (.string T)
  c6 : w.cell? ⟨X, 6, none⟩ = some (.int .i64 N)
theorem LiesE.box {w : World} {X : Nat} {A B K S Q N : Int} {T : ByteArray} (h : LiesE w X A B K S Q T N) : BoxE w X A B K S Q T N := by
  unfold LiesE at h
  exact ⟨lt_of_block h, by simp [World.cell?, h], by simp [World.cell?, h], by simp [World.cell?, h], by simp [World.cell?, h], by simp [World.cell?, h], by simp [World.cell?, h], by simp [World.cell?, h]⟩
theorem LiesE.free {w : World} {X : Nat} {A B K S Q N : Int} {T : ByteArray} (h : LiesE w X A B K S Q T N) (i : Nat) : w.frozen? ⟨X, i, none⟩ = false := by
  unfold LiesE at h
  simp [World.frozen?, h]
theorem LiesE.set0 {w : World} {X : Nat} {A B K S Q N : Int} {T : ByteArray} (h : LiesE w X A B K S Q T N) (x : Int) : LiesE (w.setCell ⟨X, 0, none⟩ (.int .i64 x)) X x B K S Q T N := Lib.heap_setCell_same (i := 0) h _
theorem LiesE.set1 {w : World} {X : Nat} {A B K S Q N : Int} {T : ByteArray} (h : LiesE w X A B K S Q T N) (x : Int) : LiesE (w.setCell ⟨X, 1, none⟩ (.int .i64 x)) X A x K S Q T N := Lib.heap_setCell_same (i := 1) h _
theorem LiesE.set2 {w : World} {X : Nat} {A B K S Q N : Int} {T : ByteArray} (h : LiesE w X A B K S Q T N) (x : Int) : LiesE (w.setCell ⟨X, 2, none⟩ (.int .i64 x)) X A B x S Q T N := Lib.heap_setCell_same (i := 2) h _
theorem LiesE.set3 {w : World} {X : Nat} {A B K S Q N : Int} {T : ByteArray} (h : LiesE w X A B K S Q T N) (x : Int) : LiesE (w.setCell ⟨X, 3, none⟩ (.int .i64 x)) X A B K x Q T N := Lib.heap_setCell_same (i := 3) h _
theorem LiesE.set4 {w : World} {X : Nat} {A B K S Q N : Int} {T : ByteArray} (h : LiesE w X A B K S Q T N) (x : Int) : LiesE (w.setCell ⟨X, 4, none⟩ (.int .i64 x)) X A B K S x T N := Lib.heap_setCell_same (i := 4) h _
theorem LiesE.set5 {w : World} {X : Nat} {A B K S Q N : Int} {T : ByteArray} (h : LiesE w X A B K S Q T N) (x : ByteArray) : LiesE (w.setCell ⟨X, 5, none⟩ (.string x)) X A B K S Q x N := Lib.heap_setCell_same (i := 5) h _
theorem LiesE.set6 {w : World} {X : Nat} {A B K S Q N : Int} {T : ByteArray} (h : LiesE w X A B K S Q T N) (x : Int) : LiesE (w.setCell ⟨X, 6, none⟩ (.int .i64 x)) X A B K S Q T x := Lib.heap_setCell_same (i := 6) h _
theorem LiesE.far {w w' : World} {X : Nat} {A B K S Q N : Int} {T : ByteArray} (h : LiesE w X A B K S Q T N) (hb : w'.heap[X]? = w.heap[X]?) : LiesE w' X A B K S Q T N := by
  unfold LiesE at h ⊢
  rw [hb]
  exact h

/-- DecodeEntry's two answers. -/
def decET (s : ByteArray) : En × Int := match decE s with | some e => (e, 0) | none => (En.zero, 2)
theorem decET_ok {s : ByteArray} {c : Cm} (h0 : decC (readE s).2.2.1 = some c) (h1 : (readE s).2.2.2 = 0) (h2 : mayE ⟨(readE s).1, (readE s).2.1, c⟩ = true) : decET s = (⟨(readE s).1, (readE s).2.1, c⟩, 0) := by
  unfold decET decE
  rw [h0]
  simp only
  rw [if_pos ⟨h1, h2⟩]
theorem decET_no0 {s : ByteArray} (h0 : decC (readE s).2.2.1 = none) : decET s = (En.zero, 2) := by
  unfold decET decE
  rw [h0]
theorem decET_no {s : ByteArray} {c : Cm} (h0 : decC (readE s).2.2.1 = some c) (h : ¬ ((readE s).2.2.2 = 0 ∧ mayE ⟨(readE s).1, (readE s).2.1, c⟩ = true)) : decET s = (En.zero, 2) := by
  unfold decET decE
  rw [h0]
  simp only
  rw [if_neg h]
theorem decET_no1 {s : ByteArray} (h : ¬ (readE s).2.2.2 = 0) : decET s = (En.zero, 2) := by
  cases h0 : decC (readE s).2.2.1 with
  | none => exact decET_no0 h0
  | some c => exact decET_no h0 (fun x => h x.1)

end Go.Proofs.YtgecfplaimabpaaGreatDoor
