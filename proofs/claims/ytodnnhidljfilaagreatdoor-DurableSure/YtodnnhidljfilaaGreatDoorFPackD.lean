/-
  Parts of the proof, laid together: FPlain, WlPlain, FRef, FRead, WlFour, WlEnc, WlFrames, WlRecs. The conditions stand at each part.
-/
import Derived.Lib.UnsafeStr
import Derived.Lib.Strings
import Derived.WalkKit
import Derived.WalkSpells
import Derived.Lib.BufferRead
import Derived.Lib.IndexBytes
import Derived.Lib.AppendStr
import Derived.Deep.AppendLies
import Derived.Deep.QuietTactic
import Derived.BigQuiet
import Derived.WalkSmall
import Derived.Handy
import Derived.Deep.RegionHeld3
import Derived.Test.YtodnnhidljfilaaGreatDoorProg
import Derived.Test.YtodnnhidljfilaaGreatDoorFPackA
import Derived.Test.YtodnnhidljfilaaGreatDoorFPackC
import Derived.Test.YtodnnhidljfilaaGreatDoorFPack5
/-
  The sum of a text (CRC-32, bit by bit) and frames, as plain functions on lists of bytes, and the facts on them that the walks and the laws need: a sum tells two texts apart that part at one byte; a table of 256 sums serves as well. No condition.
-/
namespace Go.Proofs.YtodnnhidljfilaaGreatDoor

/-- One bit. -/
def bitStep (r : Nat) : Nat := if r % 2 = 1 then (r / 2) ^^^ 3988292384 else r / 2
/-- n bits. -/
def bitSteps : Nat → Nat → Nat
  | 0, r => r
  | n + 1, r => bitSteps n (bitStep r)
/-- One byte. -/
def crcStep (r b : Nat) : Nat := bitSteps 8 (r ^^^ b)
/-- The bytes of a text, from r on. -/
def crcFrom : Nat → List UInt8 → Nat
  | r, [] => r
  | r, b :: l => crcFrom (crcStep r b.toNat) l
/-- The sum of a text. -/
def crc (l : List UInt8) : Nat := 4294967295 - crcFrom 4294967295 l

theorem bitStep_lt {r : Nat} (h : r < 4294967296) : bitStep r < 4294967296 := by
  unfold bitStep
  split
  · exact Nat.xor_lt_two_pow (n := 32) (by omega) (by decide)
  · omega
theorem bitSteps_lt : ∀ (n : Nat) {r : Nat}, r < 4294967296 → bitSteps n r < 4294967296
  | 0, _, h => h
  | n + 1, _, h => bitSteps_lt n (bitStep_lt h)
theorem byte_lt (b : UInt8) : b.toNat < 256 := UInt8.toNat_lt b
theorem crcStep_lt {r b : Nat} (h : r < 4294967296) (hb : b < 256) : crcStep r b < 4294967296 := bitSteps_lt 8 (Nat.xor_lt_two_pow (n := 32) h (by omega))
theorem crcFrom_lt : ∀ (l : List UInt8) {r : Nat}, r < 4294967296 → crcFrom r l < 4294967296
  | [], _, h => h
  | b :: l, _, h => crcFrom_lt l (crcStep_lt h (byte_lt b))
theorem crc_lt (l : List UInt8) : crc l < 4294967296 := by unfold crc; omega

theorem crcFrom_append : ∀ (l m : List UInt8) (r : Nat), crcFrom r (l ++ m) = crcFrom (crcFrom r l) m
  | [], _, _ => rfl
  | _ :: l, m, _ => crcFrom_append l m _

/-! ### A table serves as well -/
theorem xor_mod2 (a b : Nat) : (a ^^^ b) % 2 = (a + b) % 2 := by
  have h := Nat.xor_mod_two_pow (a := a) (b := b) (n := 1)
  rw [Nat.pow_one] at h
  rcases (show a % 2 = 0 ∨ a % 2 = 1 by omega) with ha | ha
  · rcases (show b % 2 = 0 ∨ b % 2 = 1 by omega) with hb | hb
    · rw [ha, hb] at h
      exact h.trans (show 0 = _ by omega)
    · rw [ha, hb] at h
      exact h.trans (show 1 = _ by omega)
  · rcases (show b % 2 = 0 ∨ b % 2 = 1 by omega) with hb | hb
    · rw [ha, hb] at h
      exact h.trans (show 1 = _ by omega)
    · rw [ha, hb] at h
      exact h.trans (show 0 = _ by omega)
theorem bitStep_xor (a b : Nat) : bitStep (a ^^^ b) = bitStep a ^^^ bitStep b := by
  have hm : (a ^^^ b) % 2 = (a + b) % 2 := xor_mod2 a b
  have hd : (a ^^^ b) / 2 = a / 2 ^^^ b / 2 := Nat.xor_div_two
  unfold bitStep
  rw [hd]
  by_cases ha : a % 2 = 1
  · by_cases hb : b % 2 = 1
    · rw [if_neg (by omega), if_pos ha, if_pos hb]
      rw [Nat.xor_assoc, ← Nat.xor_assoc 3988292384, Nat.xor_comm 3988292384 (b / 2), Nat.xor_assoc (b / 2), Nat.xor_self, Nat.xor_zero]
    · rw [if_pos (by omega), if_pos ha, if_neg hb]
      rw [Nat.xor_assoc, Nat.xor_assoc, Nat.xor_comm (b / 2)]
  · by_cases hb : b % 2 = 1
    · rw [if_pos (by omega), if_neg ha, if_pos hb, Nat.xor_assoc]
    · rw [if_neg (by omega), if_neg ha, if_neg hb]
theorem bitSteps_xor : ∀ (n a b : Nat), bitSteps n (a ^^^ b) = bitSteps n a ^^^ bitSteps n b
  | 0, _, _ => rfl
  | n + 1, a, b => by rw [bitSteps, bitStep_xor, bitSteps_xor n]; rfl
theorem bitSteps_even : ∀ (n h : Nat), bitSteps n (h * 2 ^ n) = h
  | 0, h => by simp [bitSteps]
  | n + 1, h => by
    have e : bitStep (h * 2 ^ (n + 1)) = h * 2 ^ n := by
      unfold bitStep
      rw [Nat.pow_succ, ← Nat.mul_assoc, if_neg (by omega)]
      omega
    rw [bitSteps, e, bitSteps_even n h]
/-! ### Four bytes, frames -/
/-- A number in four bytes. -/
def four (n : Nat) : List UInt8 := [UInt8.ofNat (n % 256), UInt8.ofNat (n / 256 % 256), UInt8.ofNat (n / 65536 % 256), UInt8.ofNat (n / 16777216 % 256)]
/-- The number of the four bytes at the front. -/
def num4 (l : List UInt8) : Nat := (l.getD 0 0).toNat + (l.getD 1 0).toNat * 256 + (l.getD 2 0).toNat * 65536 + (l.getD 3 0).toNat * 16777216
theorem four_len (n : Nat) : (four n).length = 4 := rfl
theorem ofNat_toNat {n : Nat} (h : n < 256) : (UInt8.ofNat n).toNat = n := by rw [UInt8.toNat_ofNat']; omega
theorem num4_four {n : Nat} (h : n < 4294967296) (l : List UInt8) : num4 (four n ++ l) = n := by
  unfold num4 four
  simp only [List.cons_append, List.nil_append, List.getD_cons_zero, List.getD_cons_succ]
  rw [ofNat_toNat (by omega), ofNat_toNat (by omega), ofNat_toNat (by omega), ofNat_toNat (by omega)]
  omega
theorem num4_lt (l : List UInt8) : num4 l < 4294967296 := by
  unfold num4
  have h0 := byte_lt (l.getD 0 0)
  have h1 := byte_lt (l.getD 1 0)
  have h2 := byte_lt (l.getD 2 0)
  have h3 := byte_lt (l.getD 3 0)
  omega

/-- A text's frame. -/
def frameOf (l : List UInt8) : List UInt8 := four l.length ++ (four (crc (four l.length ++ l)) ++ l)
theorem frameOf_len (l : List UInt8) : (frameOf l).length = l.length + 8 := by
  unfold frameOf
  simp only [List.length_append, four_len]
  omega

/-- The frame at the front: its text, its bytes, the error. -/
def firstOf (l : List UInt8) : List UInt8 × Nat × Nat :=
  if l.length < 8 then ([], 0, 4) else if 524288 < num4 l then ([], 0, 2) else if l.length - 8 < num4 l then ([], 0, 4)
  else if crc (l.take 4 ++ (l.drop 8).take (num4 l)) ≠ num4 (l.drop 4) then ([], 0, 3) else ((l.drop 8).take (num4 l), 8 + num4 l, 0)

theorem firstOf_frame (t rest : List UInt8) (h : t.length ≤ 524288) : firstOf (frameOf t ++ rest) = (t, t.length + 8, 0) := by
  have hl : (frameOf t ++ rest).length = t.length + 8 + rest.length := by rw [List.length_append, frameOf_len]
  have hn : num4 (frameOf t ++ rest) = t.length := by
    unfold frameOf
    rw [List.append_assoc]
    exact num4_four (by omega) _
  have h8 : (frameOf t ++ rest).drop 8 = t ++ rest := by
    unfold frameOf four
    simp
  have h4 : (frameOf t ++ rest).drop 4 = four (crc (four t.length ++ t)) ++ (t ++ rest) := by
    unfold frameOf
    rw [List.append_assoc, List.append_assoc, List.drop_left' (four_len _)]
  have ht4 : (frameOf t ++ rest).take 4 = four t.length := by
    unfold frameOf
    rw [List.append_assoc, List.take_left' (four_len _)]
  unfold firstOf
  rw [hl, hn, h8, h4, ht4, List.take_left' rfl, num4_four (crc_lt _), if_neg (by omega), if_neg (by omega), if_neg (by omega), if_neg (by simp)]
  congr 2
  omega

theorem firstOf_ok {l : List UInt8} (h : (firstOf l).2.2 = 0) : 8 ≤ (firstOf l).2.1 ∧ (firstOf l).2.1 ≤ l.length ∧ (firstOf l).1.length + 8 = (firstOf l).2.1 := by
  unfold firstOf at h ⊢
  split
  · simp_all
  · split
    · simp_all
    · split
      · simp_all
      · split
        · simp_all
        · refine ⟨(show 8 ≤ 8 + num4 l by omega), ?_, ?_⟩
          · show 8 + num4 l ≤ l.length
            omega
          · show ((l.drop 8).take (num4 l)).length + 8 = 8 + num4 l
            rw [List.length_take, List.length_drop]
            omega

end Go.Proofs.YtodnnhidljfilaaGreatDoor
/-
  Records of a log as plain data: which may be, their bytes, bytes as a record; frames of records, the records of a text from its front on; the names of segments. No condition.
-/
namespace Go.Proofs.YtodnnhidljfilaaGreatDoor

/-- A record. -/
structure Rc where
  kind : Int
  n : Int
  en : En
def Rc.zero : Rc := ⟨0, 0, En.zero⟩

/-- The entry all of whose fields are 0 and "". -/
def noE (e : En) : Bool := decide (e.slot = 0) && (decide (e.ballot = 0) && (decide (e.cmd.kind = 0) && (decide (e.cmd.session = 0) && (decide (e.cmd.seq = 0) && (decide (e.cmd.name.size = 0) && decide (e.cmd.n = 0))))))
theorem empty_of_size {s : ByteArray} (h : s.size = 0) : s = ⟨#[]⟩ := by
  cases s with
  | mk a =>
    have : a.size = 0 := h
    rw [Array.size_eq_zero_iff.mp this]
theorem noE_iff {e : En} : noE e = true ↔ e = En.zero := by
  constructor
  · intro h
    unfold noE at h
    simp only [Bool.and_eq_true, decide_eq_true_eq] at h
    obtain ⟨h1, h2, h3, h4, h5, h6, h7⟩ := h
    cases e with
    | mk a b c =>
      cases c with
      | mk k s q t n =>
        simp only at h1 h2 h3 h4 h5 h6 h7
        subst h1 h2 h3 h4 h5 h7
        rw [empty_of_size h6]
        rfl
  · intro h
    subst h
    rfl

/-- Which records may be. -/
def mayR (r : Rc) : Bool :=
  if r.kind = 1 then decide (1 ≤ r.n) && (decide (r.n ≤ 1099511627776) && noE r.en)
  else if r.kind = 2 then mayE r.en && (decide (r.n = 0) && decide (1 ≤ r.en.ballot))
  else false
/-- Eight bytes of a number. -/
def eight (n : Nat) : List UInt8 := four n ++ four (n / 4294967296)
/-- A record's bytes. -/
def encR (r : Rc) : List UInt8 := if r.kind = 1 then 1 :: eight r.n.toNat else 2 :: encE r.en
theorem mayR_kind {r : Rc} (h : mayR r = true) : (r.kind = 1 ∧ 1 ≤ r.n ∧ r.n ≤ 1099511627776 ∧ r.en = En.zero) ∨ (r.kind = 2 ∧ mayE r.en = true ∧ r.n = 0 ∧ 1 ≤ r.en.ballot) := by
  unfold mayR at h
  split at h
  · rename_i hk
    simp only [Bool.and_eq_true, decide_eq_true_eq] at h
    exact .inl ⟨hk, h.1, h.2.1, noE_iff.mp h.2.2⟩
  · split at h
    · rename_i hk
      simp only [Bool.and_eq_true, decide_eq_true_eq] at h
      exact .inr ⟨hk, h.1, h.2.1, h.2.2⟩
    · simp at h
theorem mayR_one {n : Int} (h1 : 1 ≤ n) (h2 : n ≤ 1099511627776) : mayR ⟨1, n, En.zero⟩ = true := by
  unfold mayR
  simp only [if_pos]
  simp only [Bool.and_eq_true, decide_eq_true_eq]
  exact ⟨h1, h2, rfl⟩

/-- The number of eight bytes, the last two left out (they are 0). -/
def num8 (l : List UInt8) : Nat := num4 l + num4 (l.drop 4) * 4294967296
theorem num8_eight {n : Nat} (h : n < 18446744073709551616) (l : List UInt8) : num8 (eight n ++ l) = n := by
  have a : num4 (eight n ++ l) = n % 4294967296 := by
    have e : four n = four (n % 4294967296) := by
      unfold four
      have h1 : n % 4294967296 % 256 = n % 256 := by omega
      have h2 : n % 4294967296 / 256 % 256 = n / 256 % 256 := by omega
      have h3 : n % 4294967296 / 65536 % 256 = n / 65536 % 256 := by omega
      have h4 : n % 4294967296 / 16777216 % 256 = n / 16777216 % 256 := by omega
      rw [h1, h2, h3, h4]
    unfold eight
    rw [List.append_assoc, e]
    exact num4_four (Nat.mod_lt _ (by decide)) _
  have b : num4 ((eight n ++ l).drop 4) = n / 4294967296 := by
    unfold eight
    rw [List.append_assoc, List.drop_left' (four_len _)]
    exact num4_four (by omega) _
  unfold num8
  rw [a, b]
  omega
theorem eight_len (n : Nat) : (eight n).length = 8 := rfl
theorem eight_6 {n : Nat} (h : n < 281474976710656) : (eight n)[6]? = some 0 := by
  show some (UInt8.ofNat (n / 4294967296 / 65536 % 256)) = some 0
  rw [show n / 4294967296 / 65536 % 256 = 0 by omega]
  rfl
theorem eight_7 {n : Nat} (h : n < 281474976710656) : (eight n)[7]? = some 0 := by
  show some (UInt8.ofNat (n / 4294967296 / 16777216 % 256)) = some 0
  rw [show n / 4294967296 / 16777216 % 256 = 0 by omega]
  rfl

/-- What bytes would say as a record. -/
def candR (l : List UInt8) : Rc :=
  if l.length = 9 ∧ l[0]? = some 1 ∧ l[8]? = some 0 ∧ l[7]? = some 0 then ⟨1, (num8 (l.drop 1) : Int), En.zero⟩
  else if l[0]? = some 2 then ⟨2, 0, (decET ⟨(l.drop 1).toArray⟩).1⟩ else Rc.zero
/-- Bytes as a record. -/
def decR (l : List UInt8) : Option Rc := if mayR (candR l) = true ∧ encR (candR l) = l then some (candR l) else none
theorem decR_only {l : List UInt8} {r : Rc} (h : decR l = some r) : mayR r = true ∧ encR r = l := by
  unfold decR at h
  split at h
  · rename_i hh
    cases h
    exact hh
  · simp at h
theorem decET_enc {e : En} (h : mayE e = true) : decET ⟨(encE e).toArray⟩ = (e, 0) := by
  unfold decET
  rw [decE_enc h]
theorem candR_enc {r : Rc} (h : mayR r = true) : candR (encR r) = r := by
  cases r with
  | mk k n e =>
    rcases mayR_kind h with ⟨h1, h2, h3, h4⟩ | ⟨h1, h2, h3, h4⟩
    · simp only at h1 h2 h3 h4
      subst h1 h4
      have hn : n.toNat < 281474976710656 := by omega
      have e1 : encR ⟨1, n, En.zero⟩ = 1 :: eight n.toNat := rfl
      rw [e1]
      unfold candR
      rw [if_pos ⟨rfl, rfl, eight_7 hn, eight_6 hn⟩]
      have := num8_eight (n := n.toNat) (by omega) []
      rw [List.append_nil] at this
      rw [List.drop_succ_cons, List.drop_zero, this, Int.toNat_of_nonneg (by omega)]
    · simp only at h1 h2 h3 h4
      subst h1 h3
      have e1 : encR ⟨2, 0, e⟩ = 2 :: encE e := rfl
      rw [e1]
      unfold candR
      rw [if_neg (by simp), if_pos (show (2 :: encE e)[0]? = some 2 from rfl), List.drop_succ_cons, List.drop_zero, decET_enc h2]
theorem decR_enc {r : Rc} (h : mayR r = true) : decR (encR r) = some r := by
  unfold decR
  rw [candR_enc h, if_pos ⟨h, rfl⟩]
/-! ### Frames of records, and the records of a text -/
/-- The frames of records. -/
def framesOf : List Rc → List UInt8
  | [] => []
  | r :: l => frameOf (encR r) ++ framesOf l
theorem framesOf_append : ∀ (a b : List Rc), framesOf (a ++ b) = framesOf a ++ framesOf b
  | [], b => rfl
  | r :: a, b => by
    show frameOf (encR r) ++ framesOf (a ++ b) = (frameOf (encR r) ++ framesOf a) ++ framesOf b
    rw [framesOf_append a b, List.append_assoc]
/-- The records of a text, and how many bytes they have (f: how many there may be at the most). -/
def recsOf : Nat → List UInt8 → List Rc × Nat
  | 0, _ => ([], 0)
  | f + 1, l =>
    if (firstOf l).2.2 ≠ 0 then ([], 0) else
    match decR (firstOf l).1 with
    | none => ([], 0)
    | some r => (r :: (recsOf f (l.drop (firstOf l).2.1)).1, (firstOf l).2.1 + (recsOf f (l.drop (firstOf l).2.1)).2)
theorem recsOf_no {f : Nat} {l : List UInt8} (h : (firstOf l).2.2 ≠ 0) : recsOf (f + 1) l = ([], 0) := by
  rw [recsOf]
  rw [if_pos h]
theorem recsOf_none {f : Nat} {l : List UInt8} (h : decR (firstOf l).1 = none) : recsOf (f + 1) l = ([], 0) := by
  rw [recsOf, h]
  split <;> rfl
theorem recsOf_more {f : Nat} {l : List UInt8} {r : Rc} (h0 : (firstOf l).2.2 = 0) (h : decR (firstOf l).1 = some r) : recsOf (f + 1) l = (r :: (recsOf f (l.drop (firstOf l).2.1)).1, (firstOf l).2.1 + (recsOf f (l.drop (firstOf l).2.1)).2) := by
  rw [recsOf, h, if_neg (by simp [h0])]
/-- More rounds than bytes say no more. -/
theorem recsOf_enough : ∀ (f g : Nat) (l : List UInt8), l.length < f → l.length < g → recsOf f l = recsOf g l
  | 0, _, _, h, _ => absurd h (Nat.not_lt_zero _)
  | _, 0, _, _, h => absurd h (Nat.not_lt_zero _)
  | f + 1, g + 1, l, hf, hg => by
    by_cases h0 : (firstOf l).2.2 = 0
    · cases hd : decR (firstOf l).1 with
      | none => rw [recsOf_none hd, recsOf_none hd]
      | some r =>
        have hk := firstOf_ok h0
        have hl : (l.drop (firstOf l).2.1).length = l.length - (firstOf l).2.1 := List.length_drop
        rw [recsOf_more h0 hd, recsOf_more h0 hd, recsOf_enough f g _ (by omega) (by omega)]
    · rw [recsOf_no h0, recsOf_no h0]
/-- All records of a text. -/
def recs (l : List UInt8) : List Rc × Nat := recsOf (l.length + 1) l
theorem recs_no {l : List UInt8} (h : (firstOf l).2.2 ≠ 0) : recs l = ([], 0) := recsOf_no h
theorem recs_none {l : List UInt8} (h : decR (firstOf l).1 = none) : recs l = ([], 0) := recsOf_none h
theorem recs_more {l : List UInt8} {r : Rc} (h0 : (firstOf l).2.2 = 0) (h : decR (firstOf l).1 = some r) : recs l = (r :: (recs (l.drop (firstOf l).2.1)).1, (firstOf l).2.1 + (recs (l.drop (firstOf l).2.1)).2) := by
  have hk := firstOf_ok h0
  have hl : (l.drop (firstOf l).2.1).length = l.length - (firstOf l).2.1 := List.length_drop
  unfold recs
  rw [recsOf_more h0 h, recsOf_enough l.length ((l.drop (firstOf l).2.1).length + 1) _ (by omega) (by omega)]
theorem encE_few {e : En} (h : mayE e = true) : (encE e).length ≤ 300 := by
  obtain ⟨h1, h2, h3⟩ := mayE_small h
  have l0 := encC_len h3
  have l1 := enc_len_ten (zig_bound (n := e.slot) (by omega) (by omega))
  have l2 := enc_len_ten (zig_bound (n := e.ballot) (by omega) (by omega))
  have l3 := enc_len_ten (n := (encC e.cmd).length) (by omega)
  unfold encE lenText
  simp only [List.length_append, size_list]
  omega
theorem encR_len {r : Rc} (h : mayR r = true) : 1 ≤ (encR r).length ∧ (encR r).length ≤ 524288 := by
  rcases mayR_kind h with ⟨h1, _⟩ | ⟨h1, h2, _⟩
  · unfold encR
    rw [if_pos h1, List.length_cons, eight_len]
    omega
  · unfold encR
    rw [if_neg (by omega), List.length_cons]
    have := encE_few h2
    omega
theorem recs_frame {r : Rc} (h : mayR r = true) (l : List UInt8) : recs (frameOf (encR r) ++ l) = (r :: (recs l).1, (frameOf (encR r)).length + (recs l).2) := by
  have hf := firstOf_frame (encR r) l (encR_len h).2
  have hd : (frameOf (encR r) ++ l).drop ((encR r).length + 8) = l := List.drop_left' (frameOf_len _)
  have e0 : (firstOf (frameOf (encR r) ++ l)).2.2 = 0 := by rw [hf]
  have e1 : decR (firstOf (frameOf (encR r) ++ l)).1 = some r := by rw [hf]; exact decR_enc h
  have e2 : (firstOf (frameOf (encR r) ++ l)).2.1 = (encR r).length + 8 := by rw [hf]
  rw [recs_more e0 e1, e2, hd, frameOf_len]
theorem recs_frames : ∀ (a : List Rc) (_ : ∀ r ∈ a, mayR r = true) (l : List UInt8), recs (framesOf a ++ l) = (a ++ (recs l).1, (framesOf a).length + (recs l).2)
  | [], _, l => by
    show recs l = ([] ++ (recs l).1, 0 + (recs l).2)
    rw [List.nil_append, Nat.zero_add]
  | r :: a, h, l => by
    show recs ((frameOf (encR r) ++ framesOf a) ++ l) = _
    rw [List.append_assoc, recs_frame (h r (List.mem_cons_self ..)), recs_frames a (fun q hq => h q (List.mem_cons_of_mem _ hq)) l]
    show (_, _) = ((r :: a) ++ (recs l).1, (frameOf (encR r) ++ framesOf a).length + (recs l).2)
    rw [List.length_append, Nat.add_assoc]
    rfl
theorem recs_nil : recs [] = ([], 0) := by
  apply recs_no
  decide
theorem recs_back (a : List Rc) (h : ∀ r ∈ a, mayR r = true) : recs (framesOf a) = (a, (framesOf a).length) := by
  have := recs_frames a h []
  rw [recs_nil, List.append_nil, List.append_nil, Nat.add_zero] at this
  exact this
/-! ### A text's beginning is what was read of it -/
theorem four_num4 {l : List UInt8} (h : 4 ≤ l.length) : four (num4 l) = l.take 4 := by
  match l, h with
  | a :: b :: c :: d :: t, _ =>
    have ha := byte_lt a; have hb := byte_lt b; have hc := byte_lt c; have hd := byte_lt d
    have e : num4 (a :: b :: c :: d :: t) = a.toNat + b.toNat * 256 + c.toNat * 65536 + d.toNat * 16777216 := rfl
    unfold four
    rw [e, show (a.toNat + b.toNat * 256 + c.toNat * 65536 + d.toNat * 16777216) % 256 = a.toNat by omega,
      show (a.toNat + b.toNat * 256 + c.toNat * 65536 + d.toNat * 16777216) / 256 % 256 = b.toNat by omega,
      show (a.toNat + b.toNat * 256 + c.toNat * 65536 + d.toNat * 16777216) / 65536 % 256 = c.toNat by omega,
      show (a.toNat + b.toNat * 256 + c.toNat * 65536 + d.toNat * 16777216) / 16777216 % 256 = d.toNat by omega]
    simp
theorem firstOf_only {l : List UInt8} (h : (firstOf l).2.2 = 0) : l = frameOf (firstOf l).1 ++ l.drop (firstOf l).2.1 ∧ (firstOf l).1.length ≤ 524288 := by
  unfold firstOf at h ⊢
  by_cases h1 : l.length < 8
  · rw [if_pos h1] at h; simp at h
  rw [if_neg h1] at h ⊢
  by_cases h2 : 524288 < num4 l
  · rw [if_pos h2] at h; simp at h
  rw [if_neg h2] at h ⊢
  by_cases h3 : l.length - 8 < num4 l
  · rw [if_pos h3] at h; simp at h
  rw [if_neg h3] at h ⊢
  by_cases h4 : crc (l.take 4 ++ (l.drop 8).take (num4 l)) ≠ num4 (l.drop 4)
  · rw [if_pos h4] at h; simp at h
  rw [if_neg h4] at h ⊢
  have h5 : crc (l.take 4 ++ (l.drop 8).take (num4 l)) = num4 (l.drop 4) := Classical.not_not.mp h4
  have hl : ((l.drop 8).take (num4 l)).length = num4 l := by
    rw [List.length_take, List.length_drop]
    omega
  constructor
  · show l = frameOf ((l.drop 8).take (num4 l)) ++ l.drop (8 + num4 l)
    unfold frameOf
    rw [hl, four_num4 (by omega), h5, four_num4 (by rw [List.length_drop]; omega), List.append_assoc, List.append_assoc]
    have e1 : l.drop (8 + num4 l) = (l.drop 8).drop (num4 l) := by rw [List.drop_drop]
    have e2 : l.drop 8 = (l.drop 4).drop 4 := by rw [List.drop_drop]
    rw [e1, List.take_append_drop, e2, List.take_append_drop, List.take_append_drop]
  · show ((l.drop 8).take (num4 l)).length ≤ 524288
    omega
/-- What was read may be, and the text opens with its frames. -/
theorem recsOf_only : ∀ (f : Nat) (l : List UInt8), (∀ r ∈ (recsOf f l).1, mayR r = true) ∧ l = framesOf (recsOf f l).1 ++ l.drop (recsOf f l).2 ∧ (recsOf f l).2 = (framesOf (recsOf f l).1).length
  | 0, l => ⟨(by intro r hr; cases hr), rfl, rfl⟩
  | f + 1, l => by
    by_cases h0 : (firstOf l).2.2 = 0
    · cases hd : decR (firstOf l).1 with
      | none =>
        rw [recsOf_none hd]
        exact ⟨(by intro r hr; cases hr), rfl, rfl⟩
      | some r =>
        obtain ⟨i1, i2, i3⟩ := recsOf_only f (l.drop (firstOf l).2.1)
        obtain ⟨m, en⟩ := decR_only hd
        obtain ⟨q, _⟩ := firstOf_only h0
        have hk := firstOf_ok h0
        rw [recsOf_more h0 hd]
        refine ⟨?_, ?_, ?_⟩
        · intro x hx
          rcases List.mem_cons.mp hx with e | e
          · rw [e]; exact m
          · exact i1 x e
        · show l = (frameOf (encR r) ++ framesOf _) ++ l.drop (_ + _)
          rw [en, ← List.drop_drop, List.append_assoc, ← i2]
          exact q
        · show _ + _ = (frameOf (encR r) ++ framesOf _).length
          rw [List.length_append, ← i3, frameOf_len, en, hk.2.2]
    · rw [recsOf_no h0]
      exact ⟨(by intro r hr; cases hr), rfl, rfl⟩
theorem recs_only (l : List UInt8) : (∀ r ∈ (recs l).1, mayR r = true) ∧ l = framesOf (recs l).1 ++ l.drop (recs l).2 ∧ (recs l).2 = (framesOf (recs l).1).length := recsOf_only _ l
/-- Frames at the front of frames are those of the first records. -/
theorem frames_front {a b : List Rc} {t : List UInt8} (ha : ∀ r ∈ a, mayR r = true) (hb : ∀ r ∈ b, mayR r = true) (h : framesOf a = framesOf b ++ t) : a = b ++ (recs t).1 := by
  have e1 := recs_back a ha
  rw [h, recs_frames b hb t] at e1
  exact (congrArg Prod.fst e1).symm
/-- What is read of a beginning of frames is a beginning of the records. -/
theorem recs_take {a : List Rc} (ha : ∀ r ∈ a, mayR r = true) (k : Nat) : ∃ c, a = (recs ((framesOf a).take k)).1 ++ c := by
  obtain ⟨m, e, _⟩ := recs_only ((framesOf a).take k)
  have h : framesOf a = framesOf (recs ((framesOf a).take k)).1 ++ (((framesOf a).take k).drop (recs ((framesOf a).take k)).2 ++ (framesOf a).drop k) := by
    rw [← List.append_assoc, ← e, List.take_append_drop]
  exact ⟨_, frames_front ha m h⟩
/-- What is read of a text that opens with frames opens with their records. -/
theorem recs_front {a : List Rc} (ha : ∀ r ∈ a, mayR r = true) (t : List UInt8) : (recs (framesOf a ++ t)).1 = a ++ (recs t).1 := by rw [recs_frames a ha t]
end Go.Proofs.YtodnnhidljfilaaGreatDoor
/-
  The contracts of the document's own sums and frames (package latchkeyref02): what they answer, for every text, and what has not turned. No condition but on sizes.
-/
namespace Go.Proofs.YtodnnhidljfilaaGreatDoor
open Go.RowKit

theorem u32_not {r : Nat} (h : r < 4294967296) : bits .xor .u32 4294967295 (r : Int) = ((4294967295 - r : Nat) : Int) := by
  show IntKind.u32.wrap ((BitVec.ofInt 32 4294967295 ^^^ BitVec.ofInt 32 (r : Int)).toNat : Int) = _
  have e : BitVec.ofInt 32 4294967295 = BitVec.allOnes 32 := by decide
  rw [e, BitVec.allOnes_xor, BitVec.toNat_not, ofInt_u32 r (by omega), IntKind.wrap_u32]
  omega

theorem crc_at (s : ByteArray) (r k c T : Nat) (h : k < s.size) (hc : s[k].toNat = c) (hT : T = crcStep r c) : crcFrom r (s.data.toList.drop k) = crcFrom T (s.data.toList.drop (k + 1)) := by
  rw [drop_at s k h]
  show crcFrom (crcStep r s[k].toNat) _ = _
  rw [hc, hT]

theorem back32 {r : Nat} (h : r < 4294967296) : wrap64 (bits .xor .u32 IntKind.u32.max (r : Int)) = ((4294967295 - r : Nat) : Int) := by
  rw [show IntKind.u32.max = 4294967295 from rfl, u32_not h]
  unfold wrap64
  omega

theorem num4_at (s : ByteArray) (h4 : 4 ≤ s.size) : num4 s.data.toList = s[0].toNat + s[1].toNat * 256 + s[2].toNat * 65536 + s[3].toNat * 16777216 := by
  have hl := Lib.size_eq s
  have e : ∀ j (hj : j < s.size), s.data.toList.getD j 0 = s[j] := fun j hj => by
    rw [List.getD_eq_getElem?_getD, Lib.data_getElem? s j hj]
    rfl
  unfold num4
  rw [e 0 (by omega), e 1 (by omega), e 2 (by omega), e 3 (by omega)]

theorem append_text (xs : List UInt8) (s : ByteArray) : (⟨xs.toArray⟩ : ByteArray) ++ s = ⟨(xs ++ s.data.toList).toArray⟩ := by
  conv => lhs; rw [← Lib.mk_data s]
  rw [append_lists]

/-- Wrap's two answers. -/
def wrapOf (s : ByteArray) : ByteArray × Nat := if 524288 < s.size then (⟨#[]⟩, 1) else (⟨(frameOf s.data.toList).toArray⟩, 0)

end Go.Proofs.YtodnnhidljfilaaGreatDoor
/-
  The contracts of the document's own reader of frames (package latchkeyref02): First, All, Texts, for every text. No condition but on sizes.
-/
namespace Go.Proofs.YtodnnhidljfilaaGreatDoor
open Go.RowKit

/-- First's three answers on a text. -/
def firstT (s : ByteArray) : ByteArray × Nat × Nat := (⟨(firstOf s.data.toList).1.toArray⟩, (firstOf s.data.toList).2.1, (firstOf s.data.toList).2.2)

end Go.Proofs.YtodnnhidljfilaaGreatDoor
/-
  A record's bytes (package latchkeyref11). No condition.
-/
namespace Go.Proofs.YtodnnhidljfilaaGreatDoor
open Go.RowKit

def encRT (r : Rc) : ByteArray × Int := if mayR r = true then (⟨(encR r).toArray⟩, 0) else (⟨#[]⟩, 1)
abbrev rcA (K N A B k S Q n : Int) (T : ByteArray) : Array Value := #[.int .i64 K, .int .i64 N, .int .i64 A, .int .i64 B, .int .i64 k, .int .i64 S, .int .i64 Q, .string T, .int .i64 n]
theorem encRT_no {r : Rc} (h : mayR r = false) : encRT r = (⟨#[]⟩, 1) := by
  unfold encRT
  rw [h]
  rfl
theorem encRT_yes {r : Rc} (h : mayR r = true) : encRT r = (⟨(encR r).toArray⟩, 0) := by
  unfold encRT
  rw [if_pos h]
end Go.Proofs.YtodnnhidljfilaaGreatDoor
/-
  The frames of records (package latchkeyref11). The conditions: the records lie in memory as their reading says, and are not more than 2^40.
-/
namespace Go.Proofs.YtodnnhidljfilaaGreatDoor
open Go.RowKit

/-- A record's cells. -/
def rcC (r : Rc) : List Value := [.int .i64 r.kind, .int .i64 r.n, .int .i64 r.en.slot, .int .i64 r.en.ballot, .int .i64 r.en.cmd.kind, .int .i64 r.en.cmd.session, .int .i64 r.en.cmd.seq, .string r.en.cmd.name, .int .i64 r.en.cmd.n]
theorem rcC_len (r : Rc) : (rcC r).length = 9 := rfl
/-- Frames' two answers. -/
def framesT (l : List Rc) : ByteArray × Int := if l.all mayR = true then (⟨(framesOf l).toArray⟩, 0) else (⟨#[]⟩, 1)
theorem framesOf_few : ∀ (l : List Rc), l.all mayR = true → (framesOf l).length ≤ l.length * 400
  | [], _ => Nat.zero_le _
  | r :: l, h => by
    rw [List.all_cons, Bool.and_eq_true] at h
    have ih := framesOf_few l h.2
    have hr : (encR r).length ≤ 301 := by
      rcases mayR_kind h.1 with ⟨h1, _⟩ | ⟨h1, h2, _⟩
      · unfold encR
        rw [if_pos h1, List.length_cons, eight_len]
        omega
      · unfold encR
        rw [if_neg (by omega), List.length_cons]
        have := encE_few h2
        omega
    show (frameOf (encR r) ++ framesOf l).length ≤ (l.length + 1) * 400
    rw [List.length_append, frameOf_len]
    omega
theorem framesOf_snoc (l : List Rc) (r : Rc) : framesOf (l ++ [r]) = framesOf l ++ frameOf (encR r) := by
  rw [framesOf_append]
  show framesOf l ++ (frameOf (encR r) ++ []) = _
  rw [List.append_nil]
theorem wrapOf_rec {r : Rc} (h : mayR r = true) : wrapOf ⟨(encR r).toArray⟩ = (⟨(frameOf (encR r)).toArray⟩, 0) := by
  unfold wrapOf
  rw [if_neg (by rw [size_list]; have := (encR_len h).2; omega)]
end Go.Proofs.YtodnnhidljfilaaGreatDoor
/-
  Records compared, one by one (package latchkeyref11): the same ones. The conditions: both rows lie in memory as their reading says, and their length is an int.
-/
namespace Go.Proofs.YtodnnhidljfilaaGreatDoor
open Go.RowKit

set_option maxHeartbeats 3200000 in
set_option maxRecDepth 100000 in
theorem rrecs_same (w : World) (va vb : Value) (l : List Rc) (ha : RowAt rcC w va l) (hb : RowAt rcC w vb l) (hl : l.length ≤ 1099511627776) :
    Calls Tryz.prog 13 #[va, vb] w fun e w' => e = .returned (.bool true) ∧ Below w.heap.size w w' := by
  obtain ⟨a1, cap1, rfl⟩ := ha.form
  obtain ⟨a2, cap2, rfl⟩ := hb.form
  go_enter Tryz.func13, Tryz.ntmps13
  go_wp2
  go_loopw [5] (fun i wr => ∃ k : Nat, k ≤ l.length ∧ i = .int .i64 (k : Int) ∧ Below w.heap.size w wr) (fun i _ => l.length - (intOf i).toNat)
  case atStart => exact ⟨0, Nat.zero_le _, rfl, Below.refl _ _⟩
  case round =>
    obtain ⟨k, hk, rfl, hbl⟩ := hrel
    by_cases hkl : k < l.length
    · have hd : decide ((k : Int) < (l.length : Int)) = true := decide_eq_true (by omega)
      obtain ⟨bk, off, cap', hvv, hcap, hbk, hc⟩ := (ha.fresh hbl).cells rcC_len (by omega)
      obtain ⟨bk2, off2, cap2', hvv2, hcap2, hbk2, hc2⟩ := (hb.fresh hbl).cells rcC_len (by omega)
      injection hvv with e1 e2 e3
      injection hvv2 with f1 f2 f3
      subst e1 e3 f1 f3
      obtain ⟨r, hr⟩ : ∃ r, r = l[k] := ⟨_, rfl⟩
      have z0 := hc k hkl 0 (.int .i64 r.kind) (by decide) (by rw [hr]; rfl)
      have z1 := hc k hkl 1 (.int .i64 r.n) (by decide) (by rw [hr]; rfl)
      have z2 := hc k hkl 2 (.int .i64 r.en.slot) (by decide) (by rw [hr]; rfl)
      have z3 := hc k hkl 3 (.int .i64 r.en.ballot) (by decide) (by rw [hr]; rfl)
      have z4 := hc k hkl 4 (.int .i64 r.en.cmd.kind) (by decide) (by rw [hr]; rfl)
      have z5 := hc k hkl 5 (.int .i64 r.en.cmd.session) (by decide) (by rw [hr]; rfl)
      have z6 := hc k hkl 6 (.int .i64 r.en.cmd.seq) (by decide) (by rw [hr]; rfl)
      have z7 := hc k hkl 7 (.string r.en.cmd.name) (by decide) (by rw [hr]; rfl)
      have z8 := hc k hkl 8 (.int .i64 r.en.cmd.n) (by decide) (by rw [hr]; rfl)
      rw [Nat.add_zero] at z0
      have y0 := hc2 k hkl 0 (.int .i64 r.kind) (by decide) (by rw [hr]; rfl)
      have y1 := hc2 k hkl 1 (.int .i64 r.n) (by decide) (by rw [hr]; rfl)
      have y2 := hc2 k hkl 2 (.int .i64 r.en.slot) (by decide) (by rw [hr]; rfl)
      have y3 := hc2 k hkl 3 (.int .i64 r.en.ballot) (by decide) (by rw [hr]; rfl)
      have y4 := hc2 k hkl 4 (.int .i64 r.en.cmd.kind) (by decide) (by rw [hr]; rfl)
      have y5 := hc2 k hkl 5 (.int .i64 r.en.cmd.session) (by decide) (by rw [hr]; rfl)
      have y6 := hc2 k hkl 6 (.int .i64 r.en.cmd.seq) (by decide) (by rw [hr]; rfl)
      have y7 := hc2 k hkl 7 (.string r.en.cmd.name) (by decide) (by rw [hr]; rfl)
      have y8 := hc2 k hkl 8 (.int .i64 r.en.cmd.n) (by decide) (by rw [hr]; rfl)
      rw [Nat.add_zero] at y0
      clear hr hc hc2
      go_wp2
      refine wp_region_held_drew (S := (fun w' : World => w'.cell? ⟨bk, off + k * 9, none⟩ = some (.int .i64 r.kind) ∧ w'.cell? ⟨bk, off + k * 9 + 1, none⟩ = some (.int .i64 r.n) ∧ w'.cell? ⟨bk, off + k * 9 + 2, none⟩ = some (.int .i64 r.en.slot) ∧ w'.cell? ⟨bk, off + k * 9 + 3, none⟩ = some (.int .i64 r.en.ballot) ∧ w'.cell? ⟨bk, off + k * 9 + 4, none⟩ = some (.int .i64 r.en.cmd.kind) ∧ w'.cell? ⟨bk, off + k * 9 + 5, none⟩ = some (.int .i64 r.en.cmd.session) ∧ w'.cell? ⟨bk, off + k * 9 + 6, none⟩ = some (.int .i64 r.en.cmd.seq) ∧ w'.cell? ⟨bk, off + k * 9 + 7, none⟩ = some (.string r.en.cmd.name) ∧ w'.cell? ⟨bk, off + k * 9 + 8, none⟩ = some (.int .i64 r.en.cmd.n) ∧ w'.cell? ⟨bk2, off2 + k * 9, none⟩ = some (.int .i64 r.kind) ∧ w'.cell? ⟨bk2, off2 + k * 9 + 1, none⟩ = some (.int .i64 r.n) ∧ w'.cell? ⟨bk2, off2 + k * 9 + 2, none⟩ = some (.int .i64 r.en.slot) ∧ w'.cell? ⟨bk2, off2 + k * 9 + 3, none⟩ = some (.int .i64 r.en.ballot) ∧ w'.cell? ⟨bk2, off2 + k * 9 + 4, none⟩ = some (.int .i64 r.en.cmd.kind) ∧ w'.cell? ⟨bk2, off2 + k * 9 + 5, none⟩ = some (.int .i64 r.en.cmd.session) ∧ w'.cell? ⟨bk2, off2 + k * 9 + 6, none⟩ = some (.int .i64 r.en.cmd.seq) ∧ w'.cell? ⟨bk2, off2 + k * 9 + 7, none⟩ = some (.string r.en.cmd.name) ∧ w'.cell? ⟨bk2, off2 + k * 9 + 8, none⟩ = some (.int .i64 r.en.cmd.n))) (by kernel_rfl) ?_ (fun hHeld0 => ?_)
      · (try dsimp only)
        go_keep
      refine tk0 (.slice (some ⟨bk, off, none⟩) l.length cap1) (by kernel_rfl) (by kernel_rfl) (by kernel_rfl) (fun _ _ _ h => h) rfl (fun w hSw => by (try dsimp only at hSw); obtain ⟨q0, q1, q2, q3, q4, q5, q6, q7, q8, q9, q10, q11, q12, q13, q14, q15, q16, q17⟩ := hSw; go_simp) (by assumption) ?_
      try simp only [Act.put, List.setIfInBounds_toArray, List.set_cons_zero, List.set_cons_succ]
      refine tk1 (.int .i64 (k : Int)) (by kernel_rfl) (by kernel_rfl) (by kernel_rfl) (fun _ _ _ h => h) rfl (fun w hSw => by (try dsimp only at hSw); obtain ⟨q0, q1, q2, q3, q4, q5, q6, q7, q8, q9, q10, q11, q12, q13, q14, q15, q16, q17⟩ := hSw; go_simp) (by assumption) ?_
      try simp only [Act.put, List.setIfInBounds_toArray, List.set_cons_zero, List.set_cons_succ]
      refine tk2 (.pointer (some ⟨bk, off + k * 9, none⟩)) (by kernel_rfl) (by kernel_rfl) (by kernel_rfl) (fun _ _ _ h => h) rfl (fun w hSw => by (try dsimp only at hSw); obtain ⟨q0, q1, q2, q3, q4, q5, q6, q7, q8, q9, q10, q11, q12, q13, q14, q15, q16, q17⟩ := hSw; go_simp) (by assumption) ?_
      try simp only [Act.put, List.setIfInBounds_toArray, List.set_cons_zero, List.set_cons_succ]
      refine tk3 (.agg #[.int .i64 r.kind, .int .i64 r.n, .int .i64 r.en.slot, .int .i64 r.en.ballot, .int .i64 r.en.cmd.kind, .int .i64 r.en.cmd.session, .int .i64 r.en.cmd.seq, .string r.en.cmd.name, .int .i64 r.en.cmd.n]) (by kernel_rfl) (by kernel_rfl) (by kernel_rfl) (fun _ _ _ h => h) rfl (fun w hSw => by (try dsimp only at hSw); obtain ⟨q0, q1, q2, q3, q4, q5, q6, q7, q8, q9, q10, q11, q12, q13, q14, q15, q16, q17⟩ := hSw; go_simp) (by assumption) ?_
      try simp only [Act.put, List.setIfInBounds_toArray, List.set_cons_zero, List.set_cons_succ]
      refine tk4 (.slice (some ⟨bk2, off2, none⟩) l.length cap2) (by kernel_rfl) (by kernel_rfl) (by kernel_rfl) (fun _ _ _ h => h) rfl (fun w hSw => by (try dsimp only at hSw); obtain ⟨q0, q1, q2, q3, q4, q5, q6, q7, q8, q9, q10, q11, q12, q13, q14, q15, q16, q17⟩ := hSw; go_simp) (by assumption) ?_
      try simp only [Act.put, List.setIfInBounds_toArray, List.set_cons_zero, List.set_cons_succ]
      refine tk5 (.int .i64 (k : Int)) (by kernel_rfl) (by kernel_rfl) (by kernel_rfl) (fun _ _ _ h => h) rfl (fun w hSw => by (try dsimp only at hSw); obtain ⟨q0, q1, q2, q3, q4, q5, q6, q7, q8, q9, q10, q11, q12, q13, q14, q15, q16, q17⟩ := hSw; go_simp) (by assumption) ?_
      try simp only [Act.put, List.setIfInBounds_toArray, List.set_cons_zero, List.set_cons_succ]
      refine tk6 (.pointer (some ⟨bk2, off2 + k * 9, none⟩)) (by kernel_rfl) (by kernel_rfl) (by kernel_rfl) (fun _ _ _ h => h) rfl (fun w hSw => by (try dsimp only at hSw); obtain ⟨q0, q1, q2, q3, q4, q5, q6, q7, q8, q9, q10, q11, q12, q13, q14, q15, q16, q17⟩ := hSw; go_simp) (by assumption) ?_
      try simp only [Act.put, List.setIfInBounds_toArray, List.set_cons_zero, List.set_cons_succ]
      refine tk7 (.agg #[.int .i64 r.kind, .int .i64 r.n, .int .i64 r.en.slot, .int .i64 r.en.ballot, .int .i64 r.en.cmd.kind, .int .i64 r.en.cmd.session, .int .i64 r.en.cmd.seq, .string r.en.cmd.name, .int .i64 r.en.cmd.n]) (by kernel_rfl) (by kernel_rfl) (by kernel_rfl) (fun _ _ _ h => h) rfl (fun w hSw => by (try dsimp only at hSw); obtain ⟨q0, q1, q2, q3, q4, q5, q6, q7, q8, q9, q10, q11, q12, q13, q14, q15, q16, q17⟩ := hSw; go_simp) (by assumption) ?_
      try simp only [Act.put, List.setIfInBounds_toArray, List.set_cons_zero, List.set_cons_succ]
      refine tk8 (.bool false) (by kernel_rfl) (by kernel_rfl) (by kernel_rfl) (fun _ _ _ h => h) rfl (fun w hSw => by (try dsimp only at hSw); obtain ⟨q0, q1, q2, q3, q4, q5, q6, q7, q8, q9, q10, q11, q12, q13, q14, q15, q16, q17⟩ := hSw; go_simp) (by assumption) ?_
      try simp only [Act.put, List.setIfInBounds_toArray, List.set_cons_zero, List.set_cons_succ]
      refine wpAnyH_done (by kernel_rfl) ?_ _
      go_wp2
      go_roundw
      case rel => exact ⟨k + 1, hkl, by go_num, ⟨hbl.os, hbl.tape, hbl.output, hbl.size, hbl.block⟩⟩
      case measure => simp [intOf]; omega
    · have hd : decide ((k : Int) < (l.length : Int)) = false := decide_eq_false (by omega)
      go_wp2
      go_ret
      exact ⟨rfl, hbl⟩
end Go.Proofs.YtodnnhidljfilaaGreatDoor
