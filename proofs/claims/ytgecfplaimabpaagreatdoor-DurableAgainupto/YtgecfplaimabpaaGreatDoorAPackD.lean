/-
  Parts of the proof, laid together: FPlain, WlPlain, FRef, FRead, WlFour, WlEnc, WlFrames, WlRecs. The conditions stand at each part.
-/
import Derived.Lib.UnsafeStr
import Derived.Lib.Strings
import Derived.WalkKit
import Derived.WalkSpells
import Derived.Lib.BufferRead
import Derived.Lib.IndexBytes
import Derived.Lib.AppendStr
import Derived.Deep.AppendLies
import Derived.Deep.QuietTactic
import Derived.BigQuiet
import Derived.WalkSmall
import Derived.Handy
import Derived.Deep.RegionHeld3
import Derived.Test.YtgecfplaimabpaaGreatDoorProg
import Derived.Test.YtgecfplaimabpaaGreatDoorAPackA
import Derived.Test.YtgecfplaimabpaaGreatDoorAPackC
import Derived.Test.YtgecfplaimabpaaGreatDoorAPack5
/-
  The sum of a text (CRC-32, bit by bit) and frames, as plain functions on lists of bytes, and the facts on them that the walks and the laws need: a sum tells two texts apart that part at one byte; a table of 256 sums serves as well. No condition.
-/
namespace Go.Proofs.YtgecfplaimabpaaGreatDoor

/-- One bit. -/
def bitStep (r : Nat) : Nat := if r % 2 = 1 then (r / 2) ^^^ 3988292384 else r / 2
/-- n bits. -/
def bitSteps : Nat → Nat → Nat
  | 0, r => r
  | n + 1, r => bitSteps n (bitStep r)
/-- One byte. -/
def crcStep (r b : Nat) : Nat := bitSteps 8 (r ^^^ b)
/-- The bytes of a text, from r on. -/
def crcFrom : Nat → List UInt8 → Nat
  | r, [] => r
  | r, b :: l => crcFrom (crcStep r b.toNat) l
/-- The sum of a text. -/
def crc (l : List UInt8) : Nat := 4294967295 - crcFrom 4294967295 l

theorem bitStep_lt {r : Nat} (h : r < 4294967296) : bitStep r < 4294967296 := by
  unfold bitStep
  split
  · exact Nat.xor_lt_two_pow (n := 32) (by omega) (by decide)
  · omega
theorem bitSteps_lt : ∀ (n : Nat) {r : Nat}, r < 4294967296 → bitSteps n r < 4294967296
  | 0, _, h => h
  | n + 1, _, h => bitSteps_lt n (bitStep_lt h)
theorem byte_lt (b : UInt8) : b.toNat < 256 := UInt8.toNat_lt b
theorem crcStep_lt {r b : Nat} (h : r < 4294967296) (hb : b < 256) : crcStep r b < 4294967296 := bitSteps_lt 8 (Nat.xor_lt_two_pow (n := 32) h (by omega))
theorem crcFrom_lt : ∀ (l : List UInt8) {r : Nat}, r < 4294967296 → crcFrom r l < 4294967296
  | [], _, h => h
  | b :: l, _, h => crcFrom_lt l (crcStep_lt h (byte_lt b))
theorem crc_lt (l : List UInt8) : crc l < 4294967296 := by unfold crc; omega

theorem crcFrom_append : ∀ (l m : List UInt8) (r : Nat), crcFrom r (l ++ m) = crcFrom (crcFrom r l) m
  | [], _, _ => rfl
  | _ :: l, m, _ => crcFrom_append l m _

/-! ### A table serves as well -/
theorem xor_mod2 (a b : Nat) : (a ^^^ b) % 2 = (a + b) % 2 := by
  have h := Nat.xor_mod_two_pow (a := a) (b := b) (n := 1)
  rw [Nat.pow_one] at h
  rcases (show a % 2 = 0 ∨ a % 2 = 1 by omega) with ha | ha
  · rcases (show b % 2 = 0 ∨ b % 2 = 1 by omega) with hb | hb
    · rw [ha, hb] at h
      exact h.trans (show 0 = _ by omega)
    · rw [ha, hb] at h
      exact h.trans (show 1 = _ by omega)
  · rcases (show b % 2 = 0 ∨ b % 2 = 1 by omega) with hb | hb
    · rw [ha, hb] at h
      exact h.trans (show 1 = _ by omega)
    · rw [ha, hb] at h
      exact h.trans (show 0 = _ by omega)
theorem bitStep_xor (a b : Nat) : bitStep (a ^^^ b) = bitStep a ^^^ bitStep b := by
  have hm : (a ^^^ b) % 2 = (a + b) % 2 := xor_mod2 a b
  have hd : (a ^^^ b) / 2 = a / 2 ^^^ b / 2 := Nat.xor_div_two
  unfold bitStep
  rw [hd]
  by_cases ha : a % 2 = 1
  · by_cases hb : b % 2 = 1
    · rw [if_neg (by omega), if_pos ha, if_pos hb]
      rw [Nat.xor_assoc, ← Nat.xor_assoc 3988292384, Nat.xor_comm 3988292384 (b / 2), Nat.xor_assoc (b / 2), Nat.xor_self, Nat.xor_zero]
    · rw [if_pos (by omega), if_pos ha, if_neg hb]
      rw [Nat.xor_assoc, Nat.xor_assoc, Nat.xor_comm (b / 2)]
  · by_cases hb : b % 2 = 1
    · rw [if_pos (by omega), if_neg ha, if_pos hb, Nat.xor_assoc]
    · rw [if_neg (by omega), if_neg ha, if_neg hb]
theorem bitSteps_xor : ∀ (n a b : Nat), bitSteps n (a ^^^ b) = bitSteps n a ^^^ bitSteps n b
  | 0, _, _ => rfl
  | n + 1, a, b => by rw [bitSteps, bitStep_xor, bitSteps_xor n]; rfl
theorem bitSteps_even : ∀ (n h : Nat), bitSteps n (h * 2 ^ n) = h
  | 0, h => by simp [bitSteps]
  | n + 1, h => by
    have e : bitStep (h * 2 ^ (n + 1)) = h * 2 ^ n := by
      unfold bitStep
      rw [Nat.pow_succ, ← Nat.mul_assoc, if_neg (by omega)]
      omega
    rw [bitSteps, e, bitSteps_even n h]
/-! ### Four bytes, frames -/
/-- A number in four bytes. -/
def four (n : Nat) : List UInt8 := [UInt8.ofNat (n % 256), UInt8.ofNat (n / 256 % 256), UInt8.ofNat (n / 65536 % 256), UInt8.ofNat (n / 16777216 % 256)]
/-- The number of the four bytes at the front. -/
def num4 (l : List UInt8) : Nat := (l.getD 0 0).toNat + (l.getD 1 0).toNat * 256 + (l.getD 2 0).toNat * 65536 + (l.getD 3 0).toNat * 16777216
theorem four_len (n : Nat) : (four n).length = 4 := rfl
theorem ofNat_toNat {n : Nat} (h : n < 256) : (UInt8.ofNat n).toNat = n := by rw [UInt8.toNat_ofNat']; omega
theorem num4_four {n : Nat} (h : n < 4294967296) (l : List UInt8) : num4 (four n ++ l) = n := by
  unfold num4 four
  simp only [List.cons_append, List.nil_append, List.getD_cons_zero, List.getD_cons_succ]
  rw [ofNat_toNat (by omega), ofNat_toNat (by omega), ofNat_toNat (by omega), ofNat_toNat (by omega)]
  omega
theorem num4_lt (l : List UInt8) : num4 l < 4294967296 := by
  unfold num4
  have h0 := byte_lt (l.getD 0 0)
  have h1 := byte_lt (l.getD 1 0)
  have h2 := byte_lt (l.getD 2 0)
  have h3 := byte_lt (l.getD 3 0)
  omega

/-- A text's frame. -/
def frameOf (l : List UInt8) : List UInt8 := four l.length ++ (four (crc (four l.length ++ l)) ++ l)
theorem frameOf_len (l : List UInt8) : (frameOf l).length = l.length + 8 := by
  unfold frameOf
  simp only [List.length_append, four_len]
  omega

/-- The frame at the front: its text, its bytes, the error. -/
def firstOf (l : List UInt8) : List UInt8 × Nat × Nat :=
  if l.length < 8 then ([], 0, 4) else if 524288 < num4 l then ([], 0, 2) else if l.length - 8 < num4 l then ([], 0, 4)
  else if crc (l.take 4 ++ (l.drop 8).take (num4 l)) ≠ num4 (l.drop 4) then ([], 0, 3) else ((l.drop 8).take (num4 l), 8 + num4 l, 0)

theorem firstOf_frame (t rest : List UInt8) (h : t.length ≤ 524288) : firstOf (frameOf t ++ rest) = (t, t.length + 8, 0) := by
  have hl : (frameOf t ++ rest).length = t.length + 8 + rest.length := by rw [List.length_append, frameOf_len]
  have hn : num4 (frameOf t ++ rest) = t.length := by
    unfold frameOf
    rw [List.append_assoc]
    exact num4_four (by omega) _
  have h8 : (frameOf t ++ rest).drop 8 = t ++ rest := by
    unfold frameOf four
    simp
  have h4 : (frameOf t ++ rest).drop 4 = four (crc (four t.length ++ t)) ++ (t ++ rest) := by
    unfold frameOf
    rw [List.append_assoc, List.append_assoc, List.drop_left' (four_len _)]
  have ht4 : (frameOf t ++ rest).take 4 = four t.length := by
    unfold frameOf
    rw [List.append_assoc, List.take_left' (four_len _)]
  unfold firstOf
  rw [hl, hn, h8, h4, ht4, List.take_left' rfl, num4_four (crc_lt _), if_neg (by omega), if_neg (by omega), if_neg (by omega), if_neg (by simp)]
  congr 2
  omega

theorem firstOf_ok {l : List UInt8} (h : (firstOf l).2.2 = 0) : 8 ≤ (firstOf l).2.1 ∧ (firstOf l).2.1 ≤ l.length ∧ (firstOf l).1.length + 8 = (firstOf l).2.1 := by
  unfold firstOf at h ⊢
  split
  · simp_all
  · split
    · simp_all
    · split
      · simp_all
      · split
        · simp_all
        · refine ⟨(show 8 ≤ 8 + num4 l by omega), ?_, ?_⟩
          · show 8 + num4 l ≤ l.length
            omega
          · show ((l.drop 8).take (num4 l)).length + 8 = 8 + num4 l
            rw [List.length_take, List.length_drop]
            omega

end Go.Proofs.YtgecfplaimabpaaGreatDoor
/-
  Records of a log as plain data: which may be, their bytes, bytes as a record; frames of records, the records of a text from its front on; the names of segments. No condition.
-/
namespace Go.Proofs.YtgecfplaimabpaaGreatDoor

/-- A record. -/
structure Rc where
  kind : Int
  n : Int
  en : En
def Rc.zero : Rc := ⟨0, 0, En.zero⟩

/-- The entry all of whose fields are 0 and "". -/
def noE (e : En) : Bool := decide (e.slot = 0) && (decide (e.ballot = 0) && (decide (e.cmd.kind = 0) && (decide (e.cmd.session = 0) && (decide (e.cmd.seq = 0) && (decide (e.cmd.name.size = 0) && decide (e.cmd.n = 0))))))
theorem empty_of_size {s : ByteArray} (h : s.size = 0) : s = ⟨#[]⟩ := by
  cases s with
  | mk a =>
    have : a.size = 0 := h
    rw [Array.size_eq_zero_iff.mp this]
theorem noE_iff {e : En} : noE e = true ↔ e = En.zero := by
  constructor
  · intro h
    unfold noE at h
    simp only [Bool.and_eq_true, decide_eq_true_eq] at h
    obtain ⟨h1, h2, h3, h4, h5, h6, h7⟩ := h
    cases e with
    | mk a b c =>
      cases c with
      | mk k s q t n =>
        simp only at h1 h2 h3 h4 h5 h6 h7
        subst h1 h2 h3 h4 h5 h7
        rw [empty_of_size h6]
        rfl
  · intro h
    subst h
    rfl

/-- Which records may be. -/
def mayR (r : Rc) : Bool :=
  if r.kind = 1 then decide (1 ≤ r.n) && (decide (r.n ≤ 1099511627776) && noE r.en)
  else if r.kind = 2 then mayE r.en && (decide (r.n = 0) && decide (1 ≤ r.en.ballot))
  else false
/-- Eight bytes of a number. -/
def eight (n : Nat) : List UInt8 := four n ++ four (n / 4294967296)
/-- A record's bytes. -/
def encR (r : Rc) : List UInt8 := if r.kind = 1 then 1 :: eight r.n.toNat else 2 :: encE r.en
theorem mayR_kind {r : Rc} (h : mayR r = true) : (r.kind = 1 ∧ 1 ≤ r.n ∧ r.n ≤ 1099511627776 ∧ r.en = En.zero) ∨ (r.kind = 2 ∧ mayE r.en = true ∧ r.n = 0 ∧ 1 ≤ r.en.ballot) := by
  unfold mayR at h
  split at h
  · rename_i hk
    simp only [Bool.and_eq_true, decide_eq_true_eq] at h
    exact .inl ⟨hk, h.1, h.2.1, noE_iff.mp h.2.2⟩
  · split at h
    · rename_i hk
      simp only [Bool.and_eq_true, decide_eq_true_eq] at h
      exact .inr ⟨hk, h.1, h.2.1, h.2.2⟩
    · simp at h
theorem mayR_one {n : Int} (h1 : 1 ≤ n) (h2 : n ≤ 1099511627776) : mayR ⟨1, n, En.zero⟩ = true := by
  unfold mayR
  simp only [if_pos]
  simp only [Bool.and_eq_true, decide_eq_true_eq]
  exact ⟨h1, h2, rfl⟩

/-- The number of eight bytes, the last two left out (they are 0). -/
def num8 (l : List UInt8) : Nat := num4 l + num4 (l.drop 4) * 4294967296
theorem num8_eight {n : Nat} (h : n < 18446744073709551616) (l : List UInt8) : num8 (eight n ++ l) = n := by
  have a : num4 (eight n ++ l) = n % 4294967296 := by
    have e : four n = four (n % 4294967296) := by
      unfold four
      have h1 : n % 4294967296 % 256 = n % 256 := by omega
      have h2 : n % 4294967296 / 256 % 256 = n / 256 % 256 := by omega
      have h3 : n % 4294967296 / 65536 % 256 = n / 65536 % 256 := by omega
      have h4 : n % 4294967296 / 16777216 % 256 = n / 16777216 % 256 := by omega
      rw [h1, h2, h3, h4]
    unfold eight
    rw [List.append_assoc, e]
    exact num4_four (Nat.mod_lt _ (by decide)) _
  have b : num4 ((eight n ++ l).drop 4) = n / 4294967296 := by
    unfold eight
    rw [List.append_assoc, List.drop_left' (four_len _)]
    exact num4_four (by omega) _
  unfold num8
  rw [a, b]
  omega
theorem eight_len (n : Nat) : (eight n).length = 8 := rfl
theorem eight_6 {n : Nat} (h : n < 281474976710656) : (eight n)[6]? = some 0 := by
  show some (UInt8.ofNat (n / 4294967296 / 65536 % 256)) = some 0
  rw [show n / 4294967296 / 65536 % 256 = 0 by omega]
  rfl
theorem eight_7 {n : Nat} (h : n < 281474976710656) : (eight n)[7]? = some 0 := by
  show some (UInt8.ofNat (n / 4294967296 / 16777216 % 256)) = some 0
  rw [show n / 4294967296 / 16777216 % 256 = 0 by omega]
  rfl

/-- What bytes would say as a record. -/
def candR (l : List UInt8) : Rc :=
  if l.length = 9 ∧ l[0]? = some 1 ∧ l[8]? = some 0 ∧ l[7]? = some 0 then ⟨1, (num8 (l.drop 1) : Int), En.zero⟩
  else if l[0]? = some 2 then ⟨2, 0, (decET ⟨(l.drop 1).toArray⟩).1⟩ else Rc.zero
/-- Bytes as a record. -/
def decR (l : List UInt8) : Option Rc := if mayR (candR l) = true ∧ encR (candR l) = l then some (candR l) else none
theorem decR_only {l : List UInt8} {r : Rc} (h : decR l = some r) : mayR r = true ∧ encR r = l := by
  unfold decR at h
  split at h
  · rename_i hh
    cases h
    exact hh
  · simp at h
theorem decET_enc {e : En} (h : mayE e = true) : decET ⟨(encE e).toArray⟩ = (e, 0) := by
  unfold decET
  rw [decE_enc h]
theorem candR_enc {r : Rc} (h : mayR r = true) : candR (encR r) = r := by
  cases r with
  | mk k n e =>
    rcases mayR_kind h with ⟨h1, h2, h3, h4⟩ | ⟨h1, h2, h3, h4⟩
    · simp only at h1 h2 h3 h4
      subst h1 h4
      have hn : n.toNat < 281474976710656 := by omega
      have e1 : encR ⟨1, n, En.zero⟩ = 1 :: eight n.toNat := rfl
      rw [e1]
      unfold candR
      rw [if_pos ⟨rfl, rfl, eight_7 hn, eight_6 hn⟩]
      have := num8_eight (n := n.toNat) (by omega) []
      rw [List.append_nil] at this
      rw [List.drop_succ_cons, List.drop_zero, this, Int.toNat_of_nonneg (by omega)]
    · simp only at h1 h2 h3 h4
      subst h1 h3
      have e1 : encR ⟨2, 0, e⟩ = 2 :: encE e := rfl
      rw [e1]
      unfold candR
      rw [if_neg (by simp), if_pos (show (2 :: encE e)[0]? = some 2 from rfl), List.drop_succ_cons, List.drop_zero, decET_enc h2]
theorem decR_enc {r : Rc} (h : mayR r = true) : decR (encR r) = some r := by
  unfold decR
  rw [candR_enc h, if_pos ⟨h, rfl⟩]
/-! ### Frames of records, and the records of a text -/
/-- The frames of records. -/
def framesOf : List Rc → List UInt8
  | [] => []
  | r :: l => frameOf (encR r) ++ framesOf l
theorem framesOf_append : ∀ (a b : List Rc), framesOf (a ++ b) = framesOf a ++ framesOf b
  | [], b => rfl
  | r :: a, b => by
    show frameOf (encR r) ++ framesOf (a ++ b) = (frameOf (encR r) ++ framesOf a) ++ framesOf b
    rw [framesOf_append a b, List.append_assoc]
/-- The records of a text, and how many bytes they have (f: how many there may be at the most). -/
def recsOf : Nat → List UInt8 → List Rc × Nat
  | 0, _ => ([], 0)
  | f + 1, l =>
    if (firstOf l).2.2 ≠ 0 then ([], 0) else
    match decR (firstOf l).1 with
    | none => ([], 0)
    | some r => (r :: (recsOf f (l.drop (firstOf l).2.1)).1, (firstOf l).2.1 + (recsOf f (l.drop (firstOf l).2.1)).2)
theorem recsOf_no {f : Nat} {l : List UInt8} (h : (firstOf l).2.2 ≠ 0) : recsOf (f + 1) l = ([], 0) := by
  rw [recsOf]
  rw [if_pos h]
theorem recsOf_none {f : Nat} {l : List UInt8} (h : decR (firstOf l).1 = none) : recsOf (f + 1) l = ([], 0) := by
  rw [recsOf, h]
  split <;> rfl
theorem recsOf_more {f : Nat} {l : List UInt8} {r : Rc} (h0 : (firstOf l).2.2 = 0) (h : decR (firstOf l).1 = some r) : recsOf (f + 1) l = (r :: (recsOf f (l.drop (firstOf l).2.1)).1, (firstOf l).2.1 + (recsOf f (l.drop (firstOf l).2.1)).2) := by
  rw [recsOf, h, if_neg (by simp [h0])]
/-- More rounds than bytes say no more. -/
theorem recsOf_enough : ∀ (f g : Nat) (l : List UInt8), l.length < f → l.length < g → recsOf f l = recsOf g l
  | 0, _, _, h, _ => absurd h (Nat.not_lt_zero _)
  | _, 0, _, _, h => absurd h (Nat.not_lt_zero _)
  | f + 1, g + 1, l, hf, hg => by
    by_cases h0 : (firstOf l).2.2 = 0
    · cases hd : decR (firstOf l).1 with
      | none => rw [recsOf_none hd, recsOf_none hd]
      | some r =>
        have hk := firstOf_ok h0
        have hl : (l.drop (firstOf l).2.1).length = l.length - (firstOf l).2.1 := List.length_drop
        rw [recsOf_more h0 hd, recsOf_more h0 hd, recsOf_enough f g _ (by omega) (by omega)]
    · rw [recsOf_no h0, recsOf_no h0]
/-- All records of a text. -/
def recs (l : List UInt8) : List Rc × Nat := recsOf (l.length + 1) l
theorem recs_no {l : List UInt8} (h : (firstOf l).2.2 ≠ 0) : recs l = ([], 0) := recsOf_no h
theorem recs_none {l : List UInt8} (h : decR (firstOf l).1 = none) : recs l = ([], 0) := recsOf_none h
theorem recs_more {l : List UInt8} {r : Rc} (h0 : (firstOf l).2.2 = 0) (h : decR (firstOf l).1 = some r) : recs l = (r :: (recs (l.drop (firstOf l).2.1)).1, (firstOf l).2.1 + (recs (l.drop (firstOf l).2.1)).2) := by
  have hk := firstOf_ok h0
  have hl : (l.drop (firstOf l).2.1).length = l.length - (firstOf l).2.1 := List.length_drop
  unfold recs
  rw [recsOf_more h0 h, recsOf_enough l.length ((l.drop (firstOf l).2.1).length + 1) _ (by omega) (by omega)]
theorem encE_few {e : En} (h : mayE e = true) : (encE e).length ≤ 300 := by
  obtain ⟨h1, h2, h3⟩ := mayE_small h
  have l0 := encC_len h3
  have l1 := enc_len_ten (zig_bound (n := e.slot) (by omega) (by omega))
  have l2 := enc_len_ten (zig_bound (n := e.ballot) (by omega) (by omega))
  have l3 := enc_len_ten (n := (encC e.cmd).length) (by omega)
  unfold encE lenText
  simp only [List.length_append, size_list]
  omega
theorem encR_len {r : Rc} (h : mayR r = true) : 1 ≤ (encR r).length ∧ (encR r).length ≤ 524288 := by
  rcases mayR_kind h with ⟨h1, _⟩ | ⟨h1, h2, _⟩
  · unfold encR
    rw [if_pos h1, List.length_cons, eight_len]
    omega
  · unfold encR
    rw [if_neg (by omega), List.length_cons]
    have := encE_few h2
    omega
theorem recs_frame {r : Rc} (h : mayR r = true) (l : List UInt8) : recs (frameOf (encR r) ++ l) = (r :: (recs l).1, (frameOf (encR r)).length + (recs l).2) := by
  have hf := firstOf_frame (encR r) l (encR_len h).2
  have hd : (frameOf (encR r) ++ l).drop ((encR r).length + 8) = l := List.drop_left' (frameOf_len _)
  have e0 : (firstOf (frameOf (encR r) ++ l)).2.2 = 0 := by rw [hf]
  have e1 : decR (firstOf (frameOf (encR r) ++ l)).1 = some r := by rw [hf]; exact decR_enc h
  have e2 : (firstOf (frameOf (encR r) ++ l)).2.1 = (encR r).length + 8 := by rw [hf]
  rw [recs_more e0 e1, e2, hd, frameOf_len]
theorem recs_frames : ∀ (a : List Rc) (_ : ∀ r ∈ a, mayR r = true) (l : List UInt8), recs (framesOf a ++ l) = (a ++ (recs l).1, (framesOf a).length + (recs l).2)
  | [], _, l => by
    show recs l = ([] ++ (recs l).1, 0 + (recs l).2)
    rw [List.nil_append, Nat.zero_add]
  | r :: a, h, l => by
    show recs ((frameOf (encR r) ++ framesOf a) ++ l) = _
    rw [List.append_assoc, recs_frame (h r (List.mem_cons_self ..)), recs_frames a (fun q hq => h q (List.mem_cons_of_mem _ hq)) l]
    show (_, _) = ((r :: a) ++ (recs l).1, (frameOf (encR r) ++ framesOf a).length + (recs l).2)
    rw [List.length_append, Nat.add_assoc]
    rfl
theorem recs_nil : recs [] = ([], 0) := by
  apply recs_no
  decide
theorem recs_back (a : List Rc) (h : ∀ r ∈ a, mayR r = true) : recs (framesOf a) = (a, (framesOf a).length) := by
  have := recs_frames a h []
  rw [recs_nil, List.append_nil, List.append_nil, Nat.add_zero] at this
  exact this
/-! ### A text's beginning is what was read of it -/
theorem four_num4 {l : List UInt8} (h : 4 ≤ l.length) : four (num4 l) = l.take 4 := by
  match l, h with
  | a :: b :: c :: d :: t, _ =>
    have ha := byte_lt a; have hb := byte_lt b; have hc := byte_lt c; have hd := byte_lt d
    have e : num4 (a :: b :: c :: d :: t) = a.toNat + b.toNat * 256 + c.toNat * 65536 + d.toNat * 16777216 := rfl
    unfold four
    rw [e, show (a.toNat + b.toNat * 256 + c.toNat * 65536 + d.toNat * 16777216) % 256 = a.toNat by omega,
      show (a.toNat + b.toNat * 256 + c.toNat * 65536 + d.toNat * 16777216) / 256 % 256 = b.toNat by omega,
      show (a.toNat + b.toNat * 256 + c.toNat * 65536 + d.toNat * 16777216) / 65536 % 256 = c.toNat by omega,
      show (a.toNat + b.toNat * 256 + c.toNat * 65536 + d.toNat * 16777216) / 16777216 % 256 = d.toNat by omega]
    simp
theorem firstOf_only {l : List UInt8} (h : (firstOf l).2.2 = 0) : l = frameOf (firstOf l).1 ++ l.drop (firstOf l).2.1 ∧ (firstOf l).1.length ≤ 524288 := by
  unfold firstOf at h ⊢
  by_cases h1 : l.length < 8
  · rw [if_pos h1] at h; simp at h
  rw [if_neg h1] at h ⊢
  by_cases h2 : 524288 < num4 l
  · rw [if_pos h2] at h; simp at h
  rw [if_neg h2] at h ⊢
  by_cases h3 : l.length - 8 < num4 l
  · rw [if_pos h3] at h; simp at h
  rw [if_neg h3] at h ⊢
  by_cases h4 : crc (l.take 4 ++ (l.drop 8).take (num4 l)) ≠ num4 (l.drop 4)
  · rw [if_pos h4] at h; simp at h
  rw [if_neg h4] at h ⊢
  have h5 : crc (l.take 4 ++ (l.drop 8).take (num4 l)) = num4 (l.drop 4) := Classical.not_not.mp h4
  have hl : ((l.drop 8).take (num4 l)).length = num4 l := by
    rw [List.length_take, List.length_drop]
    omega
  constructor
  · show l = frameOf ((l.drop 8).take (num4 l)) ++ l.drop (8 + num4 l)
    unfold frameOf
    rw [hl, four_num4 (by omega), h5, four_num4 (by rw [List.length_drop]; omega), List.append_assoc, List.append_assoc]
    have e1 : l.drop (8 + num4 l) = (l.drop 8).drop (num4 l) := by rw [List.drop_drop]
    have e2 : l.drop 8 = (l.drop 4).drop 4 := by rw [List.drop_drop]
    rw [e1, List.take_append_drop, e2, List.take_append_drop, List.take_append_drop]
  · show ((l.drop 8).take (num4 l)).length ≤ 524288
    omega
/-- What was read may be, and the text opens with its frames. -/
theorem recsOf_only : ∀ (f : Nat) (l : List UInt8), (∀ r ∈ (recsOf f l).1, mayR r = true) ∧ l = framesOf (recsOf f l).1 ++ l.drop (recsOf f l).2 ∧ (recsOf f l).2 = (framesOf (recsOf f l).1).length
  | 0, l => ⟨(by intro r hr; cases hr), rfl, rfl⟩
  | f + 1, l => by
    by_cases h0 : (firstOf l).2.2 = 0
    · cases hd : decR (firstOf l).1 with
      | none =>
        rw [recsOf_none hd]
        exact ⟨(by intro r hr; cases hr), rfl, rfl⟩
      | some r =>
        obtain ⟨i1, i2, i3⟩ := recsOf_only f (l.drop (firstOf l).2.1)
        obtain ⟨m, en⟩ := decR_only hd
        obtain ⟨q, _⟩ := firstOf_only h0
        have hk := firstOf_ok h0
        rw [recsOf_more h0 hd]
        refine ⟨?_, ?_, ?_⟩
        · intro x hx
          rcases List.mem_cons.mp hx with e | e
          · rw [e]; exact m
          · exact i1 x e
        · show l = (frameOf (encR r) ++ framesOf _) ++ l.drop (_ + _)
          rw [en, ← List.drop_drop, List.append_assoc, ← i2]
          exact q
        · show _ + _ = (frameOf (encR r) ++ framesOf _).length
          rw [List.length_append, ← i3, frameOf_len, en, hk.2.2]
    · rw [recsOf_no h0]
      exact ⟨(by intro r hr; cases hr), rfl, rfl⟩
theorem recs_only (l : List UInt8) : (∀ r ∈ (recs l).1, mayR r = true) ∧ l = framesOf (recs l).1 ++ l.drop (recs l).2 ∧ (recs l).2 = (framesOf (recs l).1).length := recsOf_only _ l
/-- What is read of a text that opens with frames opens with their records. -/
theorem recs_front {a : List Rc} (ha : ∀ r ∈ a, mayR r = true) (t : List UInt8) : (recs (framesOf a ++ t)).1 = a ++ (recs t).1 := by rw [recs_frames a ha t]
end Go.Proofs.YtgecfplaimabpaaGreatDoor
/-
  The contracts of the document's own sums and frames (package latchkeyref02): what they answer, for every text, and what has not turned. No condition but on sizes.
-/
namespace Go.Proofs.YtgecfplaimabpaaGreatDoor
open Go.RowKit

theorem u32_low {r : Nat} (h : r < 4294967296) : bits .and .u32 (r : Int) 1 = (r : Int) % 2 := by
  have := u32_and_nat r 1 h (by decide)
  rw [show (1 : Nat) = 2 ^ 1 - 1 from rfl, Nat.and_two_pow_sub_one_eq_mod] at this
  simpa using this
theorem u32_not {r : Nat} (h : r < 4294967296) : bits .xor .u32 4294967295 (r : Int) = ((4294967295 - r : Nat) : Int) := by
  show IntKind.u32.wrap ((BitVec.ofInt 32 4294967295 ^^^ BitVec.ofInt 32 (r : Int)).toNat : Int) = _
  have e : BitVec.ofInt 32 4294967295 = BitVec.allOnes 32 := by decide
  rw [e, BitVec.allOnes_xor, BitVec.toNat_not, ofInt_u32 r (by omega), IntKind.wrap_u32]
  omega

theorem crc_at (s : ByteArray) (r k c T : Nat) (h : k < s.size) (hc : s[k].toNat = c) (hT : T = crcStep r c) : crcFrom r (s.data.toList.drop k) = crcFrom T (s.data.toList.drop (k + 1)) := by
  rw [drop_at s k h]
  show crcFrom (crcStep r s[k].toNat) _ = _
  rw [hc, hT]

theorem back32 {r : Nat} (h : r < 4294967296) : wrap64 (bits .xor .u32 IntKind.u32.max (r : Int)) = ((4294967295 - r : Nat) : Int) := by
  rw [show IntKind.u32.max = 4294967295 from rfl, u32_not h]
  unfold wrap64
  omega

set_option maxHeartbeats 800000 in
set_option maxRecDepth 100000 in
theorem rsum_any (s : ByteArray) (hs : s.size ≤ 9223372036854775807) (w : World) :
    Calls Tryz.prog 110 #[.string s] w fun e w' => e = .returned (.int .i64 (crc s.data.toList)) ∧ w = w' := by
  go_enter Tryz.func110, Tryz.ntmps110
  go_wp2
  go_loop [3, 4, 5, 6] (fun x i _ _ => ∃ (k r : Nat), k ≤ s.size ∧ i = .int .i64 k ∧ x = .int .u32 r ∧ r < 4294967296 ∧ crcFrom 4294967295 s.data.toList = crcFrom r (s.data.toList.drop k)) (fun _ i _ _ => s.size - (intOf i).toNat)
  case atStart => exact ⟨0, 4294967295, by omega, rfl, rfl, by decide, by simp⟩
  case round =>
    obtain ⟨k, r, hk, rfl, rfl, hr, hc⟩ := hrel
    by_cases hlt : k < s.size
    · obtain ⟨c, hcb⟩ : ∃ c, s[k].toNat = c := ⟨_, rfl⟩
      have hc256 : c < 256 := by rw [← hcb]; exact UInt8.toNat_lt _
      obtain ⟨T, hT⟩ : ∃ T, T = crcStep r c := ⟨_, rfl⟩
      have hTl : T < 4294967296 := by rw [hT]; exact crcStep_lt hr hc256
      have HC : Hid (crcFrom 4294967295 s.data.toList = crcFrom T (s.data.toList.drop (k + 1))) := hc.trans (crc_at s r k c T hlt hcb hT)
      obtain ⟨Z, hZ⟩ : ∃ Z, Z = r ^^^ c := ⟨_, rfl⟩
      have HT : Hid (bitSteps 8 Z = T) := by show bitSteps 8 Z = T; rw [hT, hZ]; rfl
      have hx := u32_xor_nat r c hr (by omega)
      have hxl : r ^^^ c < 4294967296 := Nat.xor_lt_two_pow (n := 32) hr (by omega)
      rw [← hZ] at hx hxl
      clear hc hT hZ
      go_wp2
      go_loop [3, 5, 6] (fun x i _ => ∃ (j y : Nat), j ≤ 8 ∧ i = .int .i64 j ∧ x = .int .u32 y ∧ y < 4294967296 ∧ bitSteps (8 - j) y = T) (fun _ i _ => 8 - (intOf i).toNat)
      case atStart => exact ⟨0, Z, by omega, rfl, rfl, hxl, HT.out⟩
      case round =>
        clear HT hx hxl
        obtain ⟨j, y, hj, rfl, rfl, hy, hb⟩ := hrel
        by_cases hj8 : j < 8
        · have hj8' : (j : Int) < 8 := by omega
          rw [show 8 - j = (8 - (j + 1)) + 1 by omega, bitSteps] at hb
          have hlow := u32_low hy
          by_cases hodd : y % 2 = 1
          · have hodd' : (y : Int) % 2 = 1 := by omega
            obtain ⟨Y, hY⟩ : ∃ Y, Y = (y / 2) ^^^ 3988292384 := ⟨_, rfl⟩
            have hYl : Y < 4294967296 := by rw [hY]; exact Nat.xor_lt_two_pow (n := 32) (by omega) (by decide)
            have hq : bits .xor .u32 ((y : Int) / 2) 3988292384 = (Y : Int) := by
              have := u32_xor_nat (y / 2) 3988292384 (by omega) (by decide)
              rw [← hY] at this
              exact this
            have e : bitStep y = Y := by unfold bitStep; rw [if_pos hodd, hY]
            rw [e] at hb
            have HB : Hid (bitSteps (8 - (j + 1)) Y = T) := hb
            clear hb hY e
            go_wp2
            go_round
            case rel => exact ⟨j + 1, Y, by omega, by go_num, rfl, hYl, HB.out⟩
            case measure => simp [intOf]; omega
          · have hodd' : (y : Int) % 2 = 0 := by omega
            have e : bitStep y = y / 2 := by unfold bitStep; rw [if_neg hodd]
            rw [e] at hb
            have HB : Hid (bitSteps (8 - (j + 1)) (y / 2) = T) := hb
            clear hb e
            go_wp2
            go_round
            case rel => exact ⟨j + 1, y / 2, by omega, by go_num, by go_num, by omega, HB.out⟩
            case measure => simp [intOf]; omega
        · have hj8' : (8 : Int) ≤ (j : Int) := by omega
          have e : y = T := by rw [show 8 - j = 0 by omega] at hb; exact hb
          subst e
          clear hb
          go_wp2
          go_round
          case rel => exact ⟨k + 1, y, by omega, by go_num, rfl, hy, HC.out⟩
          case measure => simp [intOf]; omega
    · have HV : Hid (crc s.data.toList = 4294967295 - r) := by
        show crc _ = _
        unfold crc
        rw [hc, drop_past s k (by omega)]
        rfl
      have hn : Hid (wrap64 (bits .xor .u32 IntKind.u32.max (r : Int)) = ((4294967295 - r : Nat) : Int)) := back32 hr
      clear hc
      go_wp2
      go_ret
      rw [HV.out, ← hn.out]
      exact ⟨rfl, rfl⟩

theorem four_text (n : Nat) (h : n < 4294967296) (w : World) :
    (convert 101 9 (.slice (some ⟨w.heap.size, 0, none⟩) 4 4)).run Tryz.prog (w.alloc (.cells #[.int .u8 ((n : Int) % 256), .int .u8 ((n : Int) / 256 % 256), .int .u8 ((n : Int) / 65536 % 256), .int .u8 ((n : Int) / 16777216)] 5)) =
      .ok (.string ⟨(four n).toArray⟩) (w.alloc (.cells #[.int .u8 ((n : Int) % 256), .int .u8 ((n : Int) / 256 % 256), .int .u8 ((n : Int) / 65536 % 256), .int .u8 ((n : Int) / 16777216)] 5)) := by
  have hl : (four n).length = 4 := rfl
  refine run_convert_bytes_back _ 101 9 5 ⟨w.heap.size, 0, none⟩ 4 (four n) Tryz.underlying101 Tryz.underlying5 Tryz.underlying9 ?_
  intro j hj
  have hrow := heap_alloc_new w (.cells #[.int .u8 ((n : Int) % 256), .int .u8 ((n : Int) / 256 % 256), .int .u8 ((n : Int) / 65536 % 256), .int .u8 ((n : Int) / 16777216)] 5)
  have hc := Lib.cells_of_row hrow 4 j
  rw [hc (.int .u8 ((four n)[j].toNat : Int)) ?_]
  rcases (show j = 0 ∨ j = 1 ∨ j = 2 ∨ j = 3 by omega) with rfl | rfl | rfl | rfl
  · simp [four, byte_ofNat (show n % 256 < 256 by omega)]
  · simp [four, byte_ofNat (show n / 256 % 256 < 256 by omega)]
  · simp [four, byte_ofNat (show n / 65536 % 256 < 256 by omega)]
  · simp [four, byte_ofNat (show n / 16777216 % 256 < 256 by omega)]
    omega

set_option maxRecDepth 100000 in
theorem rfour_any (n : Nat) (h : n < 4294967296) (w : World) :
    Calls Tryz.prog 130 #[.int .i64 n] w fun e w' => e = .returned (.string ⟨(four n).toArray⟩) ∧ Below w.heap.size w w' := by
  have ht := four_text n h w
  go_enter Tryz.func130, Tryz.ntmps130
  go_wp2
  go_ret
  exact ⟨rfl, (Below.refl _ w).alloc (Nat.le_refl _) _⟩

theorem num4_at (s : ByteArray) (h4 : 4 ≤ s.size) : num4 s.data.toList = s[0].toNat + s[1].toNat * 256 + s[2].toNat * 65536 + s[3].toNat * 16777216 := by
  have hl := Lib.size_eq s
  have e : ∀ j (hj : j < s.size), s.data.toList.getD j 0 = s[j] := fun j hj => by
    rw [List.getD_eq_getElem?_getD, Lib.data_getElem? s j hj]
    rfl
  unfold num4
  rw [e 0 (by omega), e 1 (by omega), e 2 (by omega), e 3 (by omega)]

theorem append_text (xs : List UInt8) (s : ByteArray) : (⟨xs.toArray⟩ : ByteArray) ++ s = ⟨(xs ++ s.data.toList).toArray⟩ := by
  conv => lhs; rw [← Lib.mk_data s]
  rw [append_lists]

/-- Wrap's two answers. -/
def wrapOf (s : ByteArray) : ByteArray × Nat := if 524288 < s.size then (⟨#[]⟩, 1) else (⟨(frameOf s.data.toList).toArray⟩, 0)

set_option maxHeartbeats 800000 in
set_option maxRecDepth 100000 in
theorem rwrap_any (s : ByteArray) (w : World) :
    Calls Tryz.prog 88 #[.string s] w fun e w' => e = .returned (.tuple #[.string (wrapOf s).1, .int .i64 (wrapOf s).2]) ∧ Below w.heap.size w w' := by
  by_cases hb : 524288 < s.size
  · have e : wrapOf s = (⟨#[]⟩, 1) := by unfold wrapOf; rw [if_pos hb]
    rw [e]
    have hb' : (524288 : Int) < (s.size : Int) := by omega
    go_enter Tryz.func88, Tryz.ntmps88
    go_wp2
    go_ret2
    exact ⟨rfl, Below.refl _ _⟩
  · have hl := Lib.size_eq s
    have e : wrapOf s = (⟨(frameOf s.data.toList).toArray⟩, 0) := by unfold wrapOf; rw [if_neg hb]
    rw [e]
    have hb' : (s.size : Int) ≤ 524288 := by omega
    have q1 := rfour_any s.size (by omega)
    obtain ⟨A, hA⟩ : ∃ A : ByteArray, A = ⟨(four s.size).toArray⟩ := ⟨_, rfl⟩
    obtain ⟨B, hB⟩ : ∃ B : ByteArray, B = ⟨(four s.size ++ s.data.toList).toArray⟩ := ⟨_, rfl⟩
    obtain ⟨c, hc⟩ : ∃ c, c = crc (four s.size ++ s.data.toList) := ⟨_, rfl⟩
    obtain ⟨C, hC⟩ : ∃ C : ByteArray, C = ⟨(four c).toArray⟩ := ⟨_, rfl⟩
    obtain ⟨D, hD⟩ : ∃ D : ByteArray, D = ⟨(four s.size ++ four c).toArray⟩ := ⟨_, rfl⟩
    obtain ⟨F, hF⟩ : ∃ F : ByteArray, F = ⟨(frameOf s.data.toList).toArray⟩ := ⟨_, rfl⟩
    have a1 : A ++ s = B := by rw [hA, hB, append_text]
    have a2 : A ++ C = D := by rw [hA, hC, hD, append_lists]
    have a3 : D ++ s = F := by rw [hD, hF, append_text]; unfold frameOf; rw [← hl, ← hc, List.append_assoc]
    have z1 : A.size = 4 := by rw [hA, size_list, four_len]
    have z2 : C.size = 4 := by rw [hC, size_list, four_len]
    have z3 : D.size = 8 := by rw [hD, size_list, List.length_append, four_len, four_len]
    have z4 : B.size = 4 + s.size := by rw [hB, size_list, List.length_append, four_len, hl]
    have s1 : A.size + s.size ≤ 9223372036854775807 := by omega
    have s2 : A.size + C.size ≤ 9223372036854775807 := by omega
    have s3 : D.size + s.size ≤ 9223372036854775807 := by omega
    have q2 := rsum_any B (by omega)
    have q3 := rfour_any c (by rw [hc]; exact crc_lt _)
    rw [← hA] at q1
    rw [← hC] at q3
    have e2 : crc B.data.toList = c := by rw [hB, hc]
    rw [e2] at q2
    rw [← hF]
    clear hA hB hc hC hD hF z1 z2 z3 z4 e e2 hl
    go_enter Tryz.func88, Tryz.ntmps88
    go_wp2_with (first
      | (go_at_call 130; have d2 := d1; refine (q3 _).mono ?_; rintro e w2 ⟨rfl, b2⟩)
      | (go_at_call 110; refine (q2 _).mono ?_; rintro e w' ⟨rfl, rfl⟩)
      | (go_at_call 130; refine (q1 _).mono ?_; rintro e w1 ⟨rfl, b1⟩; have d1 : True := trivial))
    go_ret2
    exact ⟨rfl, b1.trans (b2.mono b1.size)⟩

end Go.Proofs.YtgecfplaimabpaaGreatDoor
/-
  The contracts of the document's own reader of frames (package latchkeyref02): First, All, Texts, for every text. No condition but on sizes.
-/
namespace Go.Proofs.YtgecfplaimabpaaGreatDoor
open Go.RowKit

/-- First's three answers on a text. -/
def firstT (s : ByteArray) : ByteArray × Nat × Nat := (⟨(firstOf s.data.toList).1.toArray⟩, (firstOf s.data.toList).2.1, (firstOf s.data.toList).2.2)

end Go.Proofs.YtgecfplaimabpaaGreatDoor
/-
  Four bytes of a number of any size (package latchkeyref02). No condition but that the number is not below 0.
-/
namespace Go.Proofs.YtgecfplaimabpaaGreatDoor
open Go.RowKit

theorem four_textL (n : Nat) (w : World) :
    (convert 101 9 (.slice (some ⟨w.heap.size, 0, none⟩) 4 4)).run Tryz.prog (w.alloc (.cells #[.int .u8 ((n : Int) % 256), .int .u8 ((n : Int) / 256 % 256), .int .u8 ((n : Int) / 65536 % 256), .int .u8 ((n : Int) / 16777216 % 256)] 5)) =
      .ok (.string ⟨(four n).toArray⟩) (w.alloc (.cells #[.int .u8 ((n : Int) % 256), .int .u8 ((n : Int) / 256 % 256), .int .u8 ((n : Int) / 65536 % 256), .int .u8 ((n : Int) / 16777216 % 256)] 5)) := by
  have hl : (four n).length = 4 := rfl
  refine run_convert_bytes_back _ 101 9 5 ⟨w.heap.size, 0, none⟩ 4 (four n) Tryz.underlying101 Tryz.underlying5 Tryz.underlying9 ?_
  intro j hj
  have hrow := heap_alloc_new w (.cells #[.int .u8 ((n : Int) % 256), .int .u8 ((n : Int) / 256 % 256), .int .u8 ((n : Int) / 65536 % 256), .int .u8 ((n : Int) / 16777216 % 256)] 5)
  have hc := Lib.cells_of_row hrow 4 j
  rw [hc (.int .u8 ((four n)[j].toNat : Int)) ?_]
  rcases (show j = 0 ∨ j = 1 ∨ j = 2 ∨ j = 3 by omega) with rfl | rfl | rfl | rfl
  · simp [four, byte_ofNat (show n % 256 < 256 by omega)]
  · simp [four, byte_ofNat (show n / 256 % 256 < 256 by omega)]
  · simp [four, byte_ofNat (show n / 65536 % 256 < 256 by omega)]
  · simp [four, byte_ofNat (show n / 16777216 % 256 < 256 by omega)]
set_option maxRecDepth 100000 in
theorem rfour_long (n : Nat) (w : World) :
    Calls Tryz.prog 130 #[.int .i64 n] w fun e w' => e = .returned (.string ⟨(four n).toArray⟩) ∧ Below w.heap.size w w' := by
  have ht := four_textL n w
  go_enter Tryz.func130, Tryz.ntmps130
  go_wp2
  go_ret
  exact ⟨rfl, (Below.refl _ w).alloc (Nat.le_refl _) _⟩
end Go.Proofs.YtgecfplaimabpaaGreatDoor
/-
  A record's bytes (package latchkeyref11). No condition.
-/
namespace Go.Proofs.YtgecfplaimabpaaGreatDoor
open Go.RowKit

def encRT (r : Rc) : ByteArray × Int := if mayR r = true then (⟨(encR r).toArray⟩, 0) else (⟨#[]⟩, 1)
abbrev rcA (K N A B k S Q n : Int) (T : ByteArray) : Array Value := #[.int .i64 K, .int .i64 N, .int .i64 A, .int .i64 B, .int .i64 k, .int .i64 S, .int .i64 Q, .string T, .int .i64 n]
theorem encRT_no {r : Rc} (h : mayR r = false) : encRT r = (⟨#[]⟩, 1) := by
  unfold encRT
  rw [h]
  rfl
theorem encRT_yes {r : Rc} (h : mayR r = true) : encRT r = (⟨(encR r).toArray⟩, 0) := by
  unfold encRT
  rw [if_pos h]
set_option maxHeartbeats 3200000 in
set_option maxRecDepth 100000 in
theorem rencR_other (K N A B k S Q n : Int) (T : ByteArray) (w : World) (h1 : ¬ K = 1) (h2 : ¬ K = 2) :
    Calls Tryz.prog 98 #[.agg (rcA K N A B k S Q n T)] w fun e w' => e = .returned (.tuple #[.string ⟨#[]⟩, .int .i64 1]) ∧ Below w.heap.size w w' := by
  go_enter Tryz.func98, Tryz.ntmps98
  go_wp2
  go_ret2
  exact ⟨rfl, (Below.refl _ w).alloc (Nat.le_refl _) _⟩
set_option maxHeartbeats 3200000 in
set_option maxRecDepth 100000 in
theorem rencR_small (N A B k S Q n : Int) (T : ByteArray) (w : World) (h1 : N < 1) :
    Calls Tryz.prog 98 #[.agg (rcA 1 N A B k S Q n T)] w fun e w' => e = .returned (.tuple #[.string ⟨#[]⟩, .int .i64 1]) ∧ Below w.heap.size w w' := by
  go_enter Tryz.func98, Tryz.ntmps98
  go_wp2
  go_ret2
  exact ⟨rfl, (Below.refl _ w).alloc (Nat.le_refl _) _⟩
set_option maxHeartbeats 3200000 in
set_option maxRecDepth 100000 in
theorem rencR_great (N A B k S Q n : Int) (T : ByteArray) (w : World) (h0 : ¬ N < 1) (h1 : 1099511627776 < N) :
    Calls Tryz.prog 98 #[.agg (rcA 1 N A B k S Q n T)] w fun e w' => e = .returned (.tuple #[.string ⟨#[]⟩, .int .i64 1]) ∧ Below w.heap.size w w' := by
  go_enter Tryz.func98, Tryz.ntmps98
  go_wp2
  go_ret2
  exact ⟨rfl, (Below.refl _ w).alloc (Nat.le_refl _) _⟩
set_option maxHeartbeats 3200000 in
set_option maxRecDepth 100000 in
theorem rencR_entry (N A B k S Q n : Int) (T : ByteArray) (w : World) (h0 : ¬ N < 1) (h1 : ¬ 1099511627776 < N) (he : noE ⟨A, B, ⟨k, S, Q, T, n⟩⟩ = false) :
    Calls Tryz.prog 98 #[.agg (rcA 1 N A B k S Q n T)] w fun e w' => e = .returned (.tuple #[.string ⟨#[]⟩, .int .i64 1]) ∧ Below w.heap.size w w' := by
  rcases name_kinds T with rfl | ⟨hT, _⟩
  · go_enter Tryz.func98, Tryz.ntmps98
    go_wp2 <;> first
      | (go_ret2; exact ⟨rfl, (Below.refl _ w).alloc (Nat.le_refl _) _⟩)
      | (exfalso; simp_all [noE]; done)
      | (exfalso; revert he; subst_vars; decide)
  · go_enter Tryz.func98, Tryz.ntmps98
    go_wp2 <;> (go_ret2; exact ⟨rfl, (Below.refl _ w).alloc (Nat.le_refl _) _⟩)
set_option maxHeartbeats 3200000 in
set_option maxRecDepth 100000 in
theorem rencR_one (m : Nat) (w : World) (h0 : 1 ≤ m) (h1 : m ≤ 1099511627776) :
    Calls Tryz.prog 98 #[.agg (rcA 1 m 0 0 0 0 0 0 ⟨#[]⟩)] w fun e w' => e = .returned (.tuple #[.string ⟨(1 :: eight m).toArray⟩, .int .i64 0]) ∧ Below w.heap.size w w' := by
  have y1 := rfour_long m
  have y2 := rfour_long (m / 4294967296)
  rw [show ((m / 4294967296 : Nat) : Int) = (m : Int) / 4294967296 by omega] at y2
  obtain ⟨F1, hF1⟩ : ∃ F : ByteArray, F = ⟨(four m).toArray⟩ := ⟨_, rfl⟩
  obtain ⟨F2, hF2⟩ : ∃ F : ByteArray, F = ⟨(four (m / 4294967296)).toArray⟩ := ⟨_, rfl⟩
  obtain ⟨C, hC⟩ : ∃ C : ByteArray, C = ⟨#[1]⟩ := ⟨_, rfl⟩
  have z1 : F1.size = 4 := by rw [hF1, size_list]; rfl
  have z2 : F2.size = 4 := by rw [hF2, size_list]; rfl
  have HB : Hid ((⟨#[1]⟩ : ByteArray) ++ F1 ++ F2 = ⟨(1 :: eight m).toArray⟩) := by
    show (⟨[1].toArray⟩ : ByteArray) ++ F1 ++ F2 = _
    rw [hF1, hF2, append_lists, append_lists]
    rfl
  rw [← hF1] at y1
  rw [← hF2] at y2
  rw [← HB.out]
  clear hF1 hF2 HB
  have g1 : (w.alloc (.cells (rcA 1 m 0 0 0 0 0 0 ⟨#[]⟩) 69)).cell? ⟨w.heap.size, 1, none⟩ = some (.int .i64 m) := by simp
  have ba : Below w.heap.size w (w.alloc (.cells (rcA 1 m 0 0 0 0 0 0 ⟨#[]⟩) 69)) := (Below.refl _ w).alloc (Nat.le_refl _) _
  have la : w.heap.size < (w.alloc (.cells (rcA 1 m 0 0 0 0 0 0 ⟨#[]⟩) 69)).heap.size := by simp
  have k0 : ((m : Int) < 1) = False := eq_false (by omega)
  have k1 : ((1099511627776 : Int) < (m : Int)) = False := eq_false (by omega)
  go_enter Tryz.func98, Tryz.ntmps98
  go_wp2
  go_region_held3 (fun w' => w'.cell? ⟨w.heap.size, 1, none⟩ = some (.int .i64 (m : Int))) (go_keep)
    (first
      | (go_at_call 130; have d1 := d0; refine (y2 _).mono ?_; rintro e w3 ⟨rfl, b3⟩; have f3 := bmm f2 f2.size b3; have g3 := (b3.cell (p := ⟨w.heap.size, 1, none⟩) (by exact lb2)).trans g2)
      | (go_at_call 130; refine (y1 _).mono ?_; rintro e w2 ⟨rfl, b2'⟩; have b2 := undrew b2'; have f2 := bmm ba ba.size b2; have lb2 := Nat.lt_of_lt_of_le la b2.size; have g2 := (b2.cell (p := ⟨w.heap.size, 1, none⟩) (by exact la)).trans g1; have d0 : True := trivial))
  go_wp2
  go_ret2
  exact ⟨rfl, f3⟩
set_option maxHeartbeats 3200000 in
set_option maxRecDepth 100000 in
theorem rencR_two (N A B k S Q n : Int) (T : ByteArray) (w : World) :
    Calls Tryz.prog 98 #[.agg (rcA 2 N A B k S Q n T)] w fun e w' => e = .returned (.tuple #[.string (encRT ⟨2, N, ⟨A, B, ⟨k, S, Q, T, n⟩⟩⟩).1, .int .i64 (encRT ⟨2, N, ⟨A, B, ⟨k, S, Q, T, n⟩⟩⟩).2]) ∧ Below w.heap.size w w' := by
  have q := rencodeE_any A B k S Q n T (w.alloc (.cells (rcA 2 N A B k S Q n T) 69))
  have ba : Below w.heap.size w (w.alloc (.cells (rcA 2 N A B k S Q n T) 69)) := (Below.refl _ w).alloc (Nat.le_refl _) _
  have la : w.heap.size < (w.alloc (.cells (rcA 2 N A B k S Q n T) 69)).heap.size := by simp
  have g1 : (w.alloc (.cells (rcA 2 N A B k S Q n T) 69)).cell? ⟨w.heap.size, 1, none⟩ = some (.int .i64 N) := by simp
  have g3 : (w.alloc (.cells (rcA 2 N A B k S Q n T) 69)).cell? ⟨w.heap.size, 3, none⟩ = some (.int .i64 B) := by simp
  have ARM : ∀ (t : ByteArray) (i : Int), t.size ≤ 300 → (Calls Tryz.prog 145 #[.agg #[.int .i64 A, .int .i64 B, .int .i64 k, .int .i64 S, .int .i64 Q, .string T, .int .i64 n]] (w.alloc (.cells (rcA 2 N A B k S Q n T) 69)) fun e w' => e = .returned (.tuple #[.string t, .int .i64 i]) ∧ Below (w.alloc (.cells (rcA 2 N A B k S Q n T) 69)).heap.size (w.alloc (.cells (rcA 2 N A B k S Q n T) 69)) w') →
      Calls Tryz.prog 98 #[.agg (rcA 2 N A B k S Q n T)] w fun e w' => e = .returned (.tuple #[.string (if i = 0 ∧ N = 0 ∧ 1 ≤ B then ⟨#[2]⟩ ++ t else ⟨#[]⟩), .int .i64 (if i = 0 ∧ N = 0 ∧ 1 ≤ B then 0 else 1)]) ∧ Below w.heap.size w w' := by
    intro t i ht qq
    by_cases c1 : i = 0
    · by_cases c2 : N = 0
      · by_cases c3 : 1 ≤ B
        · rw [if_pos ⟨c1, c2, c3⟩, if_pos ⟨c1, c2, c3⟩]
          subst c1 c2
          have k3 : (B < 1) = False := eq_false (by omega)
          go_enter Tryz.func98, Tryz.ntmps98
          go_wp2_with (go_at_call 145; refine qq.mono ?_; rintro e w2 ⟨rfl, b2⟩; have f2 := bmm ba ba.size b2; have g12 := (b2.cell (p := ⟨w.heap.size, 1, none⟩) (by exact la)).trans g1; have g32 := (b2.cell (p := ⟨w.heap.size, 3, none⟩) (by exact la)).trans g3)
          go_ret2
          exact ⟨rfl, f2⟩
        · rw [if_neg (fun h => c3 h.2.2), if_neg (fun h => c3 h.2.2)]
          subst c1 c2
          have k3 : (B < 1) = True := eq_true (by omega)
          go_enter Tryz.func98, Tryz.ntmps98
          go_wp2_with (go_at_call 145; refine qq.mono ?_; rintro e w2 ⟨rfl, b2⟩; have f2 := bmm ba ba.size b2; have g12 := (b2.cell (p := ⟨w.heap.size, 1, none⟩) (by exact la)).trans g1; have g32 := (b2.cell (p := ⟨w.heap.size, 3, none⟩) (by exact la)).trans g3)
          go_ret2
          exact ⟨rfl, f2⟩
      · rw [if_neg (fun h => c2 h.2.1), if_neg (fun h => c2 h.2.1)]
        subst c1
        go_enter Tryz.func98, Tryz.ntmps98
        go_wp2_with (go_at_call 145; refine qq.mono ?_; rintro e w2 ⟨rfl, b2⟩; have f2 := bmm ba ba.size b2; have g12 := (b2.cell (p := ⟨w.heap.size, 1, none⟩) (by exact la)).trans g1; have g32 := (b2.cell (p := ⟨w.heap.size, 3, none⟩) (by exact la)).trans g3)
        go_ret2
        exact ⟨rfl, f2⟩
    · rw [if_neg (fun h => c1 h.1), if_neg (fun h => c1 h.1)]
      go_enter Tryz.func98, Tryz.ntmps98
      go_wp2_with (go_at_call 145; refine qq.mono ?_; rintro e w2 ⟨rfl, b2⟩; have f2 := bmm ba ba.size b2; have g12 := (b2.cell (p := ⟨w.heap.size, 1, none⟩) (by exact la)).trans g1; have g32 := (b2.cell (p := ⟨w.heap.size, 3, none⟩) (by exact la)).trans g3)
      go_ret2
      exact ⟨rfl, f2⟩
  by_cases hm : mayE ⟨A, B, ⟨k, S, Q, T, n⟩⟩ = true
  · have e : encET ⟨A, B, ⟨k, S, Q, T, n⟩⟩ = (⟨(encE ⟨A, B, ⟨k, S, Q, T, n⟩⟩).toArray⟩, 0) := by unfold encET; rw [if_pos hm]
    rw [e] at q
    have r := ARM _ _ (by rw [size_list]; exact encE_few hm) q
    have ee : encRT ⟨2, N, ⟨A, B, ⟨k, S, Q, T, n⟩⟩⟩ = ((if (0 : Int) = 0 ∧ N = 0 ∧ 1 ≤ B then ⟨#[2]⟩ ++ ⟨(encE ⟨A, B, ⟨k, S, Q, T, n⟩⟩).toArray⟩ else ⟨#[]⟩), (if (0 : Int) = 0 ∧ N = 0 ∧ 1 ≤ B then 0 else 1)) := by
      by_cases hc : N = 0 ∧ 1 ≤ B
      · rw [if_pos ⟨rfl, hc⟩, if_pos ⟨rfl, hc⟩]
        have hy : mayR ⟨2, N, ⟨A, B, ⟨k, S, Q, T, n⟩⟩⟩ = true := by
          unfold mayR
          simp [hm, hc.1, hc.2]
        rw [encRT_yes hy]
        show _ = ((⟨[2].toArray⟩ : ByteArray) ++ _, _)
        rw [append_lists]
        rfl
      · rw [if_neg (fun h => hc h.2), if_neg (fun h => hc h.2)]
        apply encRT_no
        unfold mayR
        simp [hm]
        intro h1
        have := fun h2 => hc ⟨h1, h2⟩
        omega
    rw [ee]
    exact r
  · have e : encET ⟨A, B, ⟨k, S, Q, T, n⟩⟩ = (⟨#[]⟩, 1) := by unfold encET; rw [if_neg hm]
    rw [e] at q
    have r := ARM ⟨#[]⟩ 1 (Nat.zero_le 300) q
    rw [if_neg (by simp), if_neg (by simp)] at r
    rw [encRT_no (by unfold mayR; simp [hm])]
    exact r
theorem rencR_any (K N A B k S Q n : Int) (T : ByteArray) (w : World) :
    Calls Tryz.prog 98 #[.agg (rcA K N A B k S Q n T)] w fun e w' => e = .returned (.tuple #[.string (encRT ⟨K, N, ⟨A, B, ⟨k, S, Q, T, n⟩⟩⟩).1, .int .i64 (encRT ⟨K, N, ⟨A, B, ⟨k, S, Q, T, n⟩⟩⟩).2]) ∧ Below w.heap.size w w' := by
  by_cases h1 : K = 1
  · subst h1
    by_cases c1 : N < 1
    · rw [encRT_no (by unfold mayR; simp; omega)]
      exact rencR_small N A B k S Q n T w c1
    · by_cases c2 : 1099511627776 < N
      · rw [encRT_no (by unfold mayR; simp; omega)]
        exact rencR_great N A B k S Q n T w c1 c2
      · cases he : noE ⟨A, B, ⟨k, S, Q, T, n⟩⟩ with
        | false =>
          rw [encRT_no (by unfold mayR; simp [he])]
          exact rencR_entry N A B k S Q n T w c1 c2 he
        | true =>
          have ez := noE_iff.mp he
          have hy : mayR ⟨1, N, ⟨A, B, ⟨k, S, Q, T, n⟩⟩⟩ = true := by rw [ez]; exact mayR_one (by omega) (by omega)
          rw [encRT_yes hy]
          unfold En.zero Cm.zero at ez
          injection ez with e1 e2 e3
          injection e3 with e4 e5 e6 e7 e8
          subst e1 e2 e4 e5 e6 e7 e8
          have r := rencR_one N.toNat w (by omega) (by omega)
          rw [show ((N.toNat : Nat) : Int) = N by omega] at r
          exact r
  · by_cases h2 : K = 2
    · subst h2
      exact rencR_two N A B k S Q n T w
    · rw [encRT_no (by unfold mayR; simp [h1, h2])]
      exact rencR_other K N A B k S Q n T w h1 h2
end Go.Proofs.YtgecfplaimabpaaGreatDoor
/-
  The frames of records (package latchkeyref11). The conditions: the records lie in memory as their reading says, and are not more than 2^40.
-/
namespace Go.Proofs.YtgecfplaimabpaaGreatDoor
open Go.RowKit

/-- A record's cells. -/
def rcC (r : Rc) : List Value := [.int .i64 r.kind, .int .i64 r.n, .int .i64 r.en.slot, .int .i64 r.en.ballot, .int .i64 r.en.cmd.kind, .int .i64 r.en.cmd.session, .int .i64 r.en.cmd.seq, .string r.en.cmd.name, .int .i64 r.en.cmd.n]
theorem rcC_len (r : Rc) : (rcC r).length = 9 := rfl
/-- Frames' two answers. -/
def framesT (l : List Rc) : ByteArray × Int := if l.all mayR = true then (⟨(framesOf l).toArray⟩, 0) else (⟨#[]⟩, 1)
theorem framesOf_few : ∀ (l : List Rc), l.all mayR = true → (framesOf l).length ≤ l.length * 400
  | [], _ => Nat.zero_le _
  | r :: l, h => by
    rw [List.all_cons, Bool.and_eq_true] at h
    have ih := framesOf_few l h.2
    have hr : (encR r).length ≤ 301 := by
      rcases mayR_kind h.1 with ⟨h1, _⟩ | ⟨h1, h2, _⟩
      · unfold encR
        rw [if_pos h1, List.length_cons, eight_len]
        omega
      · unfold encR
        rw [if_neg (by omega), List.length_cons]
        have := encE_few h2
        omega
    show (frameOf (encR r) ++ framesOf l).length ≤ (l.length + 1) * 400
    rw [List.length_append, frameOf_len]
    omega
theorem framesOf_snoc (l : List Rc) (r : Rc) : framesOf (l ++ [r]) = framesOf l ++ frameOf (encR r) := by
  rw [framesOf_append]
  show framesOf l ++ (frameOf (encR r) ++ []) = _
  rw [List.append_nil]
theorem wrapOf_rec {r : Rc} (h : mayR r = true) : wrapOf ⟨(encR r).toArray⟩ = (⟨(frameOf (encR r)).toArray⟩, 0) := by
  unfold wrapOf
  rw [if_neg (by rw [size_list]; have := (encR_len h).2; omega)]
set_option maxHeartbeats 3200000 in
set_option maxRecDepth 100000 in
theorem rframes_any (w : World) (v : Value) (l : List Rc) (hv : RowAt rcC w v l) (hl : l.length ≤ 1099511627776) :
    Calls Tryz.prog 55 #[v] w fun e w' => e = .returned (.tuple #[.string (framesT l).1, .int .i64 (framesT l).2]) ∧ Below w.heap.size w w' := by
  obtain ⟨a, cap, rfl⟩ := hv.form
  go_enter Tryz.func55, Tryz.ntmps55
  go_wp2
  go_loopw [4, 5] (fun s i wr => ∃ (k : Nat) (S : ByteArray), k ≤ l.length ∧ i = .int .i64 (k : Int) ∧ s = .string S ∧ Hid (S = ⟨(framesOf (l.take k)).toArray⟩) ∧ Hid ((l.take k).all mayR = true) ∧ Below w.heap.size w wr) (fun _ i _ => l.length - (intOf i).toNat)
  case atStart => exact ⟨0, _, Nat.zero_le _, rfl, rfl, rfl, rfl, Below.refl _ _⟩
  case round =>
    obtain ⟨k, S, hk, rfl, rfl, HS, HM, hb⟩ := hrel
    by_cases hkl : k < l.length
    · have hd : decide ((k : Int) < (l.length : Int)) = true := decide_eq_true (by omega)
      obtain ⟨bk, off, cap', hvv, hcap, hbk, hc⟩ := (hv.fresh hb).cells rcC_len (by omega)
      injection hvv with e1 e2 e3
      subst e1 e3
      obtain ⟨r, hr⟩ : ∃ r, r = l[k] := ⟨_, rfl⟩
      have z0 := hc k hkl 0 (.int .i64 r.kind) (by decide) (by rw [hr]; rfl)
      have z1 := hc k hkl 1 (.int .i64 r.n) (by decide) (by rw [hr]; rfl)
      have z2 := hc k hkl 2 (.int .i64 r.en.slot) (by decide) (by rw [hr]; rfl)
      have z3 := hc k hkl 3 (.int .i64 r.en.ballot) (by decide) (by rw [hr]; rfl)
      have z4 := hc k hkl 4 (.int .i64 r.en.cmd.kind) (by decide) (by rw [hr]; rfl)
      have z5 := hc k hkl 5 (.int .i64 r.en.cmd.session) (by decide) (by rw [hr]; rfl)
      have z6 := hc k hkl 6 (.int .i64 r.en.cmd.seq) (by decide) (by rw [hr]; rfl)
      have z7 := hc k hkl 7 (.string r.en.cmd.name) (by decide) (by rw [hr]; rfl)
      have z8 := hc k hkl 8 (.int .i64 r.en.cmd.n) (by decide) (by rw [hr]; rfl)
      rw [Nat.add_zero] at z0
      have qe := rencR_any r.kind r.n r.en.slot r.en.ballot r.en.cmd.kind r.en.cmd.session r.en.cmd.seq r.en.cmd.n r.en.cmd.name
      rw [show (⟨r.kind, r.n, ⟨r.en.slot, r.en.ballot, ⟨r.en.cmd.kind, r.en.cmd.session, r.en.cmd.seq, r.en.cmd.name, r.en.cmd.n⟩⟩⟩ : Rc) = r from rfl] at qe
      have htk : l.take (k + 1) = l.take k ++ [r] := by
        rw [List.take_add_one, List.getElem?_eq_getElem hkl, ← hr]
        rfl
      by_cases hm : mayR r = true
      · rw [encRT_yes hm] at qe
        have qw := rwrap_any ⟨(encR r).toArray⟩
        rw [wrapOf_rec hm] at qw
        have HM' : Hid ((l.take (k + 1)).all mayR = true) := by
          show _ = true
          rw [htk, List.all_append, HM.out]
          simp [hm]
        have le := (encR_len hm).2
        obtain ⟨E, hE⟩ : ∃ E : ByteArray, E = ⟨(encR r).toArray⟩ := ⟨_, rfl⟩
        obtain ⟨F, hF⟩ : ∃ F : ByteArray, F = ⟨(frameOf (encR r)).toArray⟩ := ⟨_, rfl⟩
        have zF : F.size ≤ 524296 := by rw [hF, size_list, frameOf_len]; omega
        have zS : S.size ≤ 439804651110400 := by
          have h1 := framesOf_few _ HM.out
          rw [HS.out, size_list]
          rw [List.length_take] at h1
          have : min k l.length * 400 ≤ 1099511627776 * 400 := Nat.mul_le_mul_right _ (by omega)
          omega
        have HS' : Hid (S ++ F = ⟨(framesOf (l.take (k + 1))).toArray⟩) := by
          show S ++ F = _
          rw [HS.out, hF, append_lists, htk, framesOf_snoc]
        rw [← hE] at qe qw
        rw [← hF] at qw
        have oX : (9223372036854775807 < S.size + F.size) = False := eq_false (by omega)
        clear htk hm le hE hF hr hc
        go_wp2_with (first
          | (go_at_call 88; refine (qw _).mono ?_; rintro e' w13 ⟨rfl, b13⟩)
          | (go_at_call 98; refine (qe _).mono ?_; rintro e' w12 ⟨rfl, b12⟩))
        go_roundw
        case rel => exact ⟨k + 1, S ++ F, hkl, by go_num, rfl, HS', HM', (hb.trans (b12.mono hb.size)).trans (b13.mono (Nat.le_trans hb.size b12.size))⟩
        case measure => simp [intOf]; omega
      · rw [encRT_no (by simpa using hm)] at qe
        have HN : Hid (framesT l = (⟨#[]⟩, 1)) := by
          show framesT l = _
          unfold framesT
          rw [if_neg]
          intro hall
          exact hm (by rw [hr]; exact List.all_eq_true.mp hall _ (List.getElem_mem hkl))
        clear htk hm hr hc
        go_wp2_with (go_at_call 98; refine (qe _).mono ?_; rintro e' w12 ⟨rfl, b12⟩)
        go_ret2
        exact ⟨by rw [HN.out]; rfl, hb.trans (b12.mono hb.size)⟩
    · have hd : decide ((k : Int) < (l.length : Int)) = false := decide_eq_false (by omega)
      have HN : Hid (framesT l = (S, 0)) := by
        show framesT l = _
        have h1 := HM.out
        have h2 := HS.out
        rw [List.take_of_length_le (by omega)] at h1 h2
        unfold framesT
        rw [if_pos h1, h2]
      clear HS HM
      go_wp2
      go_ret2
      exact ⟨by rw [HN.out]; rfl, hb⟩
end Go.Proofs.YtgecfplaimabpaaGreatDoor
