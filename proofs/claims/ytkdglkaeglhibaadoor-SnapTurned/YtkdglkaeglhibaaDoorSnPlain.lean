/-
  A snapshot's file as plain data: a slot and a text, written, framed, read; a file of which one byte is another is read as none. No condition but what each part says.
-/
import Derived.Test.YtkdglkaeglhibaaDoorFPlain
import Derived.Test.YtkdglkaeglhibaaDoorCPair
namespace Go.Proofs.YtkdglkaeglhibaaDoor

/-- The names of a snapshot's file, and of the one that is begun. -/
def snapB : ByteArray := ⟨#[115, 110, 97, 112]⟩
def begunB : ByteArray := ⟨#[115, 110, 97, 112, 46, 116, 109, 112]⟩
/-- May be saved: a slot from 1 to 2^40, a text of at most 2^19 - 64 bytes. -/
def mayS (n : Int) (t : ByteArray) : Bool := (decide (1 ≤ n) && decide (n ≤ 1099511627776)) && decide (t.size ≤ 524224)
def encS (n : Int) (t : ByteArray) : List UInt8 := enc (zig n) ++ lenText t
/-- The bytes of a snapshot's file. -/
def fileS (n : Int) (t : ByteArray) : List UInt8 := frameOf (encS n t)
/-- The reader's three answers: slot, text, done. -/
def readS (s : ByteArray) : Int × ByteArray × Int := (zag (rU s false).1, (rT (rU s false).2.1 (rU s false).2.2).1, rD (rT (rU s false).2.1 (rU s false).2.2).2.1 (rT (rU s false).2.1 (rU s false).2.2).2.2)
/-- What is loaded of a file's bytes. -/
def loadS (l : List UInt8) : Int × ByteArray × Int :=
  if ((firstOf l).2.2 = 0 ∧ (firstOf l).2.1 = l.length) ∧ ((readS ⟨(firstOf l).1.toArray⟩).2.2 = 0 ∧ mayS (readS ⟨(firstOf l).1.toArray⟩).1 (readS ⟨(firstOf l).1.toArray⟩).2.1 = true) then ((readS ⟨(firstOf l).1.toArray⟩).1, (readS ⟨(firstOf l).1.toArray⟩).2.1, 0)
  else (0, ⟨#[]⟩, 2)
theorem mayS_parts {n : Int} {t : ByteArray} (h : mayS n t = true) : 1 ≤ n ∧ n ≤ 1099511627776 ∧ t.size ≤ 524224 := by
  unfold mayS at h
  simp only [Bool.and_eq_true, decide_eq_true_eq] at h
  exact ⟨h.1.1, h.1.2, h.2⟩
theorem encS_len {n : Int} {t : ByteArray} (h : mayS n t = true) : (encS n t).length ≤ 524288 := by
  obtain ⟨h1, h2, h3⟩ := mayS_parts h
  have l1 := enc_len_ten (zig_bound (n := n) (by omega) (by omega))
  have l2 := enc_len_ten (n := t.size) (by omega)
  unfold encS lenText
  simp only [List.length_append]
  rw [← Lib.size_eq]
  omega
theorem readS_enc {n : Int} {t : ByteArray} (h : mayS n t = true) : readS ⟨(encS n t).toArray⟩ = (n, t, 0) := by
  obtain ⟨h1, h2, h3⟩ := mayS_parts h
  have e1 : rU ⟨(encS n t).toArray⟩ false = (zig n, ⟨(lenText t).toArray⟩, false) := rU_enc (zig n) (zig_bound (by omega) (by omega)) (lenText t)
  have e2 := rT_text t (by omega) []
  rw [List.append_nil] at e2
  unfold readS
  rw [e1]
  simp only
  rw [e2, zag_zig]
  rfl
theorem loadS_file {n : Int} {t : ByteArray} (h : mayS n t = true) : loadS (fileS n t) = (n, t, 0) := by
  have e := firstOf_frame (encS n t) [] (encS_len h)
  rw [List.append_nil] at e
  have el : (fileS n t).length = (encS n t).length + 8 := frameOf_len _
  unfold loadS
  rw [show firstOf (fileS n t) = _ from e]
  simp only [readS_enc h, el, and_self, h, if_true]
theorem loadS_none {l : List UInt8} (h : ¬ ((firstOf l).2.2 = 0 ∧ (firstOf l).2.1 = l.length)) : loadS l = (0, ⟨#[]⟩, 2) := by
  unfold loadS
  rw [if_neg (fun x => h x.1)]
/-- What is loaded may be saved. -/
theorem loadS_may {l : List UInt8} (h : (loadS l).2.2 = 0) : mayS (loadS l).1 (loadS l).2.1 = true := by
  unfold loadS at h ⊢
  split at h
  · rename_i hh
    rw [if_pos hh]
    exact hh.2.2
  · cases h
theorem firstOf_whole {l : List UInt8} (h : (firstOf l).2.2 = 0) : (firstOf l).2.1 = 8 + num4 l ∧ num4 l ≤ l.length - 8 ∧ crc (l.take 4 ++ (l.drop 8).take (num4 l)) = num4 (l.drop 4) := by
  unfold firstOf at h ⊢
  split at h
  · cases h
  · split at h
    · cases h
    · split at h
      · cases h
      · split at h
        · cases h
        · rename_i h1 h2 h3 h4
          rw [if_neg h1, if_neg h2, if_neg h3, if_neg h4]
          exact ⟨rfl, by omega, by simpa using h4⟩
theorem toNat_ne {a x : UInt8} (h : a ≠ x) : a.toNat ≠ x.toNat := fun e => h (UInt8.toNat_inj.mp e)
theorem num4_cons (a b c d : UInt8) (l : List UInt8) : num4 (a :: b :: c :: d :: l) = a.toNat + b.toNat * 256 + c.toNat * 65536 + d.toNat * 16777216 := rfl
/-- Another byte among the first four: another number. -/
theorem num4_set {a b c d : UInt8} {l : List UInt8} {q : Nat} {x : UInt8} (hq : q < 4) (hx : (a :: b :: c :: d :: l)[q]? ≠ some x) : num4 ((a :: b :: c :: d :: l).set q x) ≠ num4 (a :: b :: c :: d :: l) := by
  have h1 := byte_lt a; have h2 := byte_lt b; have h3 := byte_lt c; have h4 := byte_lt d; have h5 := byte_lt x
  match q, hq with
  | 0, _ =>
    have := toNat_ne (fun e => hx (congrArg some e))
    simp only [List.set_cons_zero, num4_cons]
    omega
  | 1, _ =>
    have := toNat_ne (fun e => hx (congrArg some e))
    simp only [List.set_cons_succ, List.set_cons_zero, num4_cons]
    omega
  | 2, _ =>
    have := toNat_ne (fun e => hx (congrArg some e))
    simp only [List.set_cons_succ, List.set_cons_zero, num4_cons]
    omega
  | 3, _ =>
    have := toNat_ne (fun e => hx (congrArg some e))
    simp only [List.set_cons_succ, List.set_cons_zero, num4_cons]
    omega
/-- A frame of which one byte is another is not read whole. -/
theorem frame_turned {t : List UInt8} {q : Nat} {x : UInt8} (ht : t.length ≤ 524288) (hq : q < 8 + t.length) (hx : (frameOf t)[q]? ≠ some x) :
    ¬ ((firstOf ((frameOf t).set q x)).2.2 = 0 ∧ (firstOf ((frameOf t).set q x)).2.1 = ((frameOf t).set q x).length) := by
  rintro ⟨h0, h1⟩
  obtain ⟨w1, w2, w3⟩ := firstOf_whole h0
  rw [List.length_set, frameOf_len] at h1
  have hn : num4 ((frameOf t).set q x) = t.length := by omega
  have hn0 : num4 (frameOf t) = t.length := num4_four (by omega) _
  obtain ⟨a, b, c, d, hA⟩ : ∃ a b c d, four t.length = [a, b, c, d] := ⟨_, _, _, _, rfl⟩
  obtain ⟨e, f, g, h, hC⟩ : ∃ a b c d, four (crc (four t.length ++ t)) = [a, b, c, d] := ⟨_, _, _, _, rfl⟩
  have hcr : num4 (e :: f :: g :: h :: t) = crc (a :: b :: c :: d :: t) := by
    have := num4_four (n := crc (four t.length ++ t)) (crc_lt _) t
    rw [hC, hA] at this
    exact this
  have hF : frameOf t = a :: b :: c :: d :: e :: f :: g :: h :: t := by
    unfold frameOf
    rw [hC, hA]
    rfl
  rw [hF] at hx hn hn0 w3
  by_cases q4 : q < 4
  · exact num4_set q4 hx (hn.trans hn0.symm)
  · by_cases q8 : q < 8
    · obtain ⟨p, rfl⟩ : ∃ p, q = p + 4 := ⟨q - 4, by omega⟩
      rw [hn] at w3
      have hset : (a :: b :: c :: d :: e :: f :: g :: h :: t).set (p + 4) x = a :: b :: c :: d :: (e :: f :: g :: h :: t).set p x := rfl
      rw [hset] at w3
      have hd : ((e :: f :: g :: h :: t).set p x).drop 4 = t := by
        match p, (show p < 4 by omega) with
        | 0, _ => rfl
        | 1, _ => rfl
        | 2, _ => rfl
        | 3, _ => rfl
      have e1 : (a :: b :: c :: d :: (e :: f :: g :: h :: t).set p x).drop 8 = t := hd
      rw [e1, List.take_of_length_le (Nat.le_refl _)] at w3
      exact num4_set (show p < 4 by omega) hx (w3.symm.trans hcr.symm)
    · obtain ⟨p, rfl⟩ : ∃ p, q = p + 8 := ⟨q - 8, by omega⟩
      have hp : p < t.length := by omega
      have hset : (a :: b :: c :: d :: e :: f :: g :: h :: t).set (p + 8) x = a :: b :: c :: d :: e :: f :: g :: h :: t.set p x := rfl
      rw [hset] at w3 hn
      rw [hn] at w3
      have e1 : (a :: b :: c :: d :: e :: f :: g :: h :: t.set p x).drop 8 = t.set p x := rfl
      have e2 : (a :: b :: c :: d :: e :: f :: g :: h :: t.set p x).drop 4 = e :: f :: g :: h :: t.set p x := rfl
      have e3 : (a :: b :: c :: d :: e :: f :: g :: h :: t.set p x).take 4 = [a, b, c, d] := rfl
      have e4 : num4 (e :: f :: g :: h :: t.set p x) = num4 (e :: f :: g :: h :: t) := rfl
      rw [e1, e2, e3, e4, List.take_of_length_le (by rw [List.length_set]; exact Nat.le_refl _), hcr] at w3
      have hne : t[p] ≠ x := fun e => hx (by
        show t[p]? = some x
        rw [List.getElem?_eq_getElem hp, e])
      have hs1 : t.set p x = t.take p ++ x :: t.drop (p + 1) := List.set_eq_take_append_cons_drop ▸ (by rw [if_pos hp])
      have hs2 : t = t.take p ++ t[p] :: t.drop (p + 1) := by
        rw [← List.drop_eq_getElem_cons hp, List.take_append_drop]
      have key := crc_parts ([a, b, c, d] ++ t.take p) (t.drop (p + 1)) hne
      rw [List.append_assoc, List.append_assoc, ← hs2] at key
      rw [hs1] at w3
      exact key w3.symm
/-- A snapshot's file of which one byte is another is loaded as none. -/
theorem loadS_turned {n : Int} {t : ByteArray} (h : mayS n t = true) {q : Nat} {x : UInt8} (hq : q < (fileS n t).length) (hx : (fileS n t)[q]? ≠ some x) : loadS ((fileS n t).set q x) = (0, ⟨#[]⟩, 2) :=
  loadS_none (frame_turned (encS_len h) (by have : (fileS n t).length = _ := frameOf_len _; omega) hx)
end Go.Proofs.YtkdglkaeglhibaaDoor
