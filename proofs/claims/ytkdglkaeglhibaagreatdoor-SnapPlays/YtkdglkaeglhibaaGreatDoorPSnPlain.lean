/-
  A snapshot's file as plain data: a slot and a text, written, framed, read; a file of which one byte is another is read as none. No condition but what each part says.
-/
import Derived.Test.YtkdglkaeglhibaaGreatDoorPPackC
import Derived.Test.YtkdglkaeglhibaaGreatDoorPPackB
namespace Go.Proofs.YtkdglkaeglhibaaGreatDoor

/-- The names of a snapshot's file, and of the one that is begun. -/
def snapB : ByteArray := ⟨#[115, 110, 97, 112]⟩
def begunB : ByteArray := ⟨#[115, 110, 97, 112, 46, 116, 109, 112]⟩
/-- May be saved: a slot from 1 to 2^40, a text of at most 2^19 - 64 bytes. -/
def mayS (n : Int) (t : ByteArray) : Bool := (decide (1 ≤ n) && decide (n ≤ 1099511627776)) && decide (t.size ≤ 524224)
def encS (n : Int) (t : ByteArray) : List UInt8 := enc (zig n) ++ lenText t
/-- The bytes of a snapshot's file. -/
def fileS (n : Int) (t : ByteArray) : List UInt8 := frameOf (encS n t)
/-- The reader's three answers: slot, text, done. -/
def readS (s : ByteArray) : Int × ByteArray × Int := (zag (rU s false).1, (rT (rU s false).2.1 (rU s false).2.2).1, rD (rT (rU s false).2.1 (rU s false).2.2).2.1 (rT (rU s false).2.1 (rU s false).2.2).2.2)
/-- What is loaded of a file's bytes. -/
def loadS (l : List UInt8) : Int × ByteArray × Int :=
  if ((firstOf l).2.2 = 0 ∧ (firstOf l).2.1 = l.length) ∧ ((readS ⟨(firstOf l).1.toArray⟩).2.2 = 0 ∧ mayS (readS ⟨(firstOf l).1.toArray⟩).1 (readS ⟨(firstOf l).1.toArray⟩).2.1 = true) then ((readS ⟨(firstOf l).1.toArray⟩).1, (readS ⟨(firstOf l).1.toArray⟩).2.1, 0)
  else (0, ⟨#[]⟩, 2)
theorem mayS_parts {n : Int} {t : ByteArray} (h : mayS n t = true) : 1 ≤ n ∧ n ≤ 1099511627776 ∧ t.size ≤ 524224 := by
  unfold mayS at h
  simp only [Bool.and_eq_true, decide_eq_true_eq] at h
  exact ⟨h.1.1, h.1.2, h.2⟩
theorem encS_len {n : Int} {t : ByteArray} (h : mayS n t = true) : (encS n t).length ≤ 524288 := by
  obtain ⟨h1, h2, h3⟩ := mayS_parts h
  have l1 := enc_len_ten (zig_bound (n := n) (by omega) (by omega))
  have l2 := enc_len_ten (n := t.size) (by omega)
  unfold encS lenText
  simp only [List.length_append]
  rw [← Lib.size_eq]
  omega
theorem readS_enc {n : Int} {t : ByteArray} (h : mayS n t = true) : readS ⟨(encS n t).toArray⟩ = (n, t, 0) := by
  obtain ⟨h1, h2, h3⟩ := mayS_parts h
  have e1 : rU ⟨(encS n t).toArray⟩ false = (zig n, ⟨(lenText t).toArray⟩, false) := rU_enc (zig n) (zig_bound (by omega) (by omega)) (lenText t)
  have e2 := rT_text t (by omega) []
  rw [List.append_nil] at e2
  unfold readS
  rw [e1]
  simp only
  rw [e2, zag_zig]
  rfl
theorem loadS_file {n : Int} {t : ByteArray} (h : mayS n t = true) : loadS (fileS n t) = (n, t, 0) := by
  have e := firstOf_frame (encS n t) [] (encS_len h)
  rw [List.append_nil] at e
  have el : (fileS n t).length = (encS n t).length + 8 := frameOf_len _
  unfold loadS
  rw [show firstOf (fileS n t) = _ from e]
  simp only [readS_enc h, el, and_self, h, if_true]
theorem loadS_none {l : List UInt8} (h : ¬ ((firstOf l).2.2 = 0 ∧ (firstOf l).2.1 = l.length)) : loadS l = (0, ⟨#[]⟩, 2) := by
  unfold loadS
  rw [if_neg (fun x => h x.1)]
end Go.Proofs.YtkdglkaeglhibaaGreatDoor
