/-
  Bytes as a record (package latchkeyref11). The condition: the text is no longer than a text may be.
-/
import Derived.Test.YtdhlbldmdeepiaaGreatDoorRWvDec
import Derived.Test.YtdhlbldmdeepiaaGreatDoorRRTake
namespace Go.Proofs.YtdhlbldmdeepiaaGreatDoor
open Go.RowKit

/-- A number, little end first. -/
def leN : List UInt8 → Nat
  | [] => 0
  | c :: l => c.toNat + 256 * leN l
theorem leN_num8 {l : List UInt8} (h : l.length = 8) : leN l = num8 l := by
  match l, h with
  | [a, b, c, d, e, f, g, i], _ =>
    show a.toNat + 256 * (b.toNat + 256 * (c.toNat + 256 * (d.toNat + 256 * (e.toNat + 256 * (f.toNat + 256 * (g.toNat + 256 * (i.toNat + 256 * 0))))))) = (a.toNat + b.toNat * 256 + c.toNat * 65536 + d.toNat * 16777216) + (e.toNat + f.toNat * 256 + g.toNat * 65536 + i.toNat * 16777216) * 4294967296
    omega
theorem leN_drop (l : List UInt8) (k : Nat) (h : k < l.length) : leN (l.drop k) = l[k].toNat + 256 * leN (l.drop (k + 1)) := by
  rw [List.drop_eq_getElem_cons h]
  rfl
theorem leN_le : ∀ (l : List UInt8) (k : Nat), leN (l.drop k) ≤ leN l
  | l, 0 => Nat.le_refl _
  | [], k + 1 => by simp
  | c :: l, k + 1 => by
    have := leN_le l k
    show leN (l.drop k) ≤ c.toNat + 256 * leN l
    omega
theorem leN_small {l : List UInt8} (h : l.length = 8) (h6 : l[6].toNat = 0) (h7 : l[7].toNat = 0) : leN l < 281474976710656 := by
  match l, h with
  | [a, b, c, d, e, f, g, i], _ =>
    have ha := byte_lt a; have hb := byte_lt b; have hc := byte_lt c; have hd := byte_lt d; have he := byte_lt e; have hf := byte_lt f
    have hg : g.toNat = 0 := h6
    have hi : i.toNat = 0 := h7
    show a.toNat + 256 * (b.toNat + 256 * (c.toNat + 256 * (d.toNat + 256 * (e.toNat + 256 * (f.toNat + 256 * (g.toNat + 256 * (i.toNat + 256 * 0))))))) < _
    omega
end Go.Proofs.YtdhlbldmdeepiaaGreatDoor
