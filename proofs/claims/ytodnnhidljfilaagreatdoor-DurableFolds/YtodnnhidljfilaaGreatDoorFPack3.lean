/-
  Parts of the proof, laid together: SnPlain, SvCode, KLook, SvDisk. The conditions stand at each part.
-/
import Derived.RegionTactic
import Derived.ChangeAlike
import Derived.Test.YtodnnhidljfilaaGreatDoorFPackA
import Derived.Test.YtodnnhidljfilaaGreatDoorFPackB
import Derived.Test.YtodnnhidljfilaaGreatDoorFPackD
import Derived.Test.YtodnnhidljfilaaGreatDoorFPackH
import Derived.Test.YtodnnhidljfilaaGreatDoorFSvIs
import Derived.Test.YtodnnhidljfilaaGreatDoorFKAbs
/-
  A snapshot's file as plain data: a slot and a text, written, framed, read; a file of which one byte is another is read as none. No condition but what each part says.
-/
namespace Go.Proofs.YtodnnhidljfilaaGreatDoor

/-- The names of a snapshot's file, and of the one that is begun. -/
def snapB : ByteArray := ⟨#[115, 110, 97, 112]⟩
end Go.Proofs.YtodnnhidljfilaaGreatDoor
/-
  Package snap over the disk as plain data: Load, Save. The conditions: the program's variables lie in memory as its text lays them, below the disk; fewer than 2^62 appends.
-/
namespace Go.Proofs.YtodnnhidljfilaaGreatDoor
open Go.RowKit

theorem snap_max : snapB.size ≤ maxLen := by decide
section
variable {w : World} {base D B turns : Nat} {A : List CF} {ro : Nat → Option Nat}
set_option maxRecDepth 100000 in
theorem sread_no (h : DkS w base D A turns ro) (a0 a1 a2 : Addr) (hS : Sen w B a0 a1 a2) (hn : lk A snapB = none) : Calls Tryz.prog 59 #[.pointer (some ⟨D, 0, none⟩)] w fun e w' => e = .returned (.tuple #[.int .i64 0, .string ⟨#[]⟩, .iface 296 (.pointer (some a1))]) ∧ Below w.heap.size w w' := by
  have q1 := S_read_no h snapB snap_max hn
  unfold snapB at q1
  have c1 := hS.c1
  clear hS
  go_enter Tryz.func59, Tryz.ntmps59
  go_wp2_with (go_at_call 102; refine q1.mono ?_; rintro e w1 ⟨rfl, rfl⟩)
  go_region
  all_goals go_wp2
  all_goals (go_ret3; exact ⟨rfl, ⟨rfl, rfl, rfl, Nat.le_refl _, fun _ _ => rfl⟩⟩)
/-- errors.Is over the three. -/
theorem is01 {a0 a1 a2 : Addr} (h : Sen w B a0 a1 a2) : Calls Tryz.prog 60 #[.iface 296 (.pointer (some a1)), .iface 296 (.pointer (some a0))] w fun e w' => e = .returned (.bool false) ∧ w = w' := by
  obtain ⟨x, y, r⟩ := h.r1
  obtain ⟨x', y', r'⟩ := h.r0
  exact is_other a1 a0 _ _ _ _ w (Ne.symm h.n01) r r'
set_option maxRecDepth 100000 in
/-- Load, where there is no file. -/
theorem pload_no (h : DkS w base D A turns ro) (hE : Env w B) (hn : lk A snapB = none) : Calls Tryz.prog 39 #[.pointer (some ⟨D, 0, none⟩)] w fun e w' => e = .returned (.tuple #[.int .i64 0, .string ⟨#[]⟩, .int .i64 5]) ∧ Below w.heap.size w w' := by
  obtain ⟨a0, a1, a2, hS⟩ := hE.sn
  have q1 := sread_no h a0 a1 a2 hS hn
  have HS : Hid (∀ w1, Below w.heap.size w w1 → Sen w1 B a0 a1 a2) := fun w1 b => hS.below b hE.le hE.b4
  clear hS hE h hn
  go_enter Tryz.func39, Tryz.ntmps39
  go_wp2_with (first
    | (go_at_call 60; have d2 := d1; refine (is_same a1 _).mono ?_; rintro e w3 ⟨rfl, rfl⟩)
    | (go_at_call 60; refine (is01 (HS.out _ b1)).mono ?_; rintro e w2 ⟨rfl, rfl⟩; have d1 : True := trivial)
    | (go_at_call 59; refine q1.mono ?_; rintro e w1 ⟨rfl, b1⟩; have c0 := (HS.out w1 b1).c0; have c1 := (HS.out w1 b1).c1))
  go_ret3
  exact ⟨rfl, b1⟩
end
end Go.Proofs.YtodnnhidljfilaaGreatDoor
