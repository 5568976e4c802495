/-
  Package session: what reading a session leans on: the reader beside the sessions; which answers may be. The condition: a text no longer than an int tells.
-/
import Derived.Test.YthokbififjhflaaSeAdd
import Derived.Test.YthokbififjhflaaCPair
namespace Go.Proofs.Ythokbififjhflaa
open Go.RowKit

theorem okI_mk {n : Int} (h1 : -9223372036854775808 ≤ n) (h2 : n ≤ 9223372036854775807) : okI n := ⟨h1, h2⟩
theorem mayAnswer_any {r : SeR} (h : r.Ok) (hq : 0 < r.seq) (w : World) : Calls Try.prog 59 #[.agg (seRA r)] w fun e w' => e = .returned (.bool true) ∧ Below w.heap.size w w' := by
  have t0 : decide ((0 : Int) < r.seq) = true := decide_eq_true hq
  have t1 : decide ((0 : Int) ≤ r.err) = true := decide_eq_true h.e0
  have t2 : decide (r.err ≤ 255) = true := decide_eq_true h.e1
  have t3 : decide ((-1073741824 : Int) ≤ r.n) = true := decide_eq_true h.n0
  have t4 : decide (r.n ≤ 1073741824) = true := decide_eq_true h.n1
  clear h hq
  go_enter Try.func59, Try.ntmps59
  go_wp2
  go_ret
  exact ⟨rfl, (Below.refl _ w).alloc (Nat.le_refl _) _⟩
/-- The sessions so far, the reader beside them. -/
structure RdI (w : World) (base X R : Nat) (S : Nat → Prop) (l : List SeX) (bs : List UInt8) : Prop where
  at' : SeAt w base X S l
  rd : Rd w R ⟨bs.toArray⟩ false
  no : ¬ S R
  lo : base ≤ R
  len : bs.length ≤ 4611686018427387904
theorem RdI.lt {w : World} {base X R : Nat} {S : Nat → Prop} {l : List SeX} {bs : List UInt8} (h : RdI w base X R S l bs) : R < w.heap.size := lt_of_block h.rd
theorem RdI.fresh {w w' : World} {base X R : Nat} {S : Nat → Prop} {l : List SeX} {bs : List UInt8} (h : RdI w base X R S l bs) (k : Below w.heap.size w w') : RdI w' base X R S l bs :=
  ⟨h.at'.fresh k, by have := h.rd; unfold Rd at this ⊢; exact (k.block _ h.lt).trans this, h.no, h.lo, h.len⟩
structure RdP (w : World) (base X R : Nat) (S : Nat → Prop) (l : List SeX) (bs : List UInt8) (v : Value) (e : Ending) (w' : World) : Prop where
  ex : e = .returned v ∧ RdI w' base X R S l bs ∧ w.grownBy w' (some R)
theorem RdI.next {w w' : World} {base X R : Nat} {S : Nat → Prop} {l : List SeX} {bs rest : List UInt8} (h : RdI w base X R S l bs) (hr : Rd w' R ⟨rest.toArray⟩ false) (hg : w.grownBy w' (some R)) (hl : rest.length ≤ bs.length) : RdI w' base X R S l rest :=
  ⟨h.at'.keep fun g hg' => hg.block g (h.at'.bd g hg').2 (fun e => h.no (by cases e; exact hg')), hr, h.no, h.lo, Nat.le_trans hl h.len⟩
theorem RdI.int {w : World} {base X R : Nat} {S : Nat → Prop} {l : List SeX} {n : Int} {rest : List UInt8} (h : RdI w base X R S l (seI n ++ rest)) (hn : okI n) :
    Calls Try.prog 41 #[.pointer (some ⟨R, 0, none⟩)] w (RdP w base X R S l rest (.int .i64 n)) :=
  (readI R n hn.1 hn.2 rest (by have := h.len; unfold seI at this; omega) w h.rd).mono fun e w' ⟨he, hr, hg⟩ => ⟨he, h.next hr hg (by rw [List.length_append]; omega), hg⟩
theorem RdI.u64 {w : World} {base X R : Nat} {S : Nat → Prop} {l : List SeX} {n : Nat} {rest : List UInt8} (h : RdI w base X R S l (enc n ++ rest)) (hn : n < 18446744073709551616) :
    Calls Try.prog 58 #[.pointer (some ⟨R, 0, none⟩)] w (RdP w base X R S l rest (.int .u64 n)) :=
  (readU R n hn rest (by have := h.len; omega) w h.rd).mono fun e w' ⟨he, hr, hg⟩ => ⟨he, h.next hr hg (by rw [List.length_append]; omega), hg⟩
end Go.Proofs.Ythokbififjhflaa
