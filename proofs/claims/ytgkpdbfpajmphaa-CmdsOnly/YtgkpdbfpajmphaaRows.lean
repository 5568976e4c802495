/-
  No cell of these rows narrows 'for every input' (looked for: loops, veiled, ifaces, maps, wideKeys, modest, calm, conditions, laid).
  DERIVED. THE GIVEN ROWS OF THIS SEAT. 4 by the template 'for every input the law returns true; each argument reads behind the call as it read before'; 0 by the template 'total and deterministic' (their statements: YtgkpdbfpajmphaaTotals.lean).
  GIVEN WITH THE SEED: the statements are not yours to turn. If you find one false, say at which input.
  Laid BY PROGRAM, IN A SANDBOX (cutbox-rows.mjs): the forced cells as the released guide's own fill.sh prints them over the translation f7dbe66c4d782544… (all of the seat's roots in one cut). By AI agents, Wed Nov 11 2026. No macro, syntax, notation, axiom, sorry.
-/
import Derived.Test.YtgkpdbfpajmphaaChecked
import GoSem.Claim
import GoSem.ClaimJoined
import GoSem.ClaimMapViews
import Derived.JoinedTies
import Derived.KernelRfl
namespace Go.Proofs.Ytgkpdbfpajmphaa
/- THE CELL 'sum', in the pinned program and in every row, IS THE sha256 OF THE DUMP (.gsa) THAT YtgkpdbfpajmphaaProg.lean LOADS. Nothing in Lean hashes anything: it is a label: what it is worth is what the hold of that sum in a sandbox is worth. -/
noncomputable def Try.pinned : Pinned := { name := "ytgkpdbfpajmphaa", sum := "f7dbe66c4d782544df7a2ad62934dd80ffb4e51e02497b26a5dd79b919ffad65", checked := Try.checked }
namespace Rows
def none {H : Type} : Left H := { results := [], args := [] }

/-- 'latchkeylaw03.CmdsEncodes': WHATEVER THE INPUT: true; the input reads as it did. -/
def cmdsEncodesSpec : ChangeSpec := { name := "cmdsEncodes", fn := fun _ => fun
  | [d] => { results := [.lit (.bool true)], args := [d] }
  | _ => none }
def cmdsEncodesRow : OpenClaim := { program := "ytgkpdbfpajmphaa", sum := "f7dbe66c4d782544df7a2ad62934dd80ffb4e51e02497b26a5dd79b919ffad65", func := "latchkey/latchkeylaw03.CmdsEncodes", spec := "cmdsEncodes", apart := false }
def CmdsEncodesSaid : Prop := cmdsEncodesRow.holds Try.pinned (OpenSpec.ofChange cmdsEncodesSpec)

/-- ITS FALSE NEIGHBOUR: 'it returns false'. Refute it at one input. -/
def cmdsEncodesWrong : ChangeSpec := { name := "cmdsEncodes", fn := fun _ => fun
  | [d] => { results := [.lit (.bool false)], args := [d] }
  | _ => none }
def CmdsEncodesWrongFalsely : Prop := cmdsEncodesRow.holds Try.pinned (OpenSpec.ofChange cmdsEncodesWrong)

/-- 'latchkeylaw03.CmdsDecodes': WHATEVER THE INPUT: true; the input reads as it did. -/
def cmdsDecodesSpec : ChangeSpec := { name := "cmdsDecodes", fn := fun _ => fun
  | [d] => { results := [.lit (.bool true)], args := [d] }
  | _ => none }
def cmdsDecodesRow : OpenClaim := { program := "ytgkpdbfpajmphaa", sum := "f7dbe66c4d782544df7a2ad62934dd80ffb4e51e02497b26a5dd79b919ffad65", func := "latchkey/latchkeylaw03.CmdsDecodes", spec := "cmdsDecodes", apart := false }
def CmdsDecodesSaid : Prop := cmdsDecodesRow.holds Try.pinned (OpenSpec.ofChange cmdsDecodesSpec)

/-- ITS FALSE NEIGHBOUR: 'it returns false'. Refute it at one input. -/
def cmdsDecodesWrong : ChangeSpec := { name := "cmdsDecodes", fn := fun _ => fun
  | [d] => { results := [.lit (.bool false)], args := [d] }
  | _ => none }
def CmdsDecodesWrongFalsely : Prop := cmdsDecodesRow.holds Try.pinned (OpenSpec.ofChange cmdsDecodesWrong)

/-- 'latchkeylaw03.CmdsBack': WHATEVER THE INPUT: true; the input reads as it did. -/
def cmdsBackSpec : ChangeSpec := { name := "cmdsBack", fn := fun _ => fun
  | [d1, d2] => { results := [.lit (.bool true)], args := [d1, d2] }
  | _ => none }
def cmdsBackRow : OpenClaim := { program := "ytgkpdbfpajmphaa", sum := "f7dbe66c4d782544df7a2ad62934dd80ffb4e51e02497b26a5dd79b919ffad65", func := "latchkey/latchkeylaw03.CmdsBack", spec := "cmdsBack", apart := false }
def CmdsBackSaid : Prop := cmdsBackRow.holds Try.pinned (OpenSpec.ofChange cmdsBackSpec)

/-- ITS FALSE NEIGHBOUR: 'it returns false'. Refute it at one input. -/
def cmdsBackWrong : ChangeSpec := { name := "cmdsBack", fn := fun _ => fun
  | [d1, d2] => { results := [.lit (.bool false)], args := [d1, d2] }
  | _ => none }
def CmdsBackWrongFalsely : Prop := cmdsBackRow.holds Try.pinned (OpenSpec.ofChange cmdsBackWrong)

/-- 'latchkeylaw03.CmdsOnly': WHATEVER THE INPUT: true; the input reads as it did. -/
def cmdsOnlySpec : ChangeSpec := { name := "cmdsOnly", fn := fun _ => fun
  | [d1, d2] => { results := [.lit (.bool true)], args := [d1, d2] }
  | _ => none }
def cmdsOnlyRow : OpenClaim := { program := "ytgkpdbfpajmphaa", sum := "f7dbe66c4d782544df7a2ad62934dd80ffb4e51e02497b26a5dd79b919ffad65", func := "latchkey/latchkeylaw03.CmdsOnly", spec := "cmdsOnly", apart := false }
def CmdsOnlySaid : Prop := cmdsOnlyRow.holds Try.pinned (OpenSpec.ofChange cmdsOnlySpec)

/-- ITS FALSE NEIGHBOUR: 'it returns false'. Refute it at one input. -/
def cmdsOnlyWrong : ChangeSpec := { name := "cmdsOnly", fn := fun _ => fun
  | [d1, d2] => { results := [.lit (.bool false)], args := [d1, d2] }
  | _ => none }
def CmdsOnlyWrongFalsely : Prop := cmdsOnlyRow.holds Try.pinned (OpenSpec.ofChange cmdsOnlyWrong)

/- THE SECOND FORM. 'bulk': how many values and letters a reading holds, each counted each time it is reached (what is shared counts as often as it is met; a slice's spare places count too). A statement '..UptoSaid' is the law's where the arguments, and the package variables that the reading takes, are together of bulk at most 1048576: NARROWER than '..Said'. Prove '..Said' where nothing that the law and all that it calls make is longer than what came in: it says more and counts as full. Else prove '..UptoSaid'. A law counts once. -/
mutual
def uptoBulk {H : Type} : DataW H → Nat
  | .lit (.string bytes) => bytes.length + 1
  | .lit _ => 1
  | .nil => 1
  | .ptr d => uptoBulk d + 1
  | .slice elems spare => uptoBulkAll elems + uptoBulkAll spare + 1
  | .agg parts => uptoBulkAll parts + 1
  | .iface _ d => uptoBulk d + 1
  | .map entries => uptoBulkEntries entries + 1
  | .held _ => 1
def uptoBulkAll {H : Type} : List (DataW H) → Nat
  | [] => 0
  | d :: r => uptoBulk d + uptoBulkAll r
def uptoBulkEntries {H : Type} : List (Lit × DataW H) → Nat
  | [] => 0
  | x :: r => uptoBulkEntry x + uptoBulkEntries r
def uptoBulkEntry {H : Type} : Lit × DataW H → Nat
  | (.string bytes, d) => bytes.length + uptoBulk d + 1
  | (_, d) => uptoBulk d + 1
 end
def uptoSmall : (H : Type) → List (DataW H) → Bool := fun _ ds => decide (uptoBulkAll ds ≤ 1048576)
def OpenSpec.upto (s : _root_.Go.ChangeSpec) : _root_.Go.OpenSpec := { _root_.Go.OpenSpec.ofChange s with cond := some uptoSmall }

/-- 'latchkeylaw03.CmdsEncodes', WHERE WHAT IT READS IS OF BULK AT MOST 1048576: true; the input reads as it did. -/
def cmdsEncodesUptoRow : OpenClaim := { program := "ytgkpdbfpajmphaa", sum := "f7dbe66c4d782544df7a2ad62934dd80ffb4e51e02497b26a5dd79b919ffad65", func := "latchkey/latchkeylaw03.CmdsEncodes", spec := "cmdsEncodes", apart := false, narrowed := true }
def CmdsEncodesUptoSaid : Prop := cmdsEncodesUptoRow.holds Try.pinned (OpenSpec.upto cmdsEncodesSpec)

/-- 'latchkeylaw03.CmdsDecodes', WHERE WHAT IT READS IS OF BULK AT MOST 1048576: true; the input reads as it did. -/
def cmdsDecodesUptoRow : OpenClaim := { program := "ytgkpdbfpajmphaa", sum := "f7dbe66c4d782544df7a2ad62934dd80ffb4e51e02497b26a5dd79b919ffad65", func := "latchkey/latchkeylaw03.CmdsDecodes", spec := "cmdsDecodes", apart := false, narrowed := true }
def CmdsDecodesUptoSaid : Prop := cmdsDecodesUptoRow.holds Try.pinned (OpenSpec.upto cmdsDecodesSpec)

/-- 'latchkeylaw03.CmdsBack', WHERE WHAT IT READS IS OF BULK AT MOST 1048576: true; the input reads as it did. -/
def cmdsBackUptoRow : OpenClaim := { program := "ytgkpdbfpajmphaa", sum := "f7dbe66c4d782544df7a2ad62934dd80ffb4e51e02497b26a5dd79b919ffad65", func := "latchkey/latchkeylaw03.CmdsBack", spec := "cmdsBack", apart := false, narrowed := true }
def CmdsBackUptoSaid : Prop := cmdsBackUptoRow.holds Try.pinned (OpenSpec.upto cmdsBackSpec)

/-- 'latchkeylaw03.CmdsOnly', WHERE WHAT IT READS IS OF BULK AT MOST 1048576: true; the input reads as it did. -/
def cmdsOnlyUptoRow : OpenClaim := { program := "ytgkpdbfpajmphaa", sum := "f7dbe66c4d782544df7a2ad62934dd80ffb4e51e02497b26a5dd79b919ffad65", func := "latchkey/latchkeylaw03.CmdsOnly", spec := "cmdsOnly", apart := false, narrowed := true }
def CmdsOnlyUptoSaid : Prop := cmdsOnlyUptoRow.holds Try.pinned (OpenSpec.upto cmdsOnlySpec)

end Rows
end Go.Proofs.Ytgkpdbfpajmphaa
