/-
  No cell of these rows narrows 'for every input' (looked for: loops, veiled, ifaces, maps, wideKeys, modest, calm, conditions, laid).
  DERIVED. THE GIVEN ROWS OF THIS SEAT. 5 by the template 'for every input the law returns true; each argument reads behind the call as it read before'; 0 by the template 'total and deterministic' (their statements: YtcjmohfglggonaaTotals.lean).
  GIVEN WITH THE SEED: the statements are not yours to turn. If you find one false, say at which input.
  Laid BY PROGRAM, IN A SANDBOX (cutbox-rows.mjs): the forced cells as the released guide's own fill.sh prints them over the translation 3f26ebf32a03f905… (all of the seat's roots in one cut). By AI agents, Wed Nov 11 2026. No macro, syntax, notation, axiom, sorry.
-/
import Derived.Test.YtcjmohfglggonaaChecked
import GoSem.Claim
import GoSem.ClaimJoined
import GoSem.ClaimMapViews
import Derived.JoinedTies
import Derived.KernelRfl
namespace Go.Proofs.Ytcjmohfglggonaa
/- THE CELL 'sum', in the pinned program and in every row, IS THE sha256 OF THE DUMP (.gsa) THAT YtcjmohfglggonaaProg.lean LOADS. Nothing in Lean hashes anything: it is a label: what it is worth is what the hold of that sum in a sandbox is worth. -/
noncomputable def Try.pinned : Pinned := { name := "ytcjmohfglggonaa", sum := "3f26ebf32a03f905139a3b1e6e89e9481253dec5b30a9fa80e00dc0d74877c1c", checked := Try.checked }
namespace Rows
def none {H : Type} : Left H := { results := [], args := [] }

/-- 'latchkeylaw09.LgroupPlays': WHATEVER THE INPUT: true; the input reads as it did. -/
def lgroupPlaysSpec : ChangeSpec := { name := "lgroupPlays", fn := fun _ => fun
  | [d] => { results := [.lit (.bool true)], args := [d] }
  | _ => none }
def lgroupPlaysRow : OpenClaim := { program := "ytcjmohfglggonaa", sum := "3f26ebf32a03f905139a3b1e6e89e9481253dec5b30a9fa80e00dc0d74877c1c", func := "latchkey/latchkeylaw09.LgroupPlays", spec := "lgroupPlays", apart := false }
def LgroupPlaysSaid : Prop := lgroupPlaysRow.holds Try.pinned (OpenSpec.ofChange lgroupPlaysSpec)

/-- ITS FALSE NEIGHBOUR: 'it returns false'. Refute it at one input. -/
def lgroupPlaysWrong : ChangeSpec := { name := "lgroupPlays", fn := fun _ => fun
  | [d] => { results := [.lit (.bool false)], args := [d] }
  | _ => none }
def LgroupPlaysWrongFalsely : Prop := lgroupPlaysRow.holds Try.pinned (OpenSpec.ofChange lgroupPlaysWrong)

/-- 'latchkeylaw09.LgroupOnces': WHATEVER THE INPUT: true; the input reads as it did. -/
def lgroupOncesSpec : ChangeSpec := { name := "lgroupOnces", fn := fun _ => fun
  | [d] => { results := [.lit (.bool true)], args := [d] }
  | _ => none }
def lgroupOncesRow : OpenClaim := { program := "ytcjmohfglggonaa", sum := "3f26ebf32a03f905139a3b1e6e89e9481253dec5b30a9fa80e00dc0d74877c1c", func := "latchkey/latchkeylaw09.LgroupOnces", spec := "lgroupOnces", apart := false }
def LgroupOncesSaid : Prop := lgroupOncesRow.holds Try.pinned (OpenSpec.ofChange lgroupOncesSpec)

/-- ITS FALSE NEIGHBOUR: 'it returns false'. Refute it at one input. -/
def lgroupOncesWrong : ChangeSpec := { name := "lgroupOnces", fn := fun _ => fun
  | [d] => { results := [.lit (.bool false)], args := [d] }
  | _ => none }
def LgroupOncesWrongFalsely : Prop := lgroupOncesRow.holds Try.pinned (OpenSpec.ofChange lgroupOncesWrong)

/-- 'latchkeylaw09.LgroupZero': WHATEVER THE INPUT: true; the input reads as it did. -/
def lgroupZeroSpec : ChangeSpec := { name := "lgroupZero", fn := fun _ => fun
  | [d] => { results := [.lit (.bool true)], args := [d] }
  | _ => none }
def lgroupZeroRow : OpenClaim := { program := "ytcjmohfglggonaa", sum := "3f26ebf32a03f905139a3b1e6e89e9481253dec5b30a9fa80e00dc0d74877c1c", func := "latchkey/latchkeylaw09.LgroupZero", spec := "lgroupZero", apart := false }
def LgroupZeroSaid : Prop := lgroupZeroRow.holds Try.pinned (OpenSpec.ofChange lgroupZeroSpec)

/-- ITS FALSE NEIGHBOUR: 'it returns false'. Refute it at one input. -/
def lgroupZeroWrong : ChangeSpec := { name := "lgroupZero", fn := fun _ => fun
  | [d] => { results := [.lit (.bool false)], args := [d] }
  | _ => none }
def LgroupZeroWrongFalsely : Prop := lgroupZeroRow.holds Try.pinned (OpenSpec.ofChange lgroupZeroWrong)

/-- 'latchkeylaw09.LgroupAlone': WHATEVER THE INPUT: true; the input reads as it did. -/
def lgroupAloneSpec : ChangeSpec := { name := "lgroupAlone", fn := fun _ => fun
  | [d] => { results := [.lit (.bool true)], args := [d] }
  | _ => none }
def lgroupAloneRow : OpenClaim := { program := "ytcjmohfglggonaa", sum := "3f26ebf32a03f905139a3b1e6e89e9481253dec5b30a9fa80e00dc0d74877c1c", func := "latchkey/latchkeylaw09.LgroupAlone", spec := "lgroupAlone", apart := false }
def LgroupAloneSaid : Prop := lgroupAloneRow.holds Try.pinned (OpenSpec.ofChange lgroupAloneSpec)

/-- ITS FALSE NEIGHBOUR: 'it returns false'. Refute it at one input. -/
def lgroupAloneWrong : ChangeSpec := { name := "lgroupAlone", fn := fun _ => fun
  | [d] => { results := [.lit (.bool false)], args := [d] }
  | _ => none }
def LgroupAloneWrongFalsely : Prop := lgroupAloneRow.holds Try.pinned (OpenSpec.ofChange lgroupAloneWrong)

/-- 'latchkeylaw09.LgroupNone': WHATEVER THE INPUT: true; the input reads as it did. -/
def lgroupNoneSpec : ChangeSpec := { name := "lgroupNone", fn := fun _ => fun
  | [d] => { results := [.lit (.bool true)], args := [d] }
  | _ => none }
def lgroupNoneRow : OpenClaim := { program := "ytcjmohfglggonaa", sum := "3f26ebf32a03f905139a3b1e6e89e9481253dec5b30a9fa80e00dc0d74877c1c", func := "latchkey/latchkeylaw09.LgroupNone", spec := "lgroupNone", apart := false }
def LgroupNoneSaid : Prop := lgroupNoneRow.holds Try.pinned (OpenSpec.ofChange lgroupNoneSpec)

/-- ITS FALSE NEIGHBOUR: 'it returns false'. Refute it at one input. -/
def lgroupNoneWrong : ChangeSpec := { name := "lgroupNone", fn := fun _ => fun
  | [d] => { results := [.lit (.bool false)], args := [d] }
  | _ => none }
def LgroupNoneWrongFalsely : Prop := lgroupNoneRow.holds Try.pinned (OpenSpec.ofChange lgroupNoneWrong)

/- THE SECOND FORM. 'bulk': how many values and letters a reading holds, each counted each time it is reached (what is shared counts as often as it is met; a slice's spare places count too). A statement '..UptoSaid' is the law's where the arguments, and the package variables that the reading takes, are together of bulk at most 1048576: NARROWER than '..Said'. Prove '..Said' where nothing that the law and all that it calls make is longer than what came in: it says more and counts as full. Else prove '..UptoSaid'. A law counts once. -/
mutual
def uptoBulk {H : Type} : DataW H → Nat
  | .lit (.string bytes) => bytes.length + 1
  | .lit _ => 1
  | .nil => 1
  | .ptr d => uptoBulk d + 1
  | .slice elems spare => uptoBulkAll elems + uptoBulkAll spare + 1
  | .agg parts => uptoBulkAll parts + 1
  | .iface _ d => uptoBulk d + 1
  | .map entries => uptoBulkEntries entries + 1
  | .held _ => 1
def uptoBulkAll {H : Type} : List (DataW H) → Nat
  | [] => 0
  | d :: r => uptoBulk d + uptoBulkAll r
def uptoBulkEntries {H : Type} : List (Lit × DataW H) → Nat
  | [] => 0
  | x :: r => uptoBulkEntry x + uptoBulkEntries r
def uptoBulkEntry {H : Type} : Lit × DataW H → Nat
  | (.string bytes, d) => bytes.length + uptoBulk d + 1
  | (_, d) => uptoBulk d + 1
 end
def uptoSmall : (H : Type) → List (DataW H) → Bool := fun _ ds => decide (uptoBulkAll ds ≤ 1048576)
def OpenSpec.upto (s : _root_.Go.ChangeSpec) : _root_.Go.OpenSpec := { _root_.Go.OpenSpec.ofChange s with cond := some uptoSmall }

/-- 'latchkeylaw09.LgroupPlays', WHERE WHAT IT READS IS OF BULK AT MOST 1048576: true; the input reads as it did. -/
def lgroupPlaysUptoRow : OpenClaim := { program := "ytcjmohfglggonaa", sum := "3f26ebf32a03f905139a3b1e6e89e9481253dec5b30a9fa80e00dc0d74877c1c", func := "latchkey/latchkeylaw09.LgroupPlays", spec := "lgroupPlays", apart := false, narrowed := true }
def LgroupPlaysUptoSaid : Prop := lgroupPlaysUptoRow.holds Try.pinned (OpenSpec.upto lgroupPlaysSpec)

/-- 'latchkeylaw09.LgroupOnces', WHERE WHAT IT READS IS OF BULK AT MOST 1048576: true; the input reads as it did. -/
def lgroupOncesUptoRow : OpenClaim := { program := "ytcjmohfglggonaa", sum := "3f26ebf32a03f905139a3b1e6e89e9481253dec5b30a9fa80e00dc0d74877c1c", func := "latchkey/latchkeylaw09.LgroupOnces", spec := "lgroupOnces", apart := false, narrowed := true }
def LgroupOncesUptoSaid : Prop := lgroupOncesUptoRow.holds Try.pinned (OpenSpec.upto lgroupOncesSpec)

/-- 'latchkeylaw09.LgroupZero', WHERE WHAT IT READS IS OF BULK AT MOST 1048576: true; the input reads as it did. -/
def lgroupZeroUptoRow : OpenClaim := { program := "ytcjmohfglggonaa", sum := "3f26ebf32a03f905139a3b1e6e89e9481253dec5b30a9fa80e00dc0d74877c1c", func := "latchkey/latchkeylaw09.LgroupZero", spec := "lgroupZero", apart := false, narrowed := true }
def LgroupZeroUptoSaid : Prop := lgroupZeroUptoRow.holds Try.pinned (OpenSpec.upto lgroupZeroSpec)

/-- 'latchkeylaw09.LgroupAlone', WHERE WHAT IT READS IS OF BULK AT MOST 1048576: true; the input reads as it did. -/
def lgroupAloneUptoRow : OpenClaim := { program := "ytcjmohfglggonaa", sum := "3f26ebf32a03f905139a3b1e6e89e9481253dec5b30a9fa80e00dc0d74877c1c", func := "latchkey/latchkeylaw09.LgroupAlone", spec := "lgroupAlone", apart := false, narrowed := true }
def LgroupAloneUptoSaid : Prop := lgroupAloneUptoRow.holds Try.pinned (OpenSpec.upto lgroupAloneSpec)

/-- 'latchkeylaw09.LgroupNone', WHERE WHAT IT READS IS OF BULK AT MOST 1048576: true; the input reads as it did. -/
def lgroupNoneUptoRow : OpenClaim := { program := "ytcjmohfglggonaa", sum := "3f26ebf32a03f905139a3b1e6e89e9481253dec5b30a9fa80e00dc0d74877c1c", func := "latchkey/latchkeylaw09.LgroupNone", spec := "lgroupNone", apart := false, narrowed := true }
def LgroupNoneUptoSaid : Prop := lgroupNoneUptoRow.holds Try.pinned (OpenSpec.upto lgroupNoneSpec)

end Rows
end Go.Proofs.Ytcjmohfglggonaa
