/-
  No cell of these rows narrows 'for every input' (looked for: loops, veiled, ifaces, maps, wideKeys, modest, calm, conditions, laid).
  DERIVED. THE GIVEN ROWS OF THIS SEAT. 5 by the template 'for every input the law returns true; each argument reads behind the call as it read before'; 0 by the template 'total and deterministic' (their statements: YtlcacjekpdmigaaTotals.lean).
  GIVEN WITH THE SEED: the statements are not yours to turn. If you find one false, say at which input.
  Laid BY PROGRAM, IN A SANDBOX (cutbox-rows.mjs): the forced cells as the released guide's own fill.sh prints them over the translation 6aac099038a64bc4… (all of the seat's roots in one cut). By AI agents, Wed Nov 11 2026. No macro, syntax, notation, axiom, sorry.
-/
import Derived.Test.YtlcacjekpdmigaaChecked
import GoSem.Claim
import GoSem.ClaimJoined
import GoSem.ClaimMapViews
import Derived.JoinedTies
import Derived.KernelRfl
namespace Go.Proofs.Ytlcacjekpdmigaa
/- THE CELL 'sum', in the pinned program and in every row, IS THE sha256 OF THE DUMP (.gsa) THAT YtlcacjekpdmigaaProg.lean LOADS. Nothing in Lean hashes anything: it is a label: what it is worth is what the hold of that sum in a sandbox is worth. -/
noncomputable def Try.pinned : Pinned := { name := "ytlcacjekpdmigaa", sum := "6aac099038a64bc40c68141da546d0087f0efb681c005a7527e82001c6ff8566", checked := Try.checked }
namespace Rows
def none {H : Type} : Left H := { results := [], args := [] }

/-- 'latchkeylaw08.LmutexPlays': WHATEVER THE INPUT: true; the input reads as it did. -/
def lmutexPlaysSpec : ChangeSpec := { name := "lmutexPlays", fn := fun _ => fun
  | [d] => { results := [.lit (.bool true)], args := [d] }
  | _ => none }
def lmutexPlaysRow : OpenClaim := { program := "ytlcacjekpdmigaa", sum := "6aac099038a64bc40c68141da546d0087f0efb681c005a7527e82001c6ff8566", func := "latchkey/latchkeylaw08.LmutexPlays", spec := "lmutexPlays", unfollowed := true, recurses := true, apart := false }
def LmutexPlaysSaid : Prop := lmutexPlaysRow.holds Try.pinned (OpenSpec.ofChange lmutexPlaysSpec)

/-- ITS FALSE NEIGHBOUR: 'it returns false'. Refute it at one input. -/
def lmutexPlaysWrong : ChangeSpec := { name := "lmutexPlays", fn := fun _ => fun
  | [d] => { results := [.lit (.bool false)], args := [d] }
  | _ => none }
def LmutexPlaysWrongFalsely : Prop := lmutexPlaysRow.holds Try.pinned (OpenSpec.ofChange lmutexPlaysWrong)

/-- 'latchkeylaw08.LmutexRWPlays': WHATEVER THE INPUT: true; the input reads as it did. -/
def lmutexRWPlaysSpec : ChangeSpec := { name := "lmutexRWPlays", fn := fun _ => fun
  | [d] => { results := [.lit (.bool true)], args := [d] }
  | _ => none }
def lmutexRWPlaysRow : OpenClaim := { program := "ytlcacjekpdmigaa", sum := "6aac099038a64bc40c68141da546d0087f0efb681c005a7527e82001c6ff8566", func := "latchkey/latchkeylaw08.LmutexRWPlays", spec := "lmutexRWPlays", unfollowed := true, recurses := true, apart := false }
def LmutexRWPlaysSaid : Prop := lmutexRWPlaysRow.holds Try.pinned (OpenSpec.ofChange lmutexRWPlaysSpec)

/-- ITS FALSE NEIGHBOUR: 'it returns false'. Refute it at one input. -/
def lmutexRWPlaysWrong : ChangeSpec := { name := "lmutexRWPlays", fn := fun _ => fun
  | [d] => { results := [.lit (.bool false)], args := [d] }
  | _ => none }
def LmutexRWPlaysWrongFalsely : Prop := lmutexRWPlaysRow.holds Try.pinned (OpenSpec.ofChange lmutexRWPlaysWrong)

/-- 'latchkeylaw08.LmutexOrder': WHATEVER THE INPUT: true; the input reads as it did. -/
def lmutexOrderSpec : ChangeSpec := { name := "lmutexOrder", fn := fun _ => fun
  | [d] => { results := [.lit (.bool true)], args := [d] }
  | _ => none }
def lmutexOrderRow : OpenClaim := { program := "ytlcacjekpdmigaa", sum := "6aac099038a64bc40c68141da546d0087f0efb681c005a7527e82001c6ff8566", func := "latchkey/latchkeylaw08.LmutexOrder", spec := "lmutexOrder", unfollowed := true, recurses := true, apart := false }
def LmutexOrderSaid : Prop := lmutexOrderRow.holds Try.pinned (OpenSpec.ofChange lmutexOrderSpec)

/-- ITS FALSE NEIGHBOUR: 'it returns false'. Refute it at one input. -/
def lmutexOrderWrong : ChangeSpec := { name := "lmutexOrder", fn := fun _ => fun
  | [d] => { results := [.lit (.bool false)], args := [d] }
  | _ => none }
def LmutexOrderWrongFalsely : Prop := lmutexOrderRow.holds Try.pinned (OpenSpec.ofChange lmutexOrderWrong)

/-- 'latchkeylaw08.LmutexFair': WHATEVER THE INPUT: true; the input reads as it did. -/
def lmutexFairSpec : ChangeSpec := { name := "lmutexFair", fn := fun _ => fun
  | [d] => { results := [.lit (.bool true)], args := [d] }
  | _ => none }
def lmutexFairRow : OpenClaim := { program := "ytlcacjekpdmigaa", sum := "6aac099038a64bc40c68141da546d0087f0efb681c005a7527e82001c6ff8566", func := "latchkey/latchkeylaw08.LmutexFair", spec := "lmutexFair", unfollowed := true, recurses := true, apart := false }
def LmutexFairSaid : Prop := lmutexFairRow.holds Try.pinned (OpenSpec.ofChange lmutexFairSpec)

/-- ITS FALSE NEIGHBOUR: 'it returns false'. Refute it at one input. -/
def lmutexFairWrong : ChangeSpec := { name := "lmutexFair", fn := fun _ => fun
  | [d] => { results := [.lit (.bool false)], args := [d] }
  | _ => none }
def LmutexFairWrongFalsely : Prop := lmutexFairRow.holds Try.pinned (OpenSpec.ofChange lmutexFairWrong)

/-- 'latchkeylaw08.LmutexNone': WHATEVER THE INPUT: true; the input reads as it did. -/
def lmutexNoneSpec : ChangeSpec := { name := "lmutexNone", fn := fun _ => fun
  | [d] => { results := [.lit (.bool true)], args := [d] }
  | _ => none }
def lmutexNoneRow : OpenClaim := { program := "ytlcacjekpdmigaa", sum := "6aac099038a64bc40c68141da546d0087f0efb681c005a7527e82001c6ff8566", func := "latchkey/latchkeylaw08.LmutexNone", spec := "lmutexNone", unfollowed := true, recurses := true, apart := false }
def LmutexNoneSaid : Prop := lmutexNoneRow.holds Try.pinned (OpenSpec.ofChange lmutexNoneSpec)

/-- ITS FALSE NEIGHBOUR: 'it returns false'. Refute it at one input. -/
def lmutexNoneWrong : ChangeSpec := { name := "lmutexNone", fn := fun _ => fun
  | [d] => { results := [.lit (.bool false)], args := [d] }
  | _ => none }
def LmutexNoneWrongFalsely : Prop := lmutexNoneRow.holds Try.pinned (OpenSpec.ofChange lmutexNoneWrong)

/- THE SECOND FORM. 'bulk': how many values and letters a reading holds, each counted each time it is reached (what is shared counts as often as it is met; a slice's spare places count too). A statement '..UptoSaid' is the law's where the arguments, and the package variables that the reading takes, are together of bulk at most 1048576: NARROWER than '..Said'. Prove '..Said' where nothing that the law and all that it calls make is longer than what came in: it says more and counts as full. Else prove '..UptoSaid'. A law counts once. -/
mutual
def uptoBulk {H : Type} : DataW H → Nat
  | .lit (.string bytes) => bytes.length + 1
  | .lit _ => 1
  | .nil => 1
  | .ptr d => uptoBulk d + 1
  | .slice elems spare => uptoBulkAll elems + uptoBulkAll spare + 1
  | .agg parts => uptoBulkAll parts + 1
  | .iface _ d => uptoBulk d + 1
  | .map entries => uptoBulkEntries entries + 1
  | .held _ => 1
def uptoBulkAll {H : Type} : List (DataW H) → Nat
  | [] => 0
  | d :: r => uptoBulk d + uptoBulkAll r
def uptoBulkEntries {H : Type} : List (Lit × DataW H) → Nat
  | [] => 0
  | x :: r => uptoBulkEntry x + uptoBulkEntries r
def uptoBulkEntry {H : Type} : Lit × DataW H → Nat
  | (.string bytes, d) => bytes.length + uptoBulk d + 1
  | (_, d) => uptoBulk d + 1
 end
def uptoSmall : (H : Type) → List (DataW H) → Bool := fun _ ds => decide (uptoBulkAll ds ≤ 1048576)
def OpenSpec.upto (s : _root_.Go.ChangeSpec) : _root_.Go.OpenSpec := { _root_.Go.OpenSpec.ofChange s with cond := some uptoSmall }

/-- 'latchkeylaw08.LmutexPlays', WHERE WHAT IT READS IS OF BULK AT MOST 1048576: true; the input reads as it did. -/
def lmutexPlaysUptoRow : OpenClaim := { program := "ytlcacjekpdmigaa", sum := "6aac099038a64bc40c68141da546d0087f0efb681c005a7527e82001c6ff8566", func := "latchkey/latchkeylaw08.LmutexPlays", spec := "lmutexPlays", unfollowed := true, recurses := true, apart := false, narrowed := true }
def LmutexPlaysUptoSaid : Prop := lmutexPlaysUptoRow.holds Try.pinned (OpenSpec.upto lmutexPlaysSpec)

/-- 'latchkeylaw08.LmutexRWPlays', WHERE WHAT IT READS IS OF BULK AT MOST 1048576: true; the input reads as it did. -/
def lmutexRWPlaysUptoRow : OpenClaim := { program := "ytlcacjekpdmigaa", sum := "6aac099038a64bc40c68141da546d0087f0efb681c005a7527e82001c6ff8566", func := "latchkey/latchkeylaw08.LmutexRWPlays", spec := "lmutexRWPlays", unfollowed := true, recurses := true, apart := false, narrowed := true }
def LmutexRWPlaysUptoSaid : Prop := lmutexRWPlaysUptoRow.holds Try.pinned (OpenSpec.upto lmutexRWPlaysSpec)

/-- 'latchkeylaw08.LmutexOrder', WHERE WHAT IT READS IS OF BULK AT MOST 1048576: true; the input reads as it did. -/
def lmutexOrderUptoRow : OpenClaim := { program := "ytlcacjekpdmigaa", sum := "6aac099038a64bc40c68141da546d0087f0efb681c005a7527e82001c6ff8566", func := "latchkey/latchkeylaw08.LmutexOrder", spec := "lmutexOrder", unfollowed := true, recurses := true, apart := false, narrowed := true }
def LmutexOrderUptoSaid : Prop := lmutexOrderUptoRow.holds Try.pinned (OpenSpec.upto lmutexOrderSpec)

/-- 'latchkeylaw08.LmutexFair', WHERE WHAT IT READS IS OF BULK AT MOST 1048576: true; the input reads as it did. -/
def lmutexFairUptoRow : OpenClaim := { program := "ytlcacjekpdmigaa", sum := "6aac099038a64bc40c68141da546d0087f0efb681c005a7527e82001c6ff8566", func := "latchkey/latchkeylaw08.LmutexFair", spec := "lmutexFair", unfollowed := true, recurses := true, apart := false, narrowed := true }
def LmutexFairUptoSaid : Prop := lmutexFairUptoRow.holds Try.pinned (OpenSpec.upto lmutexFairSpec)

/-- 'latchkeylaw08.LmutexNone', WHERE WHAT IT READS IS OF BULK AT MOST 1048576: true; the input reads as it did. -/
def lmutexNoneUptoRow : OpenClaim := { program := "ytlcacjekpdmigaa", sum := "6aac099038a64bc40c68141da546d0087f0efb681c005a7527e82001c6ff8566", func := "latchkey/latchkeylaw08.LmutexNone", spec := "lmutexNone", unfollowed := true, recurses := true, apart := false, narrowed := true }
def LmutexNoneUptoSaid : Prop := lmutexNoneUptoRow.holds Try.pinned (OpenSpec.upto lmutexNoneSpec)

end Rows
end Go.Proofs.Ytlcacjekpdmigaa
