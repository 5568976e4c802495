/-
  Parts of the proof, laid together: FPlain, WlPlain, FRef, FRead, WlFour, WlEnc, WlFrames, WlRecs. The conditions stand at each part.
-/
import Derived.Lib.UnsafeStr
import Derived.Lib.Strings
import Derived.WalkKit
import Derived.WalkSpells
import Derived.Lib.BufferRead
import Derived.Lib.IndexBytes
import Derived.Lib.AppendStr
import Derived.Deep.AppendLies
import Derived.Deep.QuietTactic
import Derived.BigQuiet
import Derived.WalkSmall
import Derived.Handy
import Derived.Deep.RegionHeld3
import Derived.Test.YtkngpfngfmbmjaaProg
import Derived.Test.YtkngpfngfmbmjaaYPackA
import Derived.Test.YtkngpfngfmbmjaaYPackC
import Derived.Test.YtkngpfngfmbmjaaYPack5
/-
  The sum of a text (CRC-32, bit by bit) and frames, as plain functions on lists of bytes, and the facts on them that the walks and the laws need: a sum tells two texts apart that part at one byte; a table of 256 sums serves as well. No condition.
-/
namespace Go.Proofs.Ytkngpfngfmbmjaa

/-- One bit. -/
def bitStep (r : Nat) : Nat := if r % 2 = 1 then (r / 2) ^^^ 3988292384 else r / 2
/-- n bits. -/
def bitSteps : Nat → Nat → Nat
  | 0, r => r
  | n + 1, r => bitSteps n (bitStep r)
/-- One byte. -/
def crcStep (r b : Nat) : Nat := bitSteps 8 (r ^^^ b)
/-- The bytes of a text, from r on. -/
def crcFrom : Nat → List UInt8 → Nat
  | r, [] => r
  | r, b :: l => crcFrom (crcStep r b.toNat) l
/-- The sum of a text. -/
def crc (l : List UInt8) : Nat := 4294967295 - crcFrom 4294967295 l

/-! ### A table serves as well -/
/-! ### Four bytes, frames -/
/-- A number in four bytes. -/
def four (n : Nat) : List UInt8 := [UInt8.ofNat (n % 256), UInt8.ofNat (n / 256 % 256), UInt8.ofNat (n / 65536 % 256), UInt8.ofNat (n / 16777216 % 256)]
/-- The number of the four bytes at the front. -/
def num4 (l : List UInt8) : Nat := (l.getD 0 0).toNat + (l.getD 1 0).toNat * 256 + (l.getD 2 0).toNat * 65536 + (l.getD 3 0).toNat * 16777216
/-- The frame at the front: its text, its bytes, the error. -/
def firstOf (l : List UInt8) : List UInt8 × Nat × Nat :=
  if l.length < 8 then ([], 0, 4) else if 524288 < num4 l then ([], 0, 2) else if l.length - 8 < num4 l then ([], 0, 4)
  else if crc (l.take 4 ++ (l.drop 8).take (num4 l)) ≠ num4 (l.drop 4) then ([], 0, 3) else ((l.drop 8).take (num4 l), 8 + num4 l, 0)

end Go.Proofs.Ytkngpfngfmbmjaa
/-
  Records of a log as plain data: which may be, their bytes, bytes as a record; frames of records, the records of a text from its front on; the names of segments. No condition.
-/
namespace Go.Proofs.Ytkngpfngfmbmjaa

/-- A record. -/
structure Rc where
  kind : Int
  n : Int
  en : En
def Rc.zero : Rc := ⟨0, 0, En.zero⟩

/-- The entry all of whose fields are 0 and "". -/
def noE (e : En) : Bool := decide (e.slot = 0) && (decide (e.ballot = 0) && (decide (e.cmd.kind = 0) && (decide (e.cmd.session = 0) && (decide (e.cmd.seq = 0) && (decide (e.cmd.name.size = 0) && decide (e.cmd.n = 0))))))
/-- Which records may be. -/
def mayR (r : Rc) : Bool :=
  if r.kind = 1 then decide (1 ≤ r.n) && (decide (r.n ≤ 1099511627776) && noE r.en)
  else if r.kind = 2 then mayE r.en && (decide (r.n = 0) && decide (1 ≤ r.en.ballot))
  else false
/-- Eight bytes of a number. -/
def eight (n : Nat) : List UInt8 := four n ++ four (n / 4294967296)
/-- A record's bytes. -/
def encR (r : Rc) : List UInt8 := if r.kind = 1 then 1 :: eight r.n.toNat else 2 :: encE r.en
/-- The number of eight bytes, the last two left out (they are 0). -/
def num8 (l : List UInt8) : Nat := num4 l + num4 (l.drop 4) * 4294967296
/-- What bytes would say as a record. -/
def candR (l : List UInt8) : Rc :=
  if l.length = 9 ∧ l[0]? = some 1 ∧ l[8]? = some 0 ∧ l[7]? = some 0 then ⟨1, (num8 (l.drop 1) : Int), En.zero⟩
  else if l[0]? = some 2 then ⟨2, 0, (decET ⟨(l.drop 1).toArray⟩).1⟩ else Rc.zero
/-- Bytes as a record. -/
def decR (l : List UInt8) : Option Rc := if mayR (candR l) = true ∧ encR (candR l) = l then some (candR l) else none
/-! ### Frames of records, and the records of a text -/
/-- The records of a text, and how many bytes they have (f: how many there may be at the most). -/
def recsOf : Nat → List UInt8 → List Rc × Nat
  | 0, _ => ([], 0)
  | f + 1, l =>
    if (firstOf l).2.2 ≠ 0 then ([], 0) else
    match decR (firstOf l).1 with
    | none => ([], 0)
    | some r => (r :: (recsOf f (l.drop (firstOf l).2.1)).1, (firstOf l).2.1 + (recsOf f (l.drop (firstOf l).2.1)).2)
/-- All records of a text. -/
def recs (l : List UInt8) : List Rc × Nat := recsOf (l.length + 1) l
/-! ### A text's beginning is what was read of it -/
end Go.Proofs.Ytkngpfngfmbmjaa
/-
  The frames of records (package latchkeyref11). The conditions: the records lie in memory as their reading says, and are not more than 2^40.
-/
namespace Go.Proofs.Ytkngpfngfmbmjaa
open Go.RowKit

/-- A record's cells. -/
def rcC (r : Rc) : List Value := [.int .i64 r.kind, .int .i64 r.n, .int .i64 r.en.slot, .int .i64 r.en.ballot, .int .i64 r.en.cmd.kind, .int .i64 r.en.cmd.session, .int .i64 r.en.cmd.seq, .string r.en.cmd.name, .int .i64 r.en.cmd.n]
theorem rcC_len (r : Rc) : (rcC r).length = 9 := rfl
end Go.Proofs.Ytkngpfngfmbmjaa
/-
  Records compared, one by one (package latchkeyref11): the same ones. The conditions: both rows lie in memory as their reading says, and their length is an int.
-/
namespace Go.Proofs.Ytkngpfngfmbmjaa
open Go.RowKit

set_option maxHeartbeats 3200000 in
set_option maxRecDepth 100000 in
theorem rrecs_same (w : World) (va vb : Value) (l : List Rc) (ha : RowAt rcC w va l) (hb : RowAt rcC w vb l) (hl : l.length ≤ 1099511627776) :
    Calls Try.prog 19 #[va, vb] w fun e w' => e = .returned (.bool true) ∧ Below w.heap.size w w' := by
  obtain ⟨a1, cap1, rfl⟩ := ha.form
  obtain ⟨a2, cap2, rfl⟩ := hb.form
  go_enter Try.func19, Try.ntmps19
  go_wp2
  go_loopw [5] (fun i wr => ∃ k : Nat, k ≤ l.length ∧ i = .int .i64 (k : Int) ∧ Below w.heap.size w wr) (fun i _ => l.length - (intOf i).toNat)
  case atStart => exact ⟨0, Nat.zero_le _, rfl, Below.refl _ _⟩
  case round =>
    obtain ⟨k, hk, rfl, hbl⟩ := hrel
    by_cases hkl : k < l.length
    · have hd : decide ((k : Int) < (l.length : Int)) = true := decide_eq_true (by omega)
      obtain ⟨bk, off, cap', hvv, hcap, hbk, hc⟩ := (ha.fresh hbl).cells rcC_len (by omega)
      obtain ⟨bk2, off2, cap2', hvv2, hcap2, hbk2, hc2⟩ := (hb.fresh hbl).cells rcC_len (by omega)
      injection hvv with e1 e2 e3
      injection hvv2 with f1 f2 f3
      subst e1 e3 f1 f3
      obtain ⟨r, hr⟩ : ∃ r, r = l[k] := ⟨_, rfl⟩
      have z0 := hc k hkl 0 (.int .i64 r.kind) (by decide) (by rw [hr]; rfl)
      have z1 := hc k hkl 1 (.int .i64 r.n) (by decide) (by rw [hr]; rfl)
      have z2 := hc k hkl 2 (.int .i64 r.en.slot) (by decide) (by rw [hr]; rfl)
      have z3 := hc k hkl 3 (.int .i64 r.en.ballot) (by decide) (by rw [hr]; rfl)
      have z4 := hc k hkl 4 (.int .i64 r.en.cmd.kind) (by decide) (by rw [hr]; rfl)
      have z5 := hc k hkl 5 (.int .i64 r.en.cmd.session) (by decide) (by rw [hr]; rfl)
      have z6 := hc k hkl 6 (.int .i64 r.en.cmd.seq) (by decide) (by rw [hr]; rfl)
      have z7 := hc k hkl 7 (.string r.en.cmd.name) (by decide) (by rw [hr]; rfl)
      have z8 := hc k hkl 8 (.int .i64 r.en.cmd.n) (by decide) (by rw [hr]; rfl)
      rw [Nat.add_zero] at z0
      have y0 := hc2 k hkl 0 (.int .i64 r.kind) (by decide) (by rw [hr]; rfl)
      have y1 := hc2 k hkl 1 (.int .i64 r.n) (by decide) (by rw [hr]; rfl)
      have y2 := hc2 k hkl 2 (.int .i64 r.en.slot) (by decide) (by rw [hr]; rfl)
      have y3 := hc2 k hkl 3 (.int .i64 r.en.ballot) (by decide) (by rw [hr]; rfl)
      have y4 := hc2 k hkl 4 (.int .i64 r.en.cmd.kind) (by decide) (by rw [hr]; rfl)
      have y5 := hc2 k hkl 5 (.int .i64 r.en.cmd.session) (by decide) (by rw [hr]; rfl)
      have y6 := hc2 k hkl 6 (.int .i64 r.en.cmd.seq) (by decide) (by rw [hr]; rfl)
      have y7 := hc2 k hkl 7 (.string r.en.cmd.name) (by decide) (by rw [hr]; rfl)
      have y8 := hc2 k hkl 8 (.int .i64 r.en.cmd.n) (by decide) (by rw [hr]; rfl)
      rw [Nat.add_zero] at y0
      clear hr hc hc2
      go_wp2
      refine wp_region_held_drew (S := (fun w' : World => w'.cell? ⟨bk, off + k * 9, none⟩ = some (.int .i64 r.kind) ∧ w'.cell? ⟨bk, off + k * 9 + 1, none⟩ = some (.int .i64 r.n) ∧ w'.cell? ⟨bk, off + k * 9 + 2, none⟩ = some (.int .i64 r.en.slot) ∧ w'.cell? ⟨bk, off + k * 9 + 3, none⟩ = some (.int .i64 r.en.ballot) ∧ w'.cell? ⟨bk, off + k * 9 + 4, none⟩ = some (.int .i64 r.en.cmd.kind) ∧ w'.cell? ⟨bk, off + k * 9 + 5, none⟩ = some (.int .i64 r.en.cmd.session) ∧ w'.cell? ⟨bk, off + k * 9 + 6, none⟩ = some (.int .i64 r.en.cmd.seq) ∧ w'.cell? ⟨bk, off + k * 9 + 7, none⟩ = some (.string r.en.cmd.name) ∧ w'.cell? ⟨bk, off + k * 9 + 8, none⟩ = some (.int .i64 r.en.cmd.n) ∧ w'.cell? ⟨bk2, off2 + k * 9, none⟩ = some (.int .i64 r.kind) ∧ w'.cell? ⟨bk2, off2 + k * 9 + 1, none⟩ = some (.int .i64 r.n) ∧ w'.cell? ⟨bk2, off2 + k * 9 + 2, none⟩ = some (.int .i64 r.en.slot) ∧ w'.cell? ⟨bk2, off2 + k * 9 + 3, none⟩ = some (.int .i64 r.en.ballot) ∧ w'.cell? ⟨bk2, off2 + k * 9 + 4, none⟩ = some (.int .i64 r.en.cmd.kind) ∧ w'.cell? ⟨bk2, off2 + k * 9 + 5, none⟩ = some (.int .i64 r.en.cmd.session) ∧ w'.cell? ⟨bk2, off2 + k * 9 + 6, none⟩ = some (.int .i64 r.en.cmd.seq) ∧ w'.cell? ⟨bk2, off2 + k * 9 + 7, none⟩ = some (.string r.en.cmd.name) ∧ w'.cell? ⟨bk2, off2 + k * 9 + 8, none⟩ = some (.int .i64 r.en.cmd.n))) (by kernel_rfl) ?_ (fun hHeld0 => ?_)
      · (try dsimp only)
        go_keep
      refine tk0 (.slice (some ⟨bk, off, none⟩) l.length cap1) (by kernel_rfl) (by kernel_rfl) (by kernel_rfl) (fun _ _ _ h => h) rfl (fun w hSw => by (try dsimp only at hSw); obtain ⟨q0, q1, q2, q3, q4, q5, q6, q7, q8, q9, q10, q11, q12, q13, q14, q15, q16, q17⟩ := hSw; go_simp) (by assumption) ?_
      try simp only [Act.put, List.setIfInBounds_toArray, List.set_cons_zero, List.set_cons_succ]
      refine tk1 (.int .i64 (k : Int)) (by kernel_rfl) (by kernel_rfl) (by kernel_rfl) (fun _ _ _ h => h) rfl (fun w hSw => by (try dsimp only at hSw); obtain ⟨q0, q1, q2, q3, q4, q5, q6, q7, q8, q9, q10, q11, q12, q13, q14, q15, q16, q17⟩ := hSw; go_simp) (by assumption) ?_
      try simp only [Act.put, List.setIfInBounds_toArray, List.set_cons_zero, List.set_cons_succ]
      refine tk2 (.pointer (some ⟨bk, off + k * 9, none⟩)) (by kernel_rfl) (by kernel_rfl) (by kernel_rfl) (fun _ _ _ h => h) rfl (fun w hSw => by (try dsimp only at hSw); obtain ⟨q0, q1, q2, q3, q4, q5, q6, q7, q8, q9, q10, q11, q12, q13, q14, q15, q16, q17⟩ := hSw; go_simp) (by assumption) ?_
      try simp only [Act.put, List.setIfInBounds_toArray, List.set_cons_zero, List.set_cons_succ]
      refine tk3 (.agg #[.int .i64 r.kind, .int .i64 r.n, .int .i64 r.en.slot, .int .i64 r.en.ballot, .int .i64 r.en.cmd.kind, .int .i64 r.en.cmd.session, .int .i64 r.en.cmd.seq, .string r.en.cmd.name, .int .i64 r.en.cmd.n]) (by kernel_rfl) (by kernel_rfl) (by kernel_rfl) (fun _ _ _ h => h) rfl (fun w hSw => by (try dsimp only at hSw); obtain ⟨q0, q1, q2, q3, q4, q5, q6, q7, q8, q9, q10, q11, q12, q13, q14, q15, q16, q17⟩ := hSw; go_simp) (by assumption) ?_
      try simp only [Act.put, List.setIfInBounds_toArray, List.set_cons_zero, List.set_cons_succ]
      refine tk4 (.slice (some ⟨bk2, off2, none⟩) l.length cap2) (by kernel_rfl) (by kernel_rfl) (by kernel_rfl) (fun _ _ _ h => h) rfl (fun w hSw => by (try dsimp only at hSw); obtain ⟨q0, q1, q2, q3, q4, q5, q6, q7, q8, q9, q10, q11, q12, q13, q14, q15, q16, q17⟩ := hSw; go_simp) (by assumption) ?_
      try simp only [Act.put, List.setIfInBounds_toArray, List.set_cons_zero, List.set_cons_succ]
      refine tk5 (.int .i64 (k : Int)) (by kernel_rfl) (by kernel_rfl) (by kernel_rfl) (fun _ _ _ h => h) rfl (fun w hSw => by (try dsimp only at hSw); obtain ⟨q0, q1, q2, q3, q4, q5, q6, q7, q8, q9, q10, q11, q12, q13, q14, q15, q16, q17⟩ := hSw; go_simp) (by assumption) ?_
      try simp only [Act.put, List.setIfInBounds_toArray, List.set_cons_zero, List.set_cons_succ]
      refine tk6 (.pointer (some ⟨bk2, off2 + k * 9, none⟩)) (by kernel_rfl) (by kernel_rfl) (by kernel_rfl) (fun _ _ _ h => h) rfl (fun w hSw => by (try dsimp only at hSw); obtain ⟨q0, q1, q2, q3, q4, q5, q6, q7, q8, q9, q10, q11, q12, q13, q14, q15, q16, q17⟩ := hSw; go_simp) (by assumption) ?_
      try simp only [Act.put, List.setIfInBounds_toArray, List.set_cons_zero, List.set_cons_succ]
      refine tk7 (.agg #[.int .i64 r.kind, .int .i64 r.n, .int .i64 r.en.slot, .int .i64 r.en.ballot, .int .i64 r.en.cmd.kind, .int .i64 r.en.cmd.session, .int .i64 r.en.cmd.seq, .string r.en.cmd.name, .int .i64 r.en.cmd.n]) (by kernel_rfl) (by kernel_rfl) (by kernel_rfl) (fun _ _ _ h => h) rfl (fun w hSw => by (try dsimp only at hSw); obtain ⟨q0, q1, q2, q3, q4, q5, q6, q7, q8, q9, q10, q11, q12, q13, q14, q15, q16, q17⟩ := hSw; go_simp) (by assumption) ?_
      try simp only [Act.put, List.setIfInBounds_toArray, List.set_cons_zero, List.set_cons_succ]
      refine tk8 (.bool false) (by kernel_rfl) (by kernel_rfl) (by kernel_rfl) (fun _ _ _ h => h) rfl (fun w hSw => by (try dsimp only at hSw); obtain ⟨q0, q1, q2, q3, q4, q5, q6, q7, q8, q9, q10, q11, q12, q13, q14, q15, q16, q17⟩ := hSw; go_simp) (by assumption) ?_
      try simp only [Act.put, List.setIfInBounds_toArray, List.set_cons_zero, List.set_cons_succ]
      refine wpAnyH_done (by kernel_rfl) ?_ _
      go_wp2
      go_roundw
      case rel => exact ⟨k + 1, hkl, by go_num, ⟨hbl.os, hbl.tape, hbl.output, hbl.size, hbl.block⟩⟩
      case measure => simp [intOf]; omega
    · have hd : decide ((k : Int) < (l.length : Int)) = false := decide_eq_false (by omega)
      go_wp2
      go_ret
      exact ⟨rfl, hbl⟩
end Go.Proofs.Ytkngpfngfmbmjaa
