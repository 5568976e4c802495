/-
  What the laws of layer 3 ask of package cmds ('CmdsOk': Check, Encode, Decode, EncodeEntry, DecodeEntry answer as the document's, in every world that G tells of), and the examples of chapter 3 ('awake') from it. No other condition.
-/
import Derived.Test.YtgkpdbfpajmphaaCmRDecE
namespace Go.Proofs.Ytgkpdbfpajmphaa
open Go.RowKit

/-- Check's answer. -/
def chkT (c : Cm) : Int := if mayB c = true then 0 else 1

/-- Package cmds answers as the document says. -/
structure CmdsOk (G : World → Prop) : Prop where
  keep : ∀ {w w' : World}, G w → Below w.heap.size w w' → G w'
  check : ∀ (K S Q N : Int) (T : ByteArray) (w : World), G w → Calls Try.prog 11 #[.agg #[.int .i64 K, .int .i64 S, .int .i64 Q, .string T, .int .i64 N]] w fun e w' => e = .returned (.int .i64 (chkT ⟨K, S, Q, T, N⟩)) ∧ Below w.heap.size w w'
  encode : ∀ (K S Q N : Int) (T : ByteArray) (w : World), G w → Calls Try.prog 7 #[.agg #[.int .i64 K, .int .i64 S, .int .i64 Q, .string T, .int .i64 N]] w fun e w' => e = .returned (.tuple #[.string (encT ⟨K, S, Q, T, N⟩).1, .int .i64 (encT ⟨K, S, Q, T, N⟩).2]) ∧ Below w.heap.size w w'
  decode : ∀ (s : ByteArray) (w : World), s.size ≤ 9223372036854775807 → G w → Calls Try.prog 14 #[.string s] w fun e w' => e = .returned (.tuple #[.agg #[.int .i64 (decT s).1.kind, .int .i64 (decT s).1.session, .int .i64 (decT s).1.seq, .string (decT s).1.name, .int .i64 (decT s).1.n], .int .i64 (decT s).2]) ∧ Below w.heap.size w w'
  encodeE : ∀ (A B K S Q N : Int) (T : ByteArray) (w : World), G w → Calls Try.prog 9 #[.agg #[.int .i64 A, .int .i64 B, .int .i64 K, .int .i64 S, .int .i64 Q, .string T, .int .i64 N]] w fun e w' => e = .returned (.tuple #[.string (encET ⟨A, B, ⟨K, S, Q, T, N⟩⟩).1, .int .i64 (encET ⟨A, B, ⟨K, S, Q, T, N⟩⟩).2]) ∧ Below w.heap.size w w'
  decodeE : ∀ (s : ByteArray) (w : World), s.size ≤ 9223372036854775807 → G w → Calls Try.prog 16 #[.string s] w fun e w' => e = .returned (.tuple #[.agg #[.int .i64 (decET s).1.slot, .int .i64 (decET s).1.ballot, .int .i64 (decET s).1.cmd.kind, .int .i64 (decET s).1.cmd.session, .int .i64 (decET s).1.cmd.seq, .string (decET s).1.cmd.name, .int .i64 (decET s).1.cmd.n], .int .i64 (decET s).2]) ∧ Below w.heap.size w w'

theorem awM : mayB ⟨5, 3, 1, ⟨#[97]⟩, 0⟩ = true := by decide +kernel
theorem awE : (⟨(encC ⟨5, 3, 1, ⟨#[97]⟩, 0⟩).toArray⟩ : ByteArray) = ⟨#[10, 6, 2, 1, 97, 0]⟩ := by decide +kernel
theorem aw1 : encT ⟨5, 3, 1, ⟨#[97]⟩, 0⟩ = (⟨#[10, 6, 2, 1, 97, 0]⟩, 0) := by unfold encT; rw [if_pos awM, awE]
theorem aw2 : decT ⟨#[10, 6, 2, 1, 97, 0]⟩ = (⟨5, 3, 1, ⟨#[97]⟩, 0⟩, 0) := by
  have h := decC_enc awM
  rw [awE] at h
  unfold decT
  rw [h]
theorem aw3 : encT ⟨5, 3, 1, ⟨#[]⟩, 0⟩ = (⟨#[]⟩, 1) := by unfold encT; rw [if_neg (by decide +kernel)]
theorem awN : mayE ⟨1, 9, Cm.zero⟩ = true := by decide +kernel
theorem awF : (⟨(encE ⟨1, 9, Cm.zero⟩).toArray⟩ : ByteArray) = ⟨#[2, 18, 5, 0, 0, 0, 0, 0]⟩ := by decide +kernel
theorem aw4 : encET ⟨1, 9, ⟨0, 0, 0, ⟨#[]⟩, 0⟩⟩ = (⟨#[2, 18, 5, 0, 0, 0, 0, 0]⟩, 0) := by
  unfold encET
  rw [if_pos (show mayE ⟨1, 9, ⟨0, 0, 0, ⟨#[]⟩, 0⟩⟩ = true from awN)]
  exact congrArg (fun x => (x, (0 : Int))) awF
theorem awR : ¬ (readC ⟨#[]⟩).2 = 0 := by decide +kernel
theorem aw5 : decT ⟨#[]⟩ = (Cm.zero, 2) := decT_no (fun h => awR h.1)
theorem aw6 : chkT ⟨0, 0, 0, ⟨#[]⟩, 0⟩ = 0 := by unfold chkT; rw [if_pos (by decide +kernel)]

set_option maxHeartbeats 3200000 in
set_option maxRecDepth 100000 in
theorem awake_any {G : World → Prop} (hF : CmdsOk G) (w : World) (t0 : G w) : Calls Try.prog 13 #[] w fun e w' => e = .returned (.bool true) ∧ Below w.heap.size w w' := by
  have q1 : ∀ w, G w → Calls Try.prog 7 #[.agg #[.int .i64 5, .int .i64 3, .int .i64 1, .string ⟨#[97]⟩, .int .i64 0]] w fun e w' => e = .returned (.tuple #[.string ⟨#[10, 6, 2, 1, 97, 0]⟩, .int .i64 0]) ∧ Below w.heap.size w w' := fun w hT => by
    have := hF.encode 5 3 1 0 ⟨#[97]⟩ w hT
    rw [aw1] at this
    exact this
  have q2 : ∀ w, G w → Calls Try.prog 14 #[.string ⟨#[10, 6, 2, 1, 97, 0]⟩] w fun e w' => e = .returned (.tuple #[.agg #[.int .i64 5, .int .i64 3, .int .i64 1, .string ⟨#[97]⟩, .int .i64 0], .int .i64 0]) ∧ Below w.heap.size w w' := fun w hT => by
    have := hF.decode ⟨#[10, 6, 2, 1, 97, 0]⟩ w (by decide) hT
    rw [aw2] at this
    exact this
  have q3 : ∀ w, G w → Calls Try.prog 7 #[.agg #[.int .i64 5, .int .i64 3, .int .i64 1, .string ⟨#[]⟩, .int .i64 0]] w fun e w' => e = .returned (.tuple #[.string ⟨#[]⟩, .int .i64 1]) ∧ Below w.heap.size w w' := fun w hT => by
    have := hF.encode 5 3 1 0 ⟨#[]⟩ w hT
    rw [aw3] at this
    exact this
  have q4 : ∀ w, G w → Calls Try.prog 9 #[.agg #[.int .i64 1, .int .i64 9, .int .i64 0, .int .i64 0, .int .i64 0, .string ⟨#[]⟩, .int .i64 0]] w fun e w' => e = .returned (.tuple #[.string ⟨#[2, 18, 5, 0, 0, 0, 0, 0]⟩, .int .i64 0]) ∧ Below w.heap.size w w' := fun w hT => by
    have := hF.encodeE 1 9 0 0 0 0 ⟨#[]⟩ w hT
    rw [aw4] at this
    exact this
  have q5 : ∀ w, G w → Calls Try.prog 14 #[.string ⟨#[]⟩] w fun e w' => e = .returned (.tuple #[.agg #[.int .i64 0, .int .i64 0, .int .i64 0, .string ⟨#[]⟩, .int .i64 0], .int .i64 2]) ∧ Below w.heap.size w w' := fun w hT => by
    have := hF.decode ⟨#[]⟩ w (by decide) hT
    rw [aw5] at this
    exact this
  have q6 : ∀ w, G w → Calls Try.prog 11 #[.agg #[.int .i64 0, .int .i64 0, .int .i64 0, .string ⟨#[]⟩, .int .i64 0]] w fun e w' => e = .returned (.int .i64 0) ∧ Below w.heap.size w w' := fun w hT => by
    have := hF.check 0 0 0 0 ⟨#[]⟩ w hT
    rw [aw6] at this
    exact this
  have kp := @hF.keep
  clear hF
  go_enter Try.func13, Try.ntmps13
  go_wp2_with (first
    | (go_at_call 11; refine (q6 _ (by exact kp t5 ((Below.refl _ _).alloc (Nat.le_refl _) _))).mono ?_; rintro e w6 ⟨rfl, b6⟩)
    | (go_at_call 14; have d2 := d1; refine (q5 _ (by exact t4)).mono ?_; rintro e w5 ⟨rfl, b5⟩; have t5 := kp (by exact t4) b5; have x5 := x4.below b5; have y5 := x5.c3; have l5 := x5.lt; simp only [Nat.zero_add] at y5)
    | (go_at_call 9; refine (q4 _ (by exact t3)).mono ?_; rintro e w4 ⟨rfl, b4⟩; have t4 := kp (by exact t3) b4; have x4 := x3.below b4; have d1 : True := trivial)
    | (go_at_call 7; have d0' := d0; refine (q3 _ (by exact t2')).mono ?_; rintro e w3 ⟨rfl, b3⟩; have t3 := kp t2' b3; have x3 := x2.below b3)
    | (go_at_call 14; refine (q2 _ (by exact t1)).mono ?_; rintro e w2 ⟨rfl, b2⟩; have t2 := kp (by exact t1) b2; have a2 : Below w2.heap.size w2 (w2.alloc (.cells #[.int .i64 5, .int .i64 3, .int .i64 1, .string ⟨#[97]⟩, .int .i64 0] 23)) := (Below.refl _ w2).alloc (Nat.le_refl _) _; have t2' := kp t2 a2; have x2 : Box (w2.alloc (.cells #[.int .i64 5, .int .i64 3, .int .i64 1, .string ⟨#[97]⟩, .int .i64 0] 23)) w2.heap.size 0 5 3 1 ⟨#[97]⟩ 0 := ⟨by simp, by simp, by simp, by simp, by simp, by simp⟩; have d0 : True := trivial)
    | (go_at_call 7; refine (q1 _ (by exact t0)).mono ?_; rintro e w1 ⟨rfl, b1⟩; have t1 := kp (by exact t0) b1))
  go_ret
  have f2 := bmm b1 b1.size b2
  have f2' := bmm f2 f2.size a2
  have f3 := bmm f2' f2'.size b3
  have f4 := bmm f3 f3.size b4
  have f5 := bmm f4 f4.size b5
  have f5' := f5.alloc f5.size (.cells #[.int .i64 0, .int .i64 0, .int .i64 0, .string ⟨#[]⟩, .int .i64 0] 23)
  exact ⟨rfl, bmm f5' f5'.size b6⟩
end Go.Proofs.Ytgkpdbfpajmphaa
