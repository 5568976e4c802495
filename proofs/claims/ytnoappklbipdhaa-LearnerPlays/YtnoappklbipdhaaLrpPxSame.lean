/-
  Two rows of the same entries are told as the same by the document's own. The condition: a length is a number.
-/
import Derived.Test.YtnoappklbipdhaaLrpPackD
import Derived.Test.YtnoappklbipdhaaLrpPack5
import Derived.Deep.RegionHeld3
namespace Go.Proofs.Ytnoappklbipdhaa
open Go.RowKit

set_option maxHeartbeats 3200000 in
set_option maxRecDepth 100000 in
/-- Two rows of the same entries, by the document's own. -/
theorem ents_same (w : World) (va vb : Value) (es : List En) (ha : RowAt enC w va es) (hb : RowAt enC w vb es) (hn : es.length ≤ 9223372036854775807) :
    Calls Try.prog 19 #[va, vb] w fun e w' => e = .returned (.bool true) ∧ Below w.heap.size w w' := by
  obtain ⟨pa, ca, rfl⟩ := ha.form
  obtain ⟨pb, cb, rfl⟩ := hb.form
  have GA : Hid (∀ y, Below w.heap.size w y → RowAt enC y (.slice pa es.length ca) es) := fun y b => ha.fresh b
  have GB : Hid (∀ y, Below w.heap.size w y → RowAt enC y (.slice pb es.length cb) es) := fun y b => hb.fresh b
  clear ha hb
  have hl' : ((es.length : Int) == (es.length : Int)) = true := by simp
  go_enter Try.func19, Try.ntmps19
  go_wp2
  go_loopw [4, 5] (fun _ i wr => ∃ k : Nat, k ≤ es.length ∧ i = .int .i64 (k : Int) ∧ Below w.heap.size w wr) (fun _ i _ => es.length - (intOf i).toNat)
  case atStart => exact ⟨0, Nat.zero_le _, rfl, Below.refl _ _⟩
  case round =>
    obtain ⟨k, hk, rfl, hbw⟩ := hrel
    by_cases hkl : k < es.length
    · obtain ⟨ka, oa, ca', hva, _, _, xa⟩ := (GA.out wr hbw).cells enC_len (by omega)
      obtain ⟨kb, ob, cb', hvb, _, _, xb⟩ := (GB.out wr hbw).cells enC_len (by omega)
      injection hva with e1 e2 e3
      injection hvb with e4 e5 e6
      subst e1 e3 e4 e6
      obtain ⟨x, hx⟩ : ∃ e, e = es[k] := ⟨_, rfl⟩
      have a0 := xa k hkl 0 (.int .i64 x.slot) (by decide) (by rw [hx]; rfl)
      have a1 := xa k hkl 1 (.int .i64 x.ballot) (by decide) (by rw [hx]; rfl)
      have a2 := xa k hkl 2 (.int .i64 x.cmd.kind) (by decide) (by rw [hx]; rfl)
      have a3 := xa k hkl 3 (.int .i64 x.cmd.session) (by decide) (by rw [hx]; rfl)
      have a4 := xa k hkl 4 (.int .i64 x.cmd.seq) (by decide) (by rw [hx]; rfl)
      have a5 := xa k hkl 5 (.string x.cmd.name) (by decide) (by rw [hx]; rfl)
      have a6 := xa k hkl 6 (.int .i64 x.cmd.n) (by decide) (by rw [hx]; rfl)
      have b0 := xb k hkl 0 (.int .i64 x.slot) (by decide) (by rw [hx]; rfl)
      have b1 := xb k hkl 1 (.int .i64 x.ballot) (by decide) (by rw [hx]; rfl)
      have b2 := xb k hkl 2 (.int .i64 x.cmd.kind) (by decide) (by rw [hx]; rfl)
      have b3 := xb k hkl 3 (.int .i64 x.cmd.session) (by decide) (by rw [hx]; rfl)
      have b4 := xb k hkl 4 (.int .i64 x.cmd.seq) (by decide) (by rw [hx]; rfl)
      have b5 := xb k hkl 5 (.string x.cmd.name) (by decide) (by rw [hx]; rfl)
      have b6 := xb k hkl 6 (.int .i64 x.cmd.n) (by decide) (by rw [hx]; rfl)
      rw [Nat.add_zero] at a0 b0
      have hkb : (k : Int) < (es.length : Int) := by omega
      have q := ent_neq x x
      rw [(eqE_iff x x).2 rfl] at q
      simp only [Bool.not_true] at q
      have BW : Hid _ := hbw
      clear xa xb hx hbw
      go_wp2
      go_region_held3 (fun w' => w'.cell? ⟨ka, oa + k * 7, none⟩ = some (.int .i64 x.slot) ∧ w'.cell? ⟨ka, oa + k * 7 + 1, none⟩ = some (.int .i64 x.ballot) ∧ w'.cell? ⟨ka, oa + k * 7 + 2, none⟩ = some (.int .i64 x.cmd.kind) ∧ w'.cell? ⟨ka, oa + k * 7 + 3, none⟩ = some (.int .i64 x.cmd.session) ∧ w'.cell? ⟨ka, oa + k * 7 + 4, none⟩ = some (.int .i64 x.cmd.seq) ∧ w'.cell? ⟨ka, oa + k * 7 + 5, none⟩ = some (.string x.cmd.name) ∧ w'.cell? ⟨ka, oa + k * 7 + 6, none⟩ = some (.int .i64 x.cmd.n) ∧ w'.cell? ⟨kb, ob + k * 7, none⟩ = some (.int .i64 x.slot) ∧ w'.cell? ⟨kb, ob + k * 7 + 1, none⟩ = some (.int .i64 x.ballot) ∧ w'.cell? ⟨kb, ob + k * 7 + 2, none⟩ = some (.int .i64 x.cmd.kind) ∧ w'.cell? ⟨kb, ob + k * 7 + 3, none⟩ = some (.int .i64 x.cmd.session) ∧ w'.cell? ⟨kb, ob + k * 7 + 4, none⟩ = some (.int .i64 x.cmd.seq) ∧ w'.cell? ⟨kb, ob + k * 7 + 5, none⟩ = some (.string x.cmd.name) ∧ w'.cell? ⟨kb, ob + k * 7 + 6, none⟩ = some (.int .i64 x.cmd.n)) (go_keep) (first | fail)
      go_wp2
      go_roundw
      case rel => exact ⟨k + 1, hkl, by go_num, ⟨BW.out.os, BW.out.tape, BW.out.output, BW.out.size, BW.out.block⟩⟩
      case measure => simp [intOf]; omega
    · have hkb : ¬ (k : Int) < (es.length : Int) := by omega
      obtain rfl : k = es.length := by omega
      have BW : Hid _ := hbw
      clear hbw
      go_wp2
      go_ret
      exact ⟨rfl, BW.out⟩
end Go.Proofs.Ytnoappklbipdhaa
