/-
  The frames of records (package wal). The conditions: the records lie in memory as their reading says, are not more than 351843720000, and package frame's table lies in memory.
-/
import Derived.Test.YtdhlbldmdeepiaaGreatDoorRWvEnc
import Derived.Test.YtdhlbldmdeepiaaGreatDoorRWvBuild
import Derived.Test.YtdhlbldmdeepiaaGreatDoorRPackH
namespace Go.Proofs.YtdhlbldmdeepiaaGreatDoor
open Go.RowKit

abbrev rcV0 (r : Rc) : Array Value := rcA r.kind r.n r.en.slot r.en.ballot r.en.cmd.kind r.en.cmd.session r.en.cmd.seq r.en.cmd.n r.en.cmd.name
set_option maxHeartbeats 6400000 in
set_option maxRecDepth 100000 in
theorem wframes_any (w : World) (v : Value) (l : List Rc) (hv : RowAt rcC w v l) (hl : l.length ≤ 351843720000) (hT : Tab w) :
    Calls Tryz.prog 51 #[v] w fun e w' => e = .returned (.tuple #[.string (framesT l).1, .int .i64 (framesT l).2]) ∧ Below w.heap.size w w' := by
  obtain ⟨a, cap, rfl⟩ := hv.form
  have hB0 := Bd.new w
  have ba : Below w.heap.size w (w.alloc (.cells #[.pointer none, .slice none 0 0] 135)) := (Below.refl _ w).alloc (Nat.le_refl _) _
  go_enter Tryz.func51, Tryz.ntmps51
  go_wp2
  go_loopw [12] (fun i wr => ∃ (k : Nat), k ≤ l.length ∧ i = .int .i64 (k : Int) ∧ Hid ((l.take k).all mayR = true) ∧ Hid (Bd wr w.heap.size w.heap.size (framesOf (l.take k))) ∧ Below w.heap.size w wr) (fun i _ => l.length - (intOf i).toNat)
  case atStart => exact ⟨0, Nat.zero_le _, rfl, rfl, hB0, ba⟩
  case round =>
    obtain ⟨k, hk, rfl, HM, HB, hb⟩ := hrel
    clear hB0 ba
    by_cases hkl : k < l.length
    · have hd : decide ((k : Int) < (l.length : Int)) = true := decide_eq_true (by omega)
      obtain ⟨bk, off, cap', hvv, hcap, hbk, hc⟩ := (hv.fresh hb).cells rcC_len (by omega)
      injection hvv with e1 e2 e3
      subst e1 e3
      obtain ⟨r, hr⟩ : ∃ r, r = l[k] := ⟨_, rfl⟩
      have z0 := hc k hkl 0 (.int .i64 r.kind) (by decide) (by rw [hr]; rfl)
      have z1 := hc k hkl 1 (.int .i64 r.n) (by decide) (by rw [hr]; rfl)
      have z2 := hc k hkl 2 (.int .i64 r.en.slot) (by decide) (by rw [hr]; rfl)
      have z3 := hc k hkl 3 (.int .i64 r.en.ballot) (by decide) (by rw [hr]; rfl)
      have z4 := hc k hkl 4 (.int .i64 r.en.cmd.kind) (by decide) (by rw [hr]; rfl)
      have z5 := hc k hkl 5 (.int .i64 r.en.cmd.session) (by decide) (by rw [hr]; rfl)
      have z6 := hc k hkl 6 (.int .i64 r.en.cmd.seq) (by decide) (by rw [hr]; rfl)
      have z7 := hc k hkl 7 (.string r.en.cmd.name) (by decide) (by rw [hr]; rfl)
      have z8 := hc k hkl 8 (.int .i64 r.en.cmd.n) (by decide) (by rw [hr]; rfl)
      rw [Nat.add_zero] at z0
      have qe := wencR_any r.kind r.n r.en.slot r.en.ballot r.en.cmd.kind r.en.cmd.session r.en.cmd.seq r.en.cmd.n r.en.cmd.name
      rw [show (⟨r.kind, r.n, ⟨r.en.slot, r.en.ballot, ⟨r.en.cmd.kind, r.en.cmd.session, r.en.cmd.seq, r.en.cmd.name, r.en.cmd.n⟩⟩⟩ : Rc) = r from rfl] at qe
      have htk : l.take (k + 1) = l.take k ++ [r] := by
        rw [List.take_add_one, List.getElem?_eq_getElem hkl, ← hr]
        rfl
      have hal : Below w.heap.size w (wr.alloc (.cells (rcV0 r) 27)) := hb.alloc hb.size _
      have HBA : Hid (Bd (wr.alloc (.cells (rcV0 r) 27)) w.heap.size w.heap.size (framesOf (l.take k))) := HB.out.keep ((Below.refl _ wr).alloc (Nat.le_refl _) _)
      by_cases hm : mayR r = true
      · rw [encRT_yes hm] at qe
        have qw := fun w hT => wrap_any ⟨(encR r).toArray⟩ w hT
        rw [wrapOf_rec hm] at qw
        have HM' : Hid ((l.take (k + 1)).all mayR = true) := by
          show _ = true
          rw [htk, List.all_append, HM.out]
          simp [hm]
        have hfew := framesOf_few _ HM'.out
        have hfr : framesOf (l.take (k + 1)) = framesOf (l.take k) ++ frameOf (encR r) := by rw [htk, framesOf_snoc]
        rw [hfr, List.length_append, List.length_take] at hfew
        have hmin : min (k + 1) l.length * 400 ≤ 140737488000000 := by
          have : min (k + 1) l.length * 400 ≤ 351843720000 * 400 := Nat.mul_le_mul_right _ (by omega)
          omega
        obtain ⟨E, hE⟩ : ∃ E : ByteArray, E = ⟨(encR r).toArray⟩ := ⟨_, rfl⟩
        obtain ⟨F, hF⟩ : ∃ F : ByteArray, F = ⟨(frameOf (encR r)).toArray⟩ := ⟨_, rfl⟩
        have HF : Hid (F.data.toList = frameOf (encR r)) := by rw [hF]; rfl
        have HL : Hid ((framesOf (l.take k)).length + F.size ≤ 140737488355328) := by
          show _ ≤ _
          rw [Lib.size_eq, HF.out]
          omega
        have HR : Hid (framesOf (l.take (k + 1)) = framesOf (l.take k) ++ F.data.toList) := by rw [HF.out]; exact hfr
        rw [← hE] at qe qw
        rw [← hF] at qw
        clear htk hm hE hF hr hc hfew hfr hmin HF
        go_wp2_with (first
          | (go_at_call 91; refine (wstr_any w.heap.size w.heap.size (framesOf (l.take k)) F _ HB4.out HL.out f4.size).mono ?_; rintro e' w5 ⟨rfl, d5, b5⟩; have HB5 : Hid _ := d5; clear d5; have f5 := f4.trans b5)
          | (go_at_call 90; refine (qw _ (hT.below f3)).mono ?_; rintro e' w4 ⟨rfl, b4⟩; have HB4 : Hid (Bd w4 w.heap.size w.heap.size (framesOf (l.take k))) := HB3.out.keep b4; have f4 := bmm f3 f3.size b4)
          | (go_at_call 8; refine (qe _).mono ?_; rintro e' w3 ⟨rfl, b3⟩; have HB3 : Hid (Bd w3 w.heap.size w.heap.size (framesOf (l.take k))) := HBA.out.keep b3; have f3 := bmm hal hal.size b3))
        go_roundw
        case rel => exact ⟨k + 1, hkl, by go_num, HM', by rw [HR.out]; exact HB5, f5⟩
        case measure => simp [intOf]; omega
      · rw [encRT_no (by simpa using hm)] at qe
        have HN : Hid (framesT l = (⟨#[]⟩, 1)) := by
          show framesT l = _
          unfold framesT
          rw [if_neg]
          intro hall
          exact hm (by rw [hr]; exact List.all_eq_true.mp hall _ (List.getElem_mem hkl))
        clear htk hm hr hc HB HBA HM
        go_wp2_with (go_at_call 8; refine (qe _).mono ?_; rintro e' w3 ⟨rfl, b3⟩; have f3 := bmm hal hal.size b3)
        go_ret2
        exact ⟨by rw [HN.out]; rfl, f3⟩
    · have hd : decide ((k : Int) < (l.length : Int)) = false := decide_eq_false (by omega)
      have htk : l.take k = l := List.take_of_length_le (by omega)
      have HN : Hid (framesT l = (⟨(framesOf l).toArray⟩, 0)) := by
        show framesT l = _
        have h1 := HM.out
        rw [htk] at h1
        unfold framesT
        rw [if_pos h1]
      have qs := Tryz.Builder_String_any w.heap.size w.heap.size (framesOf (l.take k)) wr HB.out hb.size
      rw [htk] at qs
      clear HB HM htk
      go_wp2_with (go_at_call 92; refine qs.mono ?_; rintro e' w3 ⟨rfl, b3⟩)
      go_ret2
      exact ⟨by rw [HN.out]; rfl, hb.trans b3⟩
end Go.Proofs.YtdhlbldmdeepiaaGreatDoor
