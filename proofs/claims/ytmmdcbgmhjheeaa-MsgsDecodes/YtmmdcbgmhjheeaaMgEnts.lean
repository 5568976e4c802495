/-
  Whether two rows of entries are the same, by the document's own (package latchkeyref04) and by slices.Equal. No condition but that there are no more than a slice may hold.
-/
import Derived.Test.YtmmdcbgmhjheeaaMgEq
import Derived.Test.YtmmdcbgmhjheeaaCmREnc
namespace Go.Proofs.Ytmmdcbgmhjheeaa
open Go.RowKit

set_option maxHeartbeats 3200000 in
set_option maxRecDepth 100000 in
/-- Entries, one by one. -/
theorem ents_any (ea eb : List En) (va vb : Value) (w : World) (ha : EntAt w va ea) (hb : EntAt w vb eb) (hn : ea.length ≤ 9223372036854775807) (r : Bool) (hr : r = true ↔ ea = eb) :
    Calls Try.prog 43 #[va, vb] w fun e w' => e = .returned (.bool r) ∧ Below w.heap.size w w' := by
  obtain ⟨pa, ca, hva, ha'⟩ := ha.ex
  obtain ⟨pb, cb, hvb, hb'⟩ := hb.ex
  subst hva hvb
  have GA : Hid _ := ha'
  have GB : Hid _ := hb'
  have GR : Hid _ := hr
  clear ha hb ha' hb' hr
  by_cases hl : ea.length = eb.length
  · have hl' : ((ea.length : Int) == (eb.length : Int)) = true := by simp; omega
    go_enter Try.func43, Try.ntmps43
    go_wp2
    go_loopw [4, 5] (fun _ i wr => ∃ k : Nat, k ≤ ea.length ∧ i = .int .i64 k ∧ ea.take k = eb.take k ∧ Below w.heap.size w wr) (fun _ i _ => ea.length - (intOf i).toNat)
    case atStart => exact ⟨0, Nat.zero_le _, rfl, rfl, Below.refl _ _⟩
    case round =>
      obtain ⟨k, hk, rfl, ht, hbw⟩ := hrel
      by_cases hkl : k < ea.length
      · rcases GA.out with h | ⟨ka, oa, rfl, la, xa⟩
        · omega
        rcases GB.out with h | ⟨kb, ob, rfl, lb, xb⟩
        · omega
        have za := (xa k hkl).below la hbw
        have zb := (xb k (by omega)).below lb hbw
        obtain ⟨x, hea⟩ : ∃ e, e = ea[k] := ⟨_, rfl⟩
        obtain ⟨y, heb⟩ : ∃ e, e = eb[k]'(by omega) := ⟨_, rfl⟩
        rw [← hea] at za
        rw [← heb] at zb

        have a0 := za.c0
        have a1 := za.c1
        have a2 := za.c2
        have a3 := za.c3
        have a4 := za.c4
        have a5 := za.c5
        have a6 := za.c6
        have b0 := zb.c0
        have b1 := zb.c1
        have b2 := zb.c2
        have b3 := zb.c3
        have b4 := zb.c4
        have b5 := zb.c5
        have b6 := zb.c6
        have hkb : (k : Int) < (eb.length : Int) := by omega
        have HA : Hid (x = ea[k]) := hea
        have HB : Hid (y = eb[k]'(by omega)) := heb
        have HT : Hid (ea.take k = eb.take k) := ht
        have q := ent_neq x y
        clear xa xb za zb hea heb ht
        cases hxy : eqE x y with
        | true =>
          have HT2 : Hid (ea.take (k + 1) = eb.take (k + 1)) := by
            show _ = _
            rw [List.take_add_one, List.take_add_one, HT.out, List.getElem?_eq_getElem hkl, List.getElem?_eq_getElem (show k < eb.length by omega), ← HA.out, ← HB.out, (eqE_iff x y).1 hxy]
          rw [hxy] at q
          simp only [Bool.not_true] at q
          clear HA HB HT hxy
          go_wp2
          go_region_held3 (fun w' => w'.cell? ⟨ka, oa + k * 7, none⟩ = some (.int .i64 x.slot) ∧ w'.cell? ⟨ka, oa + k * 7 + 1, none⟩ = some (.int .i64 x.ballot) ∧ w'.cell? ⟨ka, oa + k * 7 + 2, none⟩ = some (.int .i64 x.cmd.kind) ∧ w'.cell? ⟨ka, oa + k * 7 + 3, none⟩ = some (.int .i64 x.cmd.session) ∧ w'.cell? ⟨ka, oa + k * 7 + 4, none⟩ = some (.int .i64 x.cmd.seq) ∧ w'.cell? ⟨ka, oa + k * 7 + 5, none⟩ = some (.string x.cmd.name) ∧ w'.cell? ⟨ka, oa + k * 7 + 6, none⟩ = some (.int .i64 x.cmd.n) ∧ w'.cell? ⟨kb, ob + k * 7, none⟩ = some (.int .i64 y.slot) ∧ w'.cell? ⟨kb, ob + k * 7 + 1, none⟩ = some (.int .i64 y.ballot) ∧ w'.cell? ⟨kb, ob + k * 7 + 2, none⟩ = some (.int .i64 y.cmd.kind) ∧ w'.cell? ⟨kb, ob + k * 7 + 3, none⟩ = some (.int .i64 y.cmd.session) ∧ w'.cell? ⟨kb, ob + k * 7 + 4, none⟩ = some (.int .i64 y.cmd.seq) ∧ w'.cell? ⟨kb, ob + k * 7 + 5, none⟩ = some (.string y.cmd.name) ∧ w'.cell? ⟨kb, ob + k * 7 + 6, none⟩ = some (.int .i64 y.cmd.n)) (go_keep) (first | fail)
          go_wp2
          go_roundw
          case rel => exact ⟨k + 1, hkl, by go_num, HT2.out, bmm hbw hbw.size (undrew (Below.refl _ wr.drew))⟩
          case measure => simp [intOf]; omega
        | false =>
          have HF : Hid (¬ ea = eb) := fun h => by
            have y1 := HA.out
            have y2 := HB.out
            subst h
            rw [← y1] at y2
            rw [(eqE_iff x y).2 y2.symm] at hxy
            cases hxy
          rw [hxy] at q
          simp only [Bool.not_false] at q
          clear HA HB HT hxy
          go_wp2
          go_region_held3 (fun w' => w'.cell? ⟨ka, oa + k * 7, none⟩ = some (.int .i64 x.slot) ∧ w'.cell? ⟨ka, oa + k * 7 + 1, none⟩ = some (.int .i64 x.ballot) ∧ w'.cell? ⟨ka, oa + k * 7 + 2, none⟩ = some (.int .i64 x.cmd.kind) ∧ w'.cell? ⟨ka, oa + k * 7 + 3, none⟩ = some (.int .i64 x.cmd.session) ∧ w'.cell? ⟨ka, oa + k * 7 + 4, none⟩ = some (.int .i64 x.cmd.seq) ∧ w'.cell? ⟨ka, oa + k * 7 + 5, none⟩ = some (.string x.cmd.name) ∧ w'.cell? ⟨ka, oa + k * 7 + 6, none⟩ = some (.int .i64 x.cmd.n) ∧ w'.cell? ⟨kb, ob + k * 7, none⟩ = some (.int .i64 y.slot) ∧ w'.cell? ⟨kb, ob + k * 7 + 1, none⟩ = some (.int .i64 y.ballot) ∧ w'.cell? ⟨kb, ob + k * 7 + 2, none⟩ = some (.int .i64 y.cmd.kind) ∧ w'.cell? ⟨kb, ob + k * 7 + 3, none⟩ = some (.int .i64 y.cmd.session) ∧ w'.cell? ⟨kb, ob + k * 7 + 4, none⟩ = some (.int .i64 y.cmd.seq) ∧ w'.cell? ⟨kb, ob + k * 7 + 5, none⟩ = some (.string y.cmd.name) ∧ w'.cell? ⟨kb, ob + k * 7 + 6, none⟩ = some (.int .i64 y.cmd.n)) (go_keep) (first | fail)
          go_wp2
          go_ret
          exact ⟨by rw [show r = false from (by cases hr : r with | false => rfl | true => exact absurd (GR.out.1 hr) HF.out)]; rfl, bmm hbw hbw.size (undrew (Below.refl _ wr.drew))⟩
      · have hke : k = ea.length := by omega
        subst hke
        rw [List.take_length, hl, List.take_length] at ht
        have HT : Hid (ea = eb) := ht
        clear ht
        go_wp2
        go_ret
        exact ⟨by rw [GR.out.2 HT.out]; rfl, hbw⟩
  · have hl' : ((ea.length : Int) == (eb.length : Int)) = false := by simp; omega
    go_enter Try.func43, Try.ntmps43
    go_wp2
    go_ret
    exact ⟨by rw [show r = false from (by cases hr : r with | false => rfl | true => exact absurd (congrArg List.length (GR.out.1 hr)) hl)]; rfl, Below.refl _ _⟩

end Go.Proofs.Ytmmdcbgmhjheeaa
