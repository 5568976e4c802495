/-
  Whether two rows of texts are the same, by the document's own (package latchkeyref05). No condition but that there are no more than a slice may hold.
-/
import Derived.Test.YtkdglkaeglhibaaGreatDoorPDkMem
import Derived.Deep.RegionHeld3
namespace Go.Proofs.YtkdglkaeglhibaaGreatDoor
open Go.RowKit

/-- A row of texts, as a slice. -/
structure StrAt (w : World) (v : Value) (l : List ByteArray) : Prop where
  ex : ∃ (a : Option Addr) (cap : Nat), v = .slice a l.length cap ∧ (l.length = 0 ∨ ∃ bk off, a = some ⟨bk, off, none⟩ ∧ bk < w.heap.size ∧ ∀ j (hj : j < l.length), w.cell? ⟨bk, off + j, none⟩ = some (.string l[j]))
theorem StrAt.below {w w' : World} {v : Value} {l : List ByteArray} (h : StrAt w v l) (k : Below w.heap.size w w') : StrAt w' v l := by
  obtain ⟨a, cap, hv, he⟩ := h.ex
  refine ⟨⟨a, cap, hv, ?_⟩⟩
  rcases he with h | ⟨bk, off, ha, hb, hc⟩
  · exact Or.inl h
  · exact Or.inr ⟨bk, off, ha, Nat.lt_of_lt_of_le hb k.size, fun j hj => (k.cell (by exact hb)).trans (hc j hj)⟩
set_option maxHeartbeats 3200000 in
set_option maxRecDepth 100000 in
/-- Texts, one by one. -/
theorem texts_any (ea eb : List ByteArray) (va vb : Value) (w : World) (ha : StrAt w va ea) (hb : StrAt w vb eb) (hn : ea.length ≤ 9223372036854775807) (r : Bool) (hr : r = true ↔ ea = eb) :
    Calls Tryz.prog 13 #[va, vb] w fun e w' => e = .returned (.bool r) ∧ Below w.heap.size w w' := by
  obtain ⟨pa, ca, hva, ha'⟩ := ha.ex
  obtain ⟨pb, cb, hvb, hb'⟩ := hb.ex
  subst hva hvb
  have GA : Hid _ := ha'
  have GB : Hid _ := hb'
  have GR : Hid _ := hr
  clear ha hb ha' hb' hr
  by_cases hl : ea.length = eb.length
  · have hl' : ((ea.length : Int) == (eb.length : Int)) = true := by simp; omega
    go_enter Tryz.func13, Tryz.ntmps13
    go_wp2
    go_loopw [4, 5] (fun _ i wr => ∃ k : Nat, k ≤ ea.length ∧ i = .int .i64 k ∧ ea.take k = eb.take k ∧ Below w.heap.size w wr) (fun _ i _ => ea.length - (intOf i).toNat)
    case atStart => exact ⟨0, Nat.zero_le _, rfl, rfl, Below.refl _ _⟩
    case round =>
      obtain ⟨k, hk, rfl, ht, hbw⟩ := hrel
      by_cases hkl : k < ea.length
      · rcases GA.out with h | ⟨ka, oa, rfl, la, xa⟩
        · omega
        rcases GB.out with h | ⟨kb, ob, rfl, lb, xb⟩
        · omega
        have za := (hbw.cell (p := ⟨ka, oa + k, none⟩) (by exact la)).trans (xa k hkl)
        have zb := (hbw.cell (p := ⟨kb, ob + k, none⟩) (by exact lb)).trans (xb k (by omega))
        obtain ⟨x, hea⟩ : ∃ e, e = ea[k] := ⟨_, rfl⟩
        obtain ⟨y, heb⟩ : ∃ e, e = eb[k]'(by omega) := ⟨_, rfl⟩
        rw [← hea] at za
        rw [← heb] at zb
        have hkb : (k : Int) < (eb.length : Int) := by omega
        have HA : Hid (x = ea[k]) := hea
        have HB : Hid (y = eb[k]'(by omega)) := heb
        have HT : Hid (ea.take k = eb.take k) := ht
        clear xa xb hea heb ht
        by_cases hxy : x = y
        · have HT2 : Hid (ea.take (k + 1) = eb.take (k + 1)) := by
            show _ = _
            rw [List.take_add_one, List.take_add_one, HT.out, List.getElem?_eq_getElem hkl, List.getElem?_eq_getElem (show k < eb.length by omega), ← HA.out, ← HB.out, hxy]
          subst hxy
          clear HA HB HT
          go_wp2
          go_region_held3 (fun w' => w'.cell? ⟨ka, oa + k, none⟩ = some (.string x) ∧ w'.cell? ⟨kb, ob + k, none⟩ = some (.string x)) (go_keep) (first | fail)
          go_wp2
          go_roundw
          case rel => exact ⟨k + 1, hkl, by go_num, HT2.out, bmm hbw hbw.size (undrew (Below.refl _ wr.drew))⟩
          case measure => simp [intOf]; omega
        · have n1 : ¬ x.toList = y.toList := fun e => hxy (texts_inj e)
          have n2 : (x.toList == y.toList) = false := beq_eq_false_iff_ne.2 n1
          have HF : Hid (¬ ea = eb) := fun h => by
            have y1 := HA.out
            have y2 := HB.out
            subst h
            exact hxy (by rw [y1, y2])
          clear HA HB HT hxy
          go_wp2
          go_region_held3 (fun w' => w'.cell? ⟨ka, oa + k, none⟩ = some (.string x) ∧ w'.cell? ⟨kb, ob + k, none⟩ = some (.string y)) (go_keep) (first | fail)
          go_wp2
          go_ret
          exact ⟨by rw [show r = false from (by cases hr : r with | false => rfl | true => exact absurd (GR.out.1 hr) HF.out)]; rfl, bmm hbw hbw.size (undrew (Below.refl _ wr.drew))⟩
      · have hke : k = ea.length := by omega
        subst hke
        rw [List.take_length, hl, List.take_length] at ht
        have HT : Hid (ea = eb) := ht
        clear ht
        go_wp2
        go_ret
        exact ⟨by rw [GR.out.2 HT.out]; rfl, hbw⟩
  · have hl' : ((ea.length : Int) == (eb.length : Int)) = false := by simp; omega
    go_enter Tryz.func13, Tryz.ntmps13
    go_wp2
    go_ret
    exact ⟨by rw [show r = false from (by cases hr : r with | false => rfl | true => exact absurd (congrArg List.length (GR.out.1 hr)) hl)]; rfl, Below.refl _ _⟩
end Go.Proofs.YtkdglkaeglhibaaGreatDoor
