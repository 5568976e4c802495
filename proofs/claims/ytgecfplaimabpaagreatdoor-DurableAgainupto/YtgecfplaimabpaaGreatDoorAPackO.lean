/-
  Parts of the proof, laid together: DuRefA, DuRefB, DuRefC, DuRefD. The conditions stand at each part.
-/
import Derived.Deep.QuietTactic
import Derived.BigQuiet
import Derived.Lib.MinMax
import Derived.RegionTactic
import Derived.ChangeAlike
import Derived.Test.YtgecfplaimabpaaGreatDoorAPackD
import Derived.Test.YtgecfplaimabpaaGreatDoorAPackI
import Derived.Test.YtgecfplaimabpaaGreatDoorAPack5
/-
  The document's state (package latchkeyref13): an entry put among those that rise. The condition: at most 2^30 entries.
-/
namespace Go.Proofs.YtgecfplaimabpaaGreatDoor
open Go.RowKit

section
variable {α : Type} {enc : α → List Value} {w : World} {v : Value} {l : List α}
/-- A row from a place on. -/
theorem RowAt.from {k : Nat} (h : RowAt enc w v l) (T E : TypeId) (i0 : TypeInfo) (hu : Tryz.prog.underlying T = some (.slice E)) (he : Tryz.prog.elem T = E) (hi : Tryz.prog.info? E = some i0) (hz1 : i0.size = k) (hk : ∀ x, (enc x).length = k) (n : Nat) (hn : n ≤ l.length) :
    ∃ u, (∀ w', (Instr.sliceAt T v (some (.int .i64 (n : Int))) none none).run Tryz.prog w' = .ok u w') ∧ RowAt enc w u (l.drop n) := by
  obtain ⟨u, h1, h2⟩ := OwnRow.from (S := fun _ => True) (D := w.heap.size) ⟨h, fun bk off n cap h0 e => ⟨trivial, by have := h.lt h0 e; omega⟩⟩ T E i0 hu he hi hz1 hk n hn
  exact ⟨u, h1, h2.at'⟩
end
end Go.Proofs.YtgecfplaimabpaaGreatDoor
/-
  The document's Fold (package latchkeyref13): records put to a state. The conditions: the state's entries and the records lie in memory as their readings say; at most 2^29 of each.
-/
namespace Go.Proofs.YtgecfplaimabpaaGreatDoor
open Go.RowKit

section
variable {w wr w' : World} {d : Du} {v : Value}
end
theorem stepD_one {d : Du} {r : Rc} (h : r.kind = 1) : stepD d r = { d with p := max d.p r.n } := by unfold stepD; rw [if_pos h]
theorem stepD_two {d : Du} {r : Rc} (h : r.kind = 2) (hs : d.b < r.en.slot) : stepD d r = { d with p := max d.p r.en.ballot, es := putE d.es r.en } := by
  unfold stepD
  rw [if_neg (by rw [h]; decide), if_pos h, if_pos hs]
theorem stepD_low {d : Du} {r : Rc} (h : r.kind = 2) (hs : ¬ d.b < r.en.slot) : stepD d r = { d with p := max d.p r.en.ballot } := by
  unfold stepD
  rw [if_neg (by rw [h]; decide), if_pos h, if_neg hs]
theorem stepD_else {d : Du} {r : Rc} (h1 : ¬ r.kind = 1) (h2 : ¬ r.kind = 2) : stepD d r = d := by
  unfold stepD
  rw [if_neg h1, if_neg h2]
end Go.Proofs.YtgecfplaimabpaaGreatDoor
/-
  The document's records of a state (package latchkeyref13). The condition: at most 2^29 entries.
-/
namespace Go.Proofs.YtgecfplaimabpaaGreatDoor
open Go.RowKit

theorem rcC_ones : ∀ x : Rc, ∀ u ∈ rcC x, u.oneCell' = true := by
  intro x u hu
  simp only [rcC, List.mem_cons, List.not_mem_nil, or_false] at hu
  rcases hu with rfl | rfl | rfl | rfl | rfl | rfl | rfl | rfl | rfl <;> rfl
theorem infoRec : (Tryz.prog.info? 69).map (fun i => (i.zero, i.size, i.bytes)) = some (some (.agg #[.int .i64 0, .int .i64 0, .int .i64 0, .int .i64 0, .int .i64 0, .int .i64 0, .int .i64 0, .string ⟨#[]⟩, .int .i64 0]), 9, 80) := by kernel_rfl
/-- A row of records of the call's own. -/
abbrev OwnRc (w : World) (base : Nat) (v : Value) (l : List Rc) : Prop := w.ownsRow base 69 9 v l.length (rowL rcC l)
theorem OwnRc.row {w : World} {base : Nat} {v : Value} {l : List Rc} (h : OwnRc w base v l) : RowAt rcC w v l := RowAt.own rcC_len h
def firstRc (d : Du) : List Rc := if 0 < d.p then [⟨1, d.p, En.zero⟩] else []
theorem recsD_eq (d : Du) : recsD d = firstRc d ++ d.es.map fun e => ⟨2, 0, e⟩ := rfl
/-- Behind k entries. -/
structure RecI (w wr : World) (d : Du) (v u : Value) (l : List Rc) : Prop where
  own : OwnRc wr (w.heap.size + 1) u l
  box : DuAt wr w.heap.size d v
  bel : Below w.heap.size w wr
  sz : w.heap.size + 1 ≤ wr.heap.size
theorem RecI.step {w wr w' : World} {d : Du} {v u u' : Value} {l : List Rc} {r : Rc} (h : RecI w wr d v u l) (ho : w'.ownsRow (w.heap.size + 1) 69 9 u' (l.length + 1) (rowL rcC l ++ rowL rcC [r])) (b : Below (w.heap.size + 1) wr w') : RecI w w' d v u' (l ++ [r]) := by
  refine ⟨?_, (b.block _ (by omega)).trans h.box, h.bel.trans (b.mono (by omega)), Nat.le_trans h.sz b.size⟩
  show w'.ownsRow _ _ _ _ _ _
  rw [rowL_append, List.length_append]
  exact ho
set_option maxHeartbeats 3200000 in
set_option maxRecDepth 100000 in
theorem rrecsD_any (w : World) (d : Du) (v : Value) (hv : RowAt enC w v d.es) (hl : d.es.length ≤ 536870912) :
    Calls Tryz.prog 15 #[.agg (duA d v)] w fun e w' => ∃ u, e = .returned u ∧ OwnRc w' w.heap.size u (recsD d) ∧ Below w.heap.size w w' := by
  obtain ⟨a0, cap0, rfl⟩ := hv.form
  obtain ⟨i0, hi, hz0, hz1, hz2⟩ := info_parts infoRec
  have hI : RecI w (w.alloc (.cells (duA d (.slice a0 d.es.length cap0)) 24)) d (.slice a0 d.es.length cap0) (.slice none 0 0) [] := ⟨World.ownsRow_nil _ _ _ _, heap_alloc_new w _, (Below.refl _ w).alloc (Nat.le_refl _) _, by simp⟩
  have c0 := hI.box.c0
  by_cases hp : 0 < d.p
  · have q : decide ((0 : Int) < d.p) = true := decide_eq_true hp
    have hF : firstRc d = [⟨1, d.p, En.zero⟩] := by unfold firstRc; rw [if_pos hp]
    have HF : Hid _ := hF
    have HI : Hid _ := hI
    clear hF hp hI
    go_enter Tryz.func15, Tryz.ntmps15
    go_wp2_with (at_builtin; refine wpList_app_row (k := 9) (enc := rcC) (l := [⟨1, d.p, En.zero⟩]) rfl (.tmp 8) (.tmp 12) 25 69 rfl i0 _ 80 Tryz.underlying25 hi hz0 hz1 hz2 rfl (by decide) rcC_len rcC_ones (base := w.heap.size + 1) (n := 0) (xs := []) rfl rfl (World.ownsRow_nil _ _ _ _) (RowAt.built ((two_blocks w _ _).2.trans (heap_alloc_new _ _)) rfl 1 rfl rfl) (by simp) (by simp) (by simp) ?_; intro u6 w6 o6 a6; obtain ⟨p6, n6, q6, rfl⟩ := own_form o6; have I6 : Hid (RecI w w6 d (.slice a0 d.es.length cap0) (.slice p6 n6 q6) (firstRc d)) := (by rw [HF.out]; exact RecI.step HI.out o6 (((Below.refl _ _).alloc (by simp) _).trans a6.below)); clear o6 a6)
    go_loopw [3, 4] (fun u i wr => ∃ (k : Nat), k ≤ d.es.length ∧ i = .int .i64 (k : Int) ∧ RecI w wr d (.slice a0 d.es.length cap0) u (firstRc d ++ (d.es.take k).map fun e => ⟨2, 0, e⟩)) (fun _ i _ => d.es.length - (intOf i).toNat)
    case atStart => exact ⟨0, Nat.zero_le _, rfl, by simpa using I6.out⟩
    case round =>
      obtain ⟨k, hk, rfl, hP⟩ := hrel
      clear I6
      have c3 := hP.box.c3
      obtain ⟨p5, n5, q5, rfl⟩ := own_form hP.own
      by_cases hkl : k < d.es.length
      · have q0 : decide ((k : Int) < (d.es.length : Int)) = true := decide_eq_true (by omega)
        obtain ⟨bk, off, cap', hvv, hcap, hbk, hc⟩ := (hv.fresh hP.bel).cells enC_len (by omega)
        injection hvv with e1 e2 e3
        subst e1 e3
        obtain ⟨x, hx⟩ : ∃ x, x = d.es[k] := ⟨_, rfl⟩
        have hx0 : d.es.take (k + 1) = d.es.take k ++ [x] := by rw [List.take_add_one, List.getElem?_eq_getElem hkl, hx]; rfl
        have z0 := hc k hkl 0 (.int .i64 x.slot) (by decide) (by rw [hx]; rfl)
        have z1 := hc k hkl 1 (.int .i64 x.ballot) (by decide) (by rw [hx]; rfl)
        have z2 := hc k hkl 2 (.int .i64 x.cmd.kind) (by decide) (by rw [hx]; rfl)
        have z3 := hc k hkl 3 (.int .i64 x.cmd.session) (by decide) (by rw [hx]; rfl)
        have z4 := hc k hkl 4 (.int .i64 x.cmd.seq) (by decide) (by rw [hx]; rfl)
        have z5 := hc k hkl 5 (.string x.cmd.name) (by decide) (by rw [hx]; rfl)
        have z6 := hc k hkl 6 (.int .i64 x.cmd.n) (by decide) (by rw [hx]; rfl)
        rw [Nat.add_zero] at z0
        have HX : Hid (firstRc d ++ (d.es.take (k + 1)).map (fun e => (⟨2, 0, e⟩ : Rc)) = (firstRc d ++ (d.es.take k).map fun e => ⟨2, 0, e⟩) ++ [⟨2, 0, x⟩]) := by
          show _ = _
          rw [hx0, List.map_append, List.append_assoc]
          rfl
        obtain ⟨l, hll⟩ : ∃ l, l = firstRc d ++ (d.es.take k).map (fun e => (⟨2, 0, e⟩ : Rc)) := ⟨_, rfl⟩
        have hlen : l.length ≤ 536870913 := by
          rw [hll, List.length_append, List.length_map, List.length_take]
          have : (firstRc d).length ≤ 1 := by unfold firstRc; split <;> simp
          omega
        rw [← hll] at hP HX
        have HP : Hid _ := hP
        clear hP hx hc hx0 hll
        go_wp2_with (at_builtin; refine wpList_app_row (k := 9) (enc := rcC) (l := [⟨2, 0, x⟩]) rfl (.tmp 21) (.tmp 28) 25 69 rfl i0 _ 80 Tryz.underlying25 hi hz0 hz1 hz2 rfl (by decide) rcC_len rcC_ones (base := w.heap.size + 1) rfl rfl (HP.out.own.alloc _) (RowAt.built (heap_alloc_new _ _) rfl 1 rfl rfl) (by simp; have := HP.out.sz; omega) (by simp; omega) (by simp; omega) ?_; intro u6 w6 o6 a6; obtain ⟨p6, n6, q6, rfl⟩ := own_form o6; have I6 : Hid _ := (HP.out.step o6 (((Below.refl _ wr).alloc HP.out.sz _).trans a6.below)); clear o6 a6)
        go_roundw
        case rel => exact ⟨k + 1, hkl, by go_num, by rw [HX.out]; exact I6.out⟩
        case measure => simp [intOf]; omega
      · have q0 : decide ((k : Int) < (d.es.length : Int)) = false := decide_eq_false (by omega)
        have ht : d.es.take k = d.es := List.take_of_length_le (by omega)
        rw [ht] at hP
        have HP : Hid _ := hP
        clear hP ht
        go_wp2
        go_ret
        exact ⟨_, rfl, own_mono HP.out.own (by omega), HP.out.bel⟩
  · have q : decide ((0 : Int) < d.p) = false := decide_eq_false hp
    have hF : firstRc d = [] := by unfold firstRc; rw [if_neg hp]
    have I6 : Hid (RecI w (w.alloc (.cells (duA d (.slice a0 d.es.length cap0)) 24)) d (.slice a0 d.es.length cap0) (.slice none 0 0) (firstRc d)) := by rw [hF]; exact hI
    clear hF hp hI
    go_enter Tryz.func15, Tryz.ntmps15
    go_wp2
    go_loopw [3, 4] (fun u i wr => ∃ (k : Nat), k ≤ d.es.length ∧ i = .int .i64 (k : Int) ∧ RecI w wr d (.slice a0 d.es.length cap0) u (firstRc d ++ (d.es.take k).map fun e => ⟨2, 0, e⟩)) (fun _ i _ => d.es.length - (intOf i).toNat)
    case atStart => exact ⟨0, Nat.zero_le _, rfl, by simpa using I6.out⟩
    case round =>
      obtain ⟨k, hk, rfl, hP⟩ := hrel
      clear I6
      have c3 := hP.box.c3
      obtain ⟨p5, n5, q5, rfl⟩ := own_form hP.own
      by_cases hkl : k < d.es.length
      · have q0 : decide ((k : Int) < (d.es.length : Int)) = true := decide_eq_true (by omega)
        obtain ⟨bk, off, cap', hvv, hcap, hbk, hc⟩ := (hv.fresh hP.bel).cells enC_len (by omega)
        injection hvv with e1 e2 e3
        subst e1 e3
        obtain ⟨x, hx⟩ : ∃ x, x = d.es[k] := ⟨_, rfl⟩
        have hx0 : d.es.take (k + 1) = d.es.take k ++ [x] := by rw [List.take_add_one, List.getElem?_eq_getElem hkl, hx]; rfl
        have z0 := hc k hkl 0 (.int .i64 x.slot) (by decide) (by rw [hx]; rfl)
        have z1 := hc k hkl 1 (.int .i64 x.ballot) (by decide) (by rw [hx]; rfl)
        have z2 := hc k hkl 2 (.int .i64 x.cmd.kind) (by decide) (by rw [hx]; rfl)
        have z3 := hc k hkl 3 (.int .i64 x.cmd.session) (by decide) (by rw [hx]; rfl)
        have z4 := hc k hkl 4 (.int .i64 x.cmd.seq) (by decide) (by rw [hx]; rfl)
        have z5 := hc k hkl 5 (.string x.cmd.name) (by decide) (by rw [hx]; rfl)
        have z6 := hc k hkl 6 (.int .i64 x.cmd.n) (by decide) (by rw [hx]; rfl)
        rw [Nat.add_zero] at z0
        have HX : Hid (firstRc d ++ (d.es.take (k + 1)).map (fun e => (⟨2, 0, e⟩ : Rc)) = (firstRc d ++ (d.es.take k).map fun e => ⟨2, 0, e⟩) ++ [⟨2, 0, x⟩]) := by
          show _ = _
          rw [hx0, List.map_append, List.append_assoc]
          rfl
        obtain ⟨l, hll⟩ : ∃ l, l = firstRc d ++ (d.es.take k).map (fun e => (⟨2, 0, e⟩ : Rc)) := ⟨_, rfl⟩
        have hlen : l.length ≤ 536870913 := by
          rw [hll, List.length_append, List.length_map, List.length_take]
          have : (firstRc d).length ≤ 1 := by unfold firstRc; split <;> simp
          omega
        rw [← hll] at hP HX
        have HP : Hid _ := hP
        clear hP hx hc hx0 hll
        go_wp2_with (at_builtin; refine wpList_app_row (k := 9) (enc := rcC) (l := [⟨2, 0, x⟩]) rfl (.tmp 21) (.tmp 28) 25 69 rfl i0 _ 80 Tryz.underlying25 hi hz0 hz1 hz2 rfl (by decide) rcC_len rcC_ones (base := w.heap.size + 1) rfl rfl (HP.out.own.alloc _) (RowAt.built (heap_alloc_new _ _) rfl 1 rfl rfl) (by simp; have := HP.out.sz; omega) (by simp; omega) (by simp; omega) ?_; intro u6 w6 o6 a6; obtain ⟨p6, n6, q6, rfl⟩ := own_form o6; have I6 : Hid _ := (HP.out.step o6 (((Below.refl _ wr).alloc HP.out.sz _).trans a6.below)); clear o6 a6)
        go_roundw
        case rel => exact ⟨k + 1, hkl, by go_num, by rw [HX.out]; exact I6.out⟩
        case measure => simp [intOf]; omega
      · have q0 : decide ((k : Int) < (d.es.length : Int)) = false := decide_eq_false (by omega)
        have ht : d.es.take k = d.es := List.take_of_length_le (by omega)
        rw [ht] at hP
        have HP : Hid _ := hP
        clear hP ht
        go_wp2
        go_ret
        exact ⟨_, rfl, own_mono HP.out.own (by omega), HP.out.bel⟩
end Go.Proofs.YtgecfplaimabpaaGreatDoor
