/-
  The program's disk: the names of all files. The condition: at most 100000 files.
-/
import Derived.Test.YtodnnhidljfilaaGreatDoorFPackU
import Derived.Test.YtodnnhidljfilaaGreatDoorFSC
import Derived.Sort.OwnSorted
namespace Go.Proofs.YtodnnhidljfilaaGreatDoor
open Go.RowKit Go.Sort

def nmB (f : CF) : List UInt8 := f.name.data.toList
/-- While the names are gathered. -/
structure FInv (w wr : World) (mo : Option Nat) (l : List CF) (v : Value) (acc : List (List UInt8)) (leftF : List CF) : Prop where
  rg : Ranging wr mo w.heap.size (nmL l) (nmL leftF)
  mem : ∀ f ∈ leftF, f ∈ l
  row : wr.ownsRow w.heap.size 9 1 v acc.length (acc.map encStr)
  pm : (acc ++ leftF.map nmB).Perm (l.map nmB)
  bel : Below w.heap.size w wr
theorem FInv.ne {w wr : World} {mo : Option Nat} {l : List CF} {v : Value} {acc : List (List UInt8)} {leftF : List CF} (I : FInv w wr mo l v acc leftF) : v.ownBlock ≠ some w.heap.size := by
  intro e
  have hr := I.rg
  rcases I.row.2 with ⟨e1, _⟩ | ⟨g, cap, cur, e1, _, hb, _⟩
  · rw [e1] at e
    simp [Value.ownBlock] at e
  · rw [e1] at e
    simp only [Value.ownBlock, Option.some.injEq] at e
    subst e
    cases mo with
    | none =>
      obtain ⟨_, _, a, s, b, hr⟩ := hr
      rw [hb] at hr
      simp at hr
    | some M =>
      obtain ⟨es, clock, since, seen, c0, _, _, hr, _⟩ := hr
      rw [hb] at hr
      simp at hr
theorem perm_midF (acc : List (List UInt8)) (A : List CF) (f : CF) (B : List CF) : (acc ++ (A ++ f :: B).map nmB).Perm ((acc ++ [nmB f]) ++ (A ++ B).map nmB) := by
  rw [List.map_append, List.map_cons, List.map_append, List.append_assoc]
  refine List.Perm.append_left acc ?_
  exact List.perm_middle
/-- From a world behind the step (w2) through others of which only new blocks and the row turn. -/
theorem FInv.step {w wr w2 w3 : World} {mo : Option Nat} {l : List CF} {v v3 : Value} {acc : List (List UInt8)} {LA LB : List CF} {f : CF} (I : FInv w wr mo l v acc (LA ++ f :: LB)) (hM : ∀ M, mo = some M → M < w.heap.size) (hrg : Ranging w2 mo w.heap.size (nmL l) (nmL (LA ++ LB))) (hg2 : wr.grownBy w2 (some w.heap.size))
    (hg3 : w2.grownBy w3 v.ownBlock) (hrow : w3.ownsRow w.heap.size 9 1 v3 (acc.length + 1) (acc.map encStr ++ [.string f.name])) : FInv w w3 mo l v3 (acc ++ [nmB f]) (LA ++ LB) := by
  have hlt := hrg.lt
  have hvr := I.ne
  have e1 : encStr (nmB f) = .string f.name := by unfold encStr nmB; rw [Lib.mk_data]
  refine ⟨hrg.kept (fun M e => hg3.block M (Nat.lt_of_lt_of_le (hM M e) (Nat.le_trans I.bel.size hg2.size)) (fun e2 => ?_)) (hg3.block _ hlt (fun e => hvr e.symm)), fun g hg => I.mem g ?_, ?_, (perm_midF acc LA f LB).symm.trans I.pm, ?_⟩
  · have := (I.row.lt M e2.symm).1
    have := hM M e
    omega
  · rcases List.mem_append.1 hg with h | h
    · exact List.mem_append_left _ h
    · exact List.mem_append_right _ (List.mem_cons_of_mem _ h)
  · rw [List.length_append, List.map_append, List.map_singleton, e1]
    exact hrow
  · have b2 : Below w.heap.size w w2 := I.bel.grown hg2 I.bel.size (fun k hk => by cases hk; exact Nat.le_refl _)
    exact b2.grown hg3 b2.size (fun k hk => (I.row.lt k hk).1)
/-- What the names come back as. -/
def FlPost (w w' : World) (l : List CF) (v : Value) : Prop :=
  ∃ (acc ss : List (List UInt8)) (p : Option Addr) (cap : Nat), v = .slice p ss.length cap ∧ acc.Perm (l.map nmB) ∧ ss = acc.mergeSort (fun x y => decide (x ≤ y)) ∧ Below w.heap.size w w' ∧ (ss = [] ∨ ∃ g, p = some ⟨g, 0, none⟩ ∧ w.heap.size ≤ g ∧ Holds encStr w' g 0 ss.toArray)
theorem sort_names (w : World) (base : Nat) (v : Value) (acc : List (List UInt8)) (hown : w.ownsRow base 9 1 v acc.length (acc.map encStr)) (hl : acc.length ≤ 1000000000000) :
    Calls Tryz.prog 54 #[v] w fun e w' => e = .returned (.tuple #[]) ∧ ∃ (ss : List (List UInt8)) (p : Option Addr) (cap : Nat), v = .slice p ss.length cap ∧ ss = acc.mergeSort (fun x y => decide (x ≤ y)) ∧ w.grownBy w' v.ownBlock ∧ (ss = [] ∨ ∃ g, p = some ⟨g, 0, none⟩ ∧ base ≤ g ∧ Holds encStr w' g 0 ss.toArray) := by
  rcases hown.2 with ⟨rfl, h0⟩ | ⟨g, cap, cur, rfl, hbg, hb, h1, h2, h3, htk⟩
  · have e : acc = [] := List.eq_nil_of_length_eq_zero h0
    subst e
    exact (Tryz.slices_Sort_string_none none 0 w).mono fun e w' ⟨h1, h2⟩ => ⟨h1, [], none, 0, rfl, by simp, by rw [h2]; exact ⟨rfl, rfl, rfl, Nat.le_refl _, fun _ _ _ => rfl⟩, Or.inl rfl⟩
  · have hH := holds_of_block hb (by simpa using htk)
    have hg := lt_of_block hb
    refine (Tryz.slices_Sort_string g 0 cap acc w hH hg (by omega)).mono ?_
    rintro e w' ⟨h4, n, os, rfl⟩
    have e3 : (acc.mergeSort fun x y => decide (x ≤ y)).length = acc.length := by simp
    refine ⟨h4, acc.mergeSort (fun x y => decide (x ≤ y)), some ⟨g, 0, none⟩, cap, by rw [e3], rfl, grownBy_sorted _, Or.inr ⟨g, rfl, hbg, ?_⟩⟩
    exact holds_grow _ _ _ _ _ _ (by simpa [putRow, mapBlock, Sort.ahead] using hg) (holds_putRow _ _ _ _ acc.toArray _ hH (by simp))
theorem infoSK : (Tryz.prog.info? 9).map (fun i => (i.zero, i.size, i.bytes)) = some (some (.string ⟨#[]⟩), 1, 16) := by kernel_rfl
set_option maxHeartbeats 3200000 in
set_option maxRecDepth 100000 in
/-- Files. -/
theorem kfiles_any (w : World) (base D : Nat) (l : List CF) (turns : Nat) (mo : Option Nat) (ro : Nat → Option Nat) (hl : l.length ≤ 100000) (h : CdAt w base D l turns mo ro) :
    Calls Tryz.prog 28 #[.pointer (some ⟨D, 0, none⟩)] w fun e w' => ∃ v, e = .returned v ∧ FlPost w w' l v := by
  have c0 := h.cell0
  obtain ⟨w1, hrun1, hR, hg1, hs1⟩ := range_map h.mp
  have HH : Hid (CdAt w base D l turns mo ro) := h
  have HI : FInv w w1 mo l (.slice none 0 0) [] l := ⟨hR, fun f hf => hf, World.ownsRow_nil _ _ _ _, List.Perm.refl _, ⟨hg1.os, hg1.tape, hg1.output, hg1.size, fun k hk => hg1.block k hk (by simp)⟩⟩
  obtain ⟨i0, hi, hz0, hz1, hz2⟩ := info_parts infoSK
  clear h hR hg1 hs1
  go_enter Tryz.func28, Tryz.ntmps28
  go_wp2
  go_loopw [3] (fun v wr => ∃ acc leftF, FInv w wr mo l v acc leftF) (fun _ wr => leftN wr mo w.heap.size)
  case atStart => exact ⟨[], l, HI⟩
  case round =>
    obtain ⟨acc, leftF, I⟩ := hrel
    obtain ⟨pv, nv, cv, rfl⟩ := own_form I.row
    rcases next_map I.rg 0 with ⟨h0, hrun⟩ | ⟨n, c, A, B, w2, hsp, hin, hrun, hrg, hg2, hs2, hen⟩
    · have e0 : leftF = [] := by
        unfold nmL at h0
        exact List.map_eq_nil_iff.1 h0
      subst e0
      have hpm := I.pm
      rw [List.map_nil, List.append_nil] at hpm
      have hacc : acc.length ≤ 1000000000000 := by
        have := hpm.length_eq
        rw [List.length_map] at this
        omega
      have hsort := sort_names wr w.heap.size (.slice pv nv cv) acc I.row hacc
      have HP : Hid (acc.Perm (l.map nmB)) := hpm
      clear hpm
      go_wp2_with (go_at_call 54; refine hsort.mono ?_; rintro e w9 ⟨rfl, ss, p, cap, h1, h2, h3, h4⟩; have HF : Hid (FlPost w w9 l (.slice pv nv cv)) := ⟨acc, ss, p, cap, h1, HP.out, h2, I.bel.grown h3 I.bel.size (fun k hk => (I.row.lt k hk).1), h4⟩; clear h1 h2 h3 h4)
      go_ret
      exact ⟨_, rfl, HF.out⟩
    · obtain ⟨LA, f, LB, rfl, rfl, rfl, hAB⟩ := split_nm hsp
      have hfl := I.mem f (by simp)
      have hsz := (HH.out.each f hfl).sz
      have HM : Hid (∀ M, mo = some M → M < w.heap.size) := fun M e => (HH.out.bd M (by rw [HH.out.rM M e]; simp)).2
      have hrow2 : w2.ownsRow w.heap.size 9 1 (.slice pv nv cv) acc.length (acc.map encStr) := own_keep I.row (fun g e => hg2.block g ((I.row.lt g e).2) (fun e2 => I.ne (e.trans e2)))
      have hacc : acc.length ≤ 100000 := by
        have := I.pm.length_eq
        rw [List.length_append, List.length_map, List.length_map] at this
        omega
      rw [← hAB] at hrg
      have hms : leftN wr mo w.heap.size = (nmL (LA ++ f :: LB)).length := I.rg.leftN
      change _ = Result.ok (Value.tuple #[_, _, Value.pointer (some ⟨f.c, 0, none⟩)]) w2 at hrun
      change _ = Result.ok (Value.tuple #[_, Value.pointer (some ⟨f.c, 0, none⟩)]) w2 at hen
      have hbase : w.heap.size ≤ w2.heap.size := Nat.le_trans I.bel.size hg2.size
      go_wp2_with (first
        | (at_builtin; refine wpList_append_own _ rfl (.tmp 16) (.tmp 19) 59 rfl w.heap.size 9 i0 _ 1 16 Tryz.underlying59 hi hz0 hz1 hz2 rfl (by decide) (.slice pv nv cv) acc.length (acc.map encStr) rfl (hrow3.alloc _) ⟨w3.heap.size, 0, none⟩ 1 1 [.string f.name] rfl rfl (World.news_of_block (cs := #[.string f.name]) (t := 9) (fr := (0, 0)) (heap_alloc_new w3 _)) (by simp [Value.oneCell']) (by unfold maxLen; omega) (by omega) (by simp; omega) ?_; intro v4 w4 hrow4 hg4 _)
        | (go_at_call 53; refine (kclone_any f.name _ (by omega)).mono ?_; rintro e w3 ⟨rfl, bel⟩; have hrow3 := own_keep hrow2 (fun g e => bel.block g ((hrow2.lt g e).2)); have hb3 : w.heap.size ≤ w3.heap.size := Nat.le_trans hbase bel.size))
      have hsz4 : w3.heap.size + 1 ≤ w4.heap.size := by simpa using hg4.size
      have hg3 : w2.grownBy w4 (Value.slice pv nv cv).ownBlock := ⟨hg4.os.trans bel.os, hg4.tape.trans bel.tape, hg4.output.trans bel.output, by have := bel.size; omega, fun k hk hne => by
        have hk3 : k < w3.heap.size := Nat.lt_of_lt_of_le hk bel.size
        rw [hg4.block k (by simp; omega) hne, heap_alloc_old w3 _ hk3]
        exact bel.block k hk⟩
      have I3 := I.step HM.out hrg hg2 hg3 hrow4
      refine ⟨⟨_, _, I3⟩, ?_⟩
      rw [I3.rg.leftN, hms]
      simp [nmL]
end Go.Proofs.YtodnnhidljfilaaGreatDoor
