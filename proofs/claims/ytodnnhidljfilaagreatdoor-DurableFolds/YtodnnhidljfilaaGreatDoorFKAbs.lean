/-
  The program's disk as plain data: each call, what it answers and what it leaves. The conditions: at most 100000 files, fewer than 2^62 appends, names no longer than a string may be.
-/
import Derived.Test.YtodnnhidljfilaaGreatDoorFPackT
import Derived.Test.YtodnnhidljfilaaGreatDoorFPackU
import Derived.Test.YtodnnhidljfilaaGreatDoorFKFiles
namespace Go.Proofs.YtodnnhidljfilaaGreatDoor
open Go.RowKit

/-- A file without where its slices lie. -/
def abs (f : CF) : CF := { f with bv := .slice none 0 0, lv := .slice none 0 0 }
theorem abs_lk (l : List CF) (n : ByteArray) : lk (l.map abs) n = (lk l n).map abs := by
  unfold lk
  rw [List.find?_map]
  rfl
theorem abs_setF (l : List CF) (f : CF) : (setF l f).map abs = setF (l.map abs) (abs f) := by
  unfold setF
  rw [List.map_map, List.map_map]
  refine List.map_congr_left fun g _ => ?_
  simp only [Function.comp]
  by_cases e : g.c = f.c
  · rw [if_pos e, if_pos (by exact e)]
  · rw [if_neg e, if_neg (by exact e)]
theorem abs_delF (l : List CF) (n : ByteArray) : (delF l n).map abs = delF (l.map abs) n := by
  unfold delF
  rw [List.filter_map]
  rfl
theorem abs_renF (l : List CF) (f : CF) (n : ByteArray) : (renF l f n).map abs = renF (l.map abs) (abs f) n := by
  unfold renF
  rw [abs_lk]
  by_cases h : lk l n = none
  · rw [if_pos h, if_pos (by rw [h]; rfl), List.map_append]
    rfl
  · rw [if_neg h, if_neg (by rw [Option.map_eq_none_iff]; exact h), List.map_map, List.map_map]
    refine List.map_congr_left fun g _ => ?_
    simp only [Function.comp]
    by_cases e : g.name = n
    · rw [if_pos e, if_pos (by exact e)]
      rfl
    · rw [if_neg e, if_neg (by exact e)]
theorem abs_allP (l : List CF) : allP (l.map abs) = allP l := by
  unfold allP
  rw [List.flatMap_map]
  rfl
theorem abs_nmB (l : List CF) : (l.map abs).map nmB = l.map nmB := by
  rw [List.map_map]
  rfl

/-- The disk in block D holds these files. -/
def DkS (w : World) (base D : Nat) (A : List CF) (turns : Nat) (ro : Nat → Option Nat) : Prop := ∃ l mo, CdAt w base D l turns mo ro ∧ l.map abs = A
theorem DkS.new (w : World) : DkS (w.alloc (.cells #[.map none, .int .i64 0] 80)) w.heap.size w.heap.size [] 0 (fun b => if b = w.heap.size then some b else none) := ⟨[], none, CdAt.new w, rfl⟩
theorem DkS.keep {w w' : World} {base D : Nat} {A : List CF} {turns : Nat} {ro : Nat → Option Nat} (h : DkS w base D A turns ro) (hs : w.heap.size ≤ w'.heap.size) (hk : ∀ b, ro b ≠ none → w'.heap[b]? = w.heap[b]?) : DkS w' base D A turns ro := by
  obtain ⟨l, mo, hc, e⟩ := h
  exact ⟨l, mo, hc.keep hs hk, e⟩
theorem DkS.bd {w : World} {base D : Nat} {A : List CF} {turns : Nat} {ro : Nat → Option Nat} (h : DkS w base D A turns ro) : ∀ b, ro b ≠ none → base ≤ b ∧ b < w.heap.size := by
  obtain ⟨l, mo, hc, e⟩ := h
  exact hc.bd
theorem DkS.base {w : World} {base D : Nat} {A : List CF} {turns : Nat} {ro : Nat → Option Nat} (h : DkS w base D A turns ro) : base ≤ w.heap.size := by
  obtain ⟨l, mo, hc, e⟩ := h
  have := hc.bd D (by rw [hc.rD]; simp)
  omega
theorem DkS.below {w w' : World} {base D : Nat} {A : List CF} {turns : Nat} {ro ro' : Nat → Option Nat} (h : DkS w base D A turns ro) (k : Ext w w' ro ro') : Below base w w' := by
  have hb := h.base
  obtain ⟨l, mo, hc, e⟩ := h
  exact k.below hc hb
/-- What a file is in plain data. -/
structure FOk (f : CF) : Prop where
  mx : f.bs.length ≤ 4194304
  sm : f.sure + tot f.ps = f.bs.length
  ps0 : ∀ p ∈ f.ps, 0 < p.2
  sz : f.name.size ≤ 64
theorem DkS.ok {w : World} {base D : Nat} {A : List CF} {turns : Nat} {ro : Nat → Option Nat} (h : DkS w base D A turns ro) : (∀ f ∈ A, FOk f) ∧ (A.map (·.c)).Nodup ∧ (A.map (·.name)).Nodup := by
  obtain ⟨l, mo, hc, rfl⟩ := h
  refine ⟨fun f hf => ?_, ?_, ?_⟩
  · obtain ⟨g, hg, rfl⟩ := List.mem_map.1 hf
    have hF := hc.each g hg
    exact ⟨hF.mx, hF.sm, hF.ps0, hF.sz⟩
  · rw [List.map_map]
    exact hc.nd
  · rw [List.map_map]
    exact hc.names
theorem DkS.fresh {w w' : World} {base D : Nat} {A : List CF} {turns : Nat} {ro : Nat → Option Nat} (h : DkS w base D A turns ro) (k : Below w.heap.size w w') : DkS w' base D A turns ro := h.keep k.size (fun b hb => k.block b (h.bd b hb).2)

section
variable {w : World} {base D : Nat} {A : List CF} {turns : Nat} {ro : Nat → Option Nat}
theorem S_sync (h : DkS w base D A turns ro) (n : ByteArray) (hn : n.size ≤ maxLen) (f : CF) (hf : lk A n = some f) :
    Calls Tryz.prog 73 #[.pointer (some ⟨D, 0, none⟩), .string n] w fun e w' => e = .returned (.int .i64 0) ∧ DkS w' base D (setF A (syncF f)) turns ro ∧ Ext w w' ro ro := by
  obtain ⟨l, mo, hc, rfl⟩ := h
  rw [abs_lk, Option.map_eq_some_iff] at hf
  obtain ⟨g, hg, rfl⟩ := hf
  exact (sync_yes w base D l turns mo ro n g hn hc hg).mono fun e w' ⟨h1, h2, h3⟩ => ⟨h1, ⟨_, _, h2, abs_setF l (syncF g)⟩, h3⟩
theorem S_read_no (h : DkS w base D A turns ro) (n : ByteArray) (hn : n.size ≤ maxLen) (hf : lk A n = none) :
    Calls Tryz.prog 102 #[.pointer (some ⟨D, 0, none⟩), .string n] w fun e w' => e = .returned (.tuple #[.string ⟨#[]⟩, .int .i64 5]) ∧ w = w' := by
  obtain ⟨l, mo, hc, rfl⟩ := h
  rw [abs_lk, Option.map_eq_none_iff] at hf
  exact read_no w base D l turns mo ro n hn hc hf
theorem S_read (h : DkS w base D A turns ro) (n : ByteArray) (hn : n.size ≤ maxLen) (f : CF) (hf : lk A n = some f) :
    Calls Tryz.prog 102 #[.pointer (some ⟨D, 0, none⟩), .string n] w fun e w' => e = .returned (.tuple #[.string (textOf f.bs), .int .i64 0]) ∧ w = w' := by
  obtain ⟨l, mo, hc, rfl⟩ := h
  rw [abs_lk, Option.map_eq_some_iff] at hf
  obtain ⟨g, hg, rfl⟩ := hf
  exact read_yes w base D l turns mo ro n g hn hc hg
theorem S_remove_no (h : DkS w base D A turns ro) (n : ByteArray) (hn : n.size ≤ maxLen) (hf : lk A n = none) :
    Calls Tryz.prog 87 #[.pointer (some ⟨D, 0, none⟩), .string n] w fun e w' => e = .returned (.int .i64 5) ∧ w = w' := by
  obtain ⟨l, mo, hc, rfl⟩ := h
  rw [abs_lk, Option.map_eq_none_iff] at hf
  exact remove_no w base D l turns mo ro n hn hc hf
theorem S_remove (h : DkS w base D A turns ro) (n : ByteArray) (hn : n.size ≤ maxLen) (f : CF) (hf : lk A n = some f) :
    Calls Tryz.prog 87 #[.pointer (some ⟨D, 0, none⟩), .string n] w fun e w' => e = .returned (.int .i64 0) ∧ DkS w' base D (delF A n) turns ro ∧ Ext w w' ro ro := by
  obtain ⟨l, mo, hc, rfl⟩ := h
  rw [abs_lk, Option.map_eq_some_iff] at hf
  obtain ⟨g, hg, rfl⟩ := hf
  exact (remove_yes w base D l turns mo ro n g hn hc hg).mono fun e w' ⟨h1, h2, h3⟩ => ⟨h1, ⟨_, _, h2, abs_delF l n⟩, h3⟩
theorem S_rename (h : DkS w base D A turns ro) (n m : ByteArray) (hm : nameB m = true) (hn : n.size ≤ maxLen) (f : CF) (hf : lk A n = some f) :
    Calls Tryz.prog 85 #[.pointer (some ⟨D, 0, none⟩), .string n, .string m] w fun e w' => e = .returned (.int .i64 0) ∧ DkS w' base D (renF (delF A n) f m) turns ro ∧ Ext w w' ro ro := by
  obtain ⟨l, mo, hc, rfl⟩ := h
  rw [abs_lk, Option.map_eq_some_iff] at hf
  obtain ⟨g, hg, rfl⟩ := hf
  exact (rename_yes w base D l turns mo ro n m g hm hn hc hg).mono fun e w' ⟨h1, h2, h3⟩ => ⟨h1, ⟨_, _, h2, by rw [abs_renF, abs_delF]⟩, h3⟩
/-- A crash: d is all pieces in their order. -/
def crA (d : List P3) (K : Nat) (f : CF) : CF := abs (crashF d K f)
theorem S_crash (h : DkS w base D A turns ro) (keep : Int) (hk1 : -9223372036854775808 ≤ keep) (hk2 : keep ≤ 9223372036854775807) (hl : A.length ≤ 100000) :
    Calls Tryz.prog 24 #[.pointer (some ⟨D, 0, none⟩), .int .i64 keep] w fun e w' => e = .returned (.tuple #[]) ∧ ∃ d, d.Perm (allP A) ∧ d.Pairwise (fun x y => x.1 ≤ y.1) ∧ DkS w' base D (A.map (crA d keep.toNat)) turns ro ∧ Ext w w' ro ro := by
  obtain ⟨l, mo, hc, rfl⟩ := h
  refine (crash_any w base D l turns mo ro keep hk1 hk2 (by simpa using hl) hc).mono fun e w' ⟨h1, d, h2, h3, h4, h5⟩ => ⟨h1, d, by rw [abs_allP]; exact h2, h3, ⟨_, _, h4, ?_⟩, h5⟩
  rw [List.map_map, List.map_map]
  rfl
theorem S_files (h : DkS w base D A turns ro) (hl : A.length ≤ 100000) :
    Calls Tryz.prog 28 #[.pointer (some ⟨D, 0, none⟩)] w fun e w' => ∃ v, e = .returned v ∧ FlPost w w' A v := by
  obtain ⟨l, mo, hc, rfl⟩ := h
  refine (kfiles_any w base D l turns mo ro (by simpa using hl) hc).mono fun e w' ⟨v, h1, acc, ss, p, cap, h2, h3, h4⟩ => ⟨v, h1, acc, ss, p, cap, h2, by rw [abs_nmB]; exact h3, h4⟩
/-- Append: what becomes of a file; of none. -/
def appA (f : CF) (s : ByteArray) (t : Nat) : CF := appF f s t (.slice none 0 0) (.slice none 0 0)
theorem S_append_none (h : DkS w base D A turns ro) (n : ByteArray) (hn : nameB n = true) (f : CF) (hf : lk A n = some f) :
    Calls Tryz.prog 76 #[.pointer (some ⟨D, 0, none⟩), .string n, .string ⟨#[]⟩] w fun e w' => e = .returned (.int .i64 0) ∧ w = w' := by
  obtain ⟨l, mo, hc, rfl⟩ := h
  rw [abs_lk, Option.map_eq_some_iff] at hf
  obtain ⟨g, hg, rfl⟩ := hf
  exact append_none w base D l turns mo ro n g hn hc hg
theorem S_append_noneN (h : DkS w base D A turns ro) (n : ByteArray) (hn : nameB n = true) (hf : lk A n = none) :
    Calls Tryz.prog 76 #[.pointer (some ⟨D, 0, none⟩), .string n, .string ⟨#[]⟩] w fun e w' => e = .returned (.int .i64 0) ∧ ∃ c ro', DkS w' base D (A ++ [newF n c]) turns ro' ∧ Ext w w' ro ro' := by
  obtain ⟨l, mo, hc, rfl⟩ := h
  rw [abs_lk, Option.map_eq_none_iff] at hf
  exact (append_noneN w base D l turns mo ro n hn hc hf).mono fun e w' ⟨h1, M, ro', h2, h3⟩ => ⟨h1, _, ro', ⟨_, _, h2, by rw [List.map_append]; rfl⟩, h3⟩
theorem S_append (h : DkS w base D A turns ro) (n s : ByteArray) (hn : nameB n = true) (f : CF) (hf : lk A n = some f) (h0 : 0 < s.size) (hlen : f.bs.length + s.size ≤ 4194304) (htn : turns < 4611686018427387904) :
    Calls Tryz.prog 76 #[.pointer (some ⟨D, 0, none⟩), .string n, .string s] w fun e w' => e = .returned (.int .i64 0) ∧ ∃ ro', DkS w' base D (setF A (appA f s (turns + 1))) (turns + 1) ro' ∧ Ext w w' ro ro' := by
  obtain ⟨l, mo, hc, rfl⟩ := h
  rw [abs_lk, Option.map_eq_some_iff] at hf
  obtain ⟨g, hg, rfl⟩ := hf
  exact (append_found w base D l turns mo ro n s g hn hc hg h0 hlen htn).mono fun e w' ⟨h1, b', l', ro', h2, h3⟩ => ⟨h1, ro', ⟨_, _, h2, abs_setF _ _⟩, h3⟩
theorem setF_last (l : List CF) (f f' : CF) (hc : f'.c = f.c) (hn : ∀ g ∈ l, g.c ≠ f.c) : setF (l ++ [f]) f' = l ++ [f'] := by
  unfold setF
  rw [List.map_append, List.map_singleton, if_pos hc.symm]
  congr 1
  conv => rhs; rw [← List.map_id l]
  refine List.map_congr_left fun g hg => ?_
  rw [if_neg (by rw [hc]; exact hn g hg)]
  rfl
theorem S_append_new (h : DkS w base D A turns ro) (n s : ByteArray) (hn : nameB n = true) (hf : lk A n = none) (h0 : 0 < s.size) (hlen : s.size ≤ 4194304) (htn : turns < 4611686018427387904) :
    Calls Tryz.prog 76 #[.pointer (some ⟨D, 0, none⟩), .string n, .string s] w fun e w' => e = .returned (.int .i64 0) ∧ ∃ c ro', DkS w' base D (A ++ [appA (newF n c) s (turns + 1)]) (turns + 1) ro' ∧ Ext w w' ro ro' := by
  obtain ⟨l, mo, hc, rfl⟩ := h
  rw [abs_lk, Option.map_eq_none_iff] at hf
  refine (append_new w base D l turns mo ro n s hn hc hf h0 hlen htn).mono fun e w' ⟨h1, M, b', l', ro', h2, h3⟩ => ⟨h1, w.heap.size, ro', ⟨_, _, h2, ?_⟩, h3⟩
  rw [setF_last l (newF n w.heap.size) (appF (newF n w.heap.size) s (turns + 1) b' l') rfl (fun g hg e => by
    have := lt_of_block (hc.each g hg).bl
    have e2 : g.c = w.heap.size := e
    omega), List.map_append]
  rfl
end
end Go.Proofs.YtodnnhidljfilaaGreatDoor
