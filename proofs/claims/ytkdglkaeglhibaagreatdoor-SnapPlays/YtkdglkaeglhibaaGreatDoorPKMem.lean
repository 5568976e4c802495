/-
  The program's disk (package disk) in memory: a map from names to files, each with its bytes and its pieces; whose block is whose. No condition.
-/
import Derived.Test.YtkdglkaeglhibaaGreatDoorPKMap
import Derived.Test.YtkdglkaeglhibaaGreatDoorPDkMake
import Derived.Lib.BufferWrite
namespace Go.Proofs.YtkdglkaeglhibaaGreatDoor
open Go.RowKit Go.MapKept

/-- A file: its name, its block, the values of its two slices, its bytes, how many are sure, what each append brought (its turn, its size). -/
structure CF where
  name : ByteArray
  c : Nat
  bv : Value
  lv : Value
  bs : List UInt8
  sure : Nat
  ps : List (Nat × Nat)
def pcL (c : Nat) (p : Nat × Nat) : List Value := [.int .i64 (p.1 : Int), .int .i64 (p.2 : Int), .pointer (some ⟨c, 0, none⟩)]
def pcsL (c : Nat) (ps : List (Nat × Nat)) : List Value := ps.flatMap (pcL c)
/-- Together. -/
def tot (ps : List (Nat × Nat)) : Nat := (ps.map (·.2)).sum

/-- A file in memory; 'ro': to whom a block belongs. -/
structure CfAt (w : World) (base : Nat) (ro : Nat → Option Nat) (f : CF) : Prop where
  bl : w.heap[f.c]? = some (.cells #[f.bv, .int .i64 (f.sure : Int), f.lv] 65 (0, 0))
  rb : w.ownsRow base 5 1 f.bv f.bs.length (Lib.byteCells f.bs)
  rl : w.ownsRow base 62 3 f.lv f.ps.length (pcsL f.c f.ps)
  rc : ro f.c = some f.c
  ob : ∀ g, f.bv.ownBlock = some g → ro g = some f.c
  ol : ∀ g, f.lv.ownBlock = some g → ro g = some f.c
  mx : f.bs.length ≤ 4194304
  sm : f.sure + tot f.ps = f.bs.length
  ps0 : ∀ p ∈ f.ps, 0 < p.2
  sz : f.name.size ≤ 64
theorem tot_length : ∀ (ps : List (Nat × Nat)), (∀ p ∈ ps, 0 < p.2) → ps.length ≤ tot ps
  | [], _ => Nat.le_refl _
  | p :: ps, h => by
    have h1 := tot_length ps (fun q hq => h q (by simp [hq]))
    have h2 := h p (by simp)
    unfold tot at h1 ⊢
    rw [List.map_cons, List.sum_cons, List.length_cons]
    omega
theorem CfAt.le {w : World} {base : Nat} {ro : Nat → Option Nat} {f : CF} (h : CfAt w base ro f) : f.sure ≤ f.bs.length := by have := h.sm; omega
theorem CfAt.pl {w : World} {base : Nat} {ro : Nat → Option Nat} {f : CF} (h : CfAt w base ro f) : f.ps.length ≤ 4194304 := by
  have h1 := tot_length f.ps h.ps0
  have h2 := h.sm
  have h3 := h.mx
  omega
theorem CfAt.keep {w w' : World} {base : Nat} {ro ro' : Nat → Option Nat} {f : CF} (h : CfAt w base ro f) (hk : ∀ b, ro b = some f.c → w'.heap[b]? = w.heap[b]?) (ho : ∀ b, ro b = some f.c → ro' b = ro b) : CfAt w' base ro' f :=
  ⟨(hk _ h.rc).trans h.bl, own_keep h.rb (fun g e => hk g (h.ob g e)), own_keep h.rl (fun g e => hk g (h.ol g e)), (ho _ h.rc).trans h.rc, fun g e => (ho g (h.ob g e)).trans (h.ob g e), fun g e => (ho g (h.ol g e)).trans (h.ol g e), h.mx, h.sm, h.ps0, h.sz⟩
theorem CfAt.cell0 {w : World} {base : Nat} {ro : Nat → Option Nat} {f : CF} (h : CfAt w base ro f) : w.cell? ⟨f.c, 0, none⟩ = some f.bv := by simp [World.cell?, h.bl]
theorem CfAt.cell1 {w : World} {base : Nat} {ro : Nat → Option Nat} {f : CF} (h : CfAt w base ro f) : w.cell? ⟨f.c, 1, none⟩ = some (.int .i64 (f.sure : Int)) := by simp [World.cell?, h.bl]
theorem CfAt.cell2 {w : World} {base : Nat} {ro : Nat → Option Nat} {f : CF} (h : CfAt w base ro f) : w.cell? ⟨f.c, 2, none⟩ = some f.lv := by simp [World.cell?, h.bl]

def nmL (l : List CF) : List (ByteArray × Nat) := l.map fun f => (f.name, f.c)
/-- The disk in block D. -/
structure CdAt (w : World) (base D : Nat) (l : List CF) (turns : Nat) (mo : Option Nat) (ro : Nat → Option Nat) : Prop where
  bl : w.heap[D]? = some (.cells #[.map mo, .int .i64 (turns : Int)] 48 (0, 0))
  mp : mapO w mo (nmL l)
  each : ∀ f ∈ l, CfAt w base ro f
  rD : ro D = some D
  rM : ∀ M, mo = some M → ro M = some D
  nd : (l.map (·.c)).Nodup
  bd : ∀ b, ro b ≠ none → base ≤ b ∧ b < w.heap.size
theorem CdAt.cell0 {w : World} {base D : Nat} {l : List CF} {turns : Nat} {mo : Option Nat} {ro : Nat → Option Nat} (h : CdAt w base D l turns mo ro) : w.cell? ⟨D, 0, none⟩ = some (.map mo) := by simp [World.cell?, h.bl]
theorem CdAt.cell1 {w : World} {base D : Nat} {l : List CF} {turns : Nat} {mo : Option Nat} {ro : Nat → Option Nat} (h : CdAt w base D l turns mo ro) : w.cell? ⟨D, 1, none⟩ = some (.int .i64 (turns : Int)) := by simp [World.cell?, h.bl]
theorem CdAt.neD {w : World} {base D : Nat} {l : List CF} {turns : Nat} {mo : Option Nat} {ro : Nat → Option Nat} (h : CdAt w base D l turns mo ro) {f : CF} (hf : f ∈ l) : f.c ≠ D := by
  intro e
  have h1 := (h.each f hf).bl
  rw [e, h.bl] at h1
  simp at h1
theorem CdAt.neM {w : World} {base D : Nat} {l : List CF} {turns : Nat} {mo : Option Nat} {ro : Nat → Option Nat} (h : CdAt w base D l turns mo ro) {M : Nat} (hM : mo = some M) : M ≠ D := by
  intro e
  have h1 := h.mp
  rw [hM] at h1
  obtain ⟨es, clock, hb, _⟩ := h1
  rw [e, h.bl] at hb
  simp at hb
theorem CdAt.names {w : World} {base D : Nat} {l : List CF} {turns : Nat} {mo : Option Nat} {ro : Nat → Option Nat} (h : CdAt w base D l turns mo ro) : (l.map (·.name)).Nodup := by
  have e : l.map (·.name) = (nmL l).map (·.1) := by unfold nmL; rw [List.map_map]; rfl
  rw [e]
  have h1 := h.mp
  cases mo with
  | none =>
    have h2 : nmL l = [] := h1
    rw [h2]
    exact List.nodup_nil
  | some M => exact MapAt.nodup h1

/-- What a call of the disk leaves: what is not the disk's has not turned. -/
structure Ext (w w' : World) (ro ro' : Nat → Option Nat) : Prop where
  os : w'.os = w.os
  tape : w'.tape = w.tape
  output : w'.output = w.output
  size : w.heap.size ≤ w'.heap.size
  old : ∀ b, b < w.heap.size → ro' b = ro b
  kept : ∀ b, b < w.heap.size → ro b = none → w'.heap[b]? = w.heap[b]?
theorem Ext.refl (w : World) (ro : Nat → Option Nat) : Ext w w ro ro := ⟨rfl, rfl, rfl, Nat.le_refl _, fun _ _ => rfl, fun _ _ _ => rfl⟩
theorem Ext.trans {a b c : World} {ra rb rc : Nat → Option Nat} (h : Ext a b ra rb) (k : Ext b c rb rc) : Ext a c ra rc :=
  ⟨k.os.trans h.os, k.tape.trans h.tape, k.output.trans h.output, Nat.le_trans h.size k.size, fun i hi => (k.old i (Nat.lt_of_lt_of_le hi h.size)).trans (h.old i hi),
    fun i hi hr => (k.kept i (Nat.lt_of_lt_of_le hi h.size) (by rw [h.old i hi]; exact hr)).trans (h.kept i hi hr)⟩
theorem Ext.below {w w' : World} {base D : Nat} {l : List CF} {turns : Nat} {mo : Option Nat} {ro ro' : Nat → Option Nat} (h : CdAt w base D l turns mo ro) (k : Ext w w' ro ro') (hb : base ≤ w.heap.size) : Below base w w' :=
  ⟨k.os, k.tape, k.output, k.size, fun i hi => k.kept i (by omega) (by
    cases hr : ro i with
    | none => rfl
    | some x =>
      have := (h.bd i (by rw [hr]; simp)).1
      omega)⟩
/-- The disk where nothing of it has turned. -/
theorem CdAt.keep {w w' : World} {base D : Nat} {l : List CF} {turns : Nat} {mo : Option Nat} {ro : Nat → Option Nat} (h : CdAt w base D l turns mo ro) (hs : w.heap.size ≤ w'.heap.size) (hk : ∀ b, ro b ≠ none → w'.heap[b]? = w.heap[b]?) : CdAt w' base D l turns mo ro := by
  refine ⟨(hk D (by rw [h.rD]; simp)).trans h.bl, ?_, fun f hf => (h.each f hf).keep (fun b hb => hk b (by rw [hb]; simp)) (fun _ _ => rfl), h.rD, h.rM, h.nd, fun b hb => ⟨(h.bd b hb).1, Nat.lt_of_lt_of_le (h.bd b hb).2 hs⟩⟩
  cases hm : mo with
  | none =>
    have := h.mp
    rw [hm] at this
    exact this
  | some M =>
    have := h.mp
    rw [hm] at this
    exact MapAt.kept this (hk M (by rw [h.rM M hm]; simp))
theorem CdAt.drew {w : World} {base D : Nat} {l : List CF} {turns : Nat} {mo : Option Nat} {ro : Nat → Option Nat} (h : CdAt w base D l turns mo ro) : CdAt w.drew base D l turns mo ro := h.keep (Nat.le_refl _) (fun _ _ => rfl)
theorem Ext.drew (w : World) (ro : Nat → Option Nat) : Ext w w.drew ro ro := ⟨rfl, rfl, rfl, Nat.le_refl _, fun _ _ => rfl, fun _ _ _ => rfl⟩

/-- A file by its name; a file put in its own place. -/
def lk (l : List CF) (n : ByteArray) : Option CF := l.find? fun f => decide (f.name = n)
def setF (l : List CF) (f : CF) : List CF := l.map fun g => if g.c = f.c then f else g
theorem lk_mem {l : List CF} {n : ByteArray} {f : CF} (h : lk l n = some f) : f ∈ l ∧ f.name = n := by
  unfold lk at h
  exact ⟨List.mem_of_find?_eq_some h, by simpa using List.find?_some h⟩
theorem lk_no {l : List CF} {n : ByteArray} (h : lk l n = none) : ∀ f ∈ l, f.name ≠ n := by
  unfold lk at h
  rw [List.find?_eq_none] at h
  intro f hf
  simpa using h f hf
theorem lookF_lk (l : List CF) (n : ByteArray) : lookF (nmL l) n = (lk l n).map (·.c) := by
  unfold lookF lk nmL
  rw [List.find?_map, Option.map_map]
  rfl
theorem CdAt.look {w : World} {base D : Nat} {l : List CF} {turns : Nat} {mo : Option Nat} {ro : Nat → Option Nat} (h : CdAt w base D l turns mo ro) {n : ByteArray} (hn : n.size ≤ maxLen) :
    (Instr.lookup 46 (.map mo) (.string n) false).run Tryz.prog w = .ok (ptrO ((lk l n).map (·.c))) w := by
  have h1 := h.mp
  rw [← lookF_lk]
  cases mo with
  | none =>
    have h2 : nmL l = [] := h1
    rw [h2]
    exact look_nil w hn
  | some M => exact look_map h1 hn
theorem nodup_at {l : List CF} (hn : (l.map (·.c)).Nodup) {f g : CF} (hf : f ∈ l) (hg : g ∈ l) (e : g.c = f.c) : g = f := by
  induction l with
  | nil => simp at hf
  | cons a l ih =>
    rw [List.map_cons, List.nodup_cons] at hn
    rcases List.mem_cons.1 hf with e1 | hf2
    · rcases List.mem_cons.1 hg with e2 | hg2
      · rw [e1, e2]
      · exact absurd (by rw [← e1, ← e]; exact List.mem_map.2 ⟨g, hg2, rfl⟩) hn.1
    · rcases List.mem_cons.1 hg with e2 | hg2
      · exact absurd (by rw [← e2, e]; exact List.mem_map.2 ⟨f, hf2, rfl⟩) hn.1
      · exact ih hn.2 hf2 hg2
theorem setF_nm {l : List CF} (hn : (l.map (·.c)).Nodup) {f f' : CF} (hf : f ∈ l) (h1 : f'.name = f.name) (h2 : f'.c = f.c) : nmL (setF l f') = nmL l := by
  unfold nmL setF
  rw [List.map_map]
  refine List.map_congr_left fun g hg => ?_
  simp only [Function.comp]
  by_cases e : g.c = f'.c
  · rw [if_pos e, nodup_at hn hf hg (e.trans h2), h1, h2]
  · rw [if_neg e]
theorem setF_c (l : List CF) (f' : CF) : (setF l f').map (·.c) = l.map (·.c) := by
  unfold setF
  rw [List.map_map]
  refine List.map_congr_left fun g _ => ?_
  simp only [Function.comp]
  by_cases e : g.c = f'.c
  · rw [if_pos e, e]
  · rw [if_neg e]
theorem setF_mem {l : List CF} {f' g : CF} (h : g ∈ setF l f') : g = f' ∨ (g ∈ l ∧ g.c ≠ f'.c) := by
  unfold setF at h
  obtain ⟨x, hx, rfl⟩ := List.mem_map.1 h
  by_cases e : x.c = f'.c
  · rw [if_pos e]
    exact Or.inl rfl
  · rw [if_neg e]
    exact Or.inr ⟨hx, e⟩
/-- One file has turned, and perhaps the count of turns. -/
theorem CdAt.upd {w w' : World} {base D : Nat} {l : List CF} {turns : Nat} {mo : Option Nat} {ro ro' : Nat → Option Nat} (h : CdAt w base D l turns mo ro) {f f' : CF} (hf : f ∈ l) (h1 : f'.name = f.name) (h2 : f'.c = f.c) (hF : CfAt w' base ro' f') {turns' : Nat}
    (hD : w'.heap[D]? = some (.cells #[.map mo, .int .i64 (turns' : Int)] 48 (0, 0))) (hk : ∀ b, b < w.heap.size → b ≠ D → ro b ≠ some f.c → w'.heap[b]? = w.heap[b]?) (ho : ∀ b, b < w.heap.size → ro' b = ro b)
    (hbd : ∀ b, ro' b ≠ none → base ≤ b ∧ b < w'.heap.size) : CdAt w' base D (setF l f') turns' mo ro' := by
  have lt : ∀ b x, ro b = some x → b < w.heap.size := fun b x e => (h.bd b (by rw [e]; simp)).2
  refine ⟨hD, ?_, fun g hg => ?_, (ho D (lt D D h.rD)).trans h.rD, fun M hM => (ho M (lt M D (h.rM M hM))).trans (h.rM M hM), by rw [setF_c]; exact h.nd, hbd⟩
  · rw [setF_nm h.nd hf h1 h2]
    cases hm : mo with
    | none =>
      have := h.mp
      rw [hm] at this
      exact this
    | some M =>
      have := h.mp
      rw [hm] at this
      exact MapAt.kept this (hk M (lt M D (h.rM M hm)) (h.neM hm) (by rw [h.rM M hm]; intro e; exact h.neD hf (Option.some.inj e).symm))
  · rcases setF_mem hg with rfl | ⟨hg, hne⟩
    · exact hF
    · refine (h.each g hg).keep (fun b hb => hk b (lt b _ hb) ?_ ?_) (fun b hb => ho b (lt b _ hb))
      · rintro rfl
        rw [h.rD] at hb
        exact h.neD hg (Option.some.inj hb).symm
      · rw [hb]
        intro e
        exact hne ((Option.some.inj e).trans h2.symm)
end Go.Proofs.YtkdglkaeglhibaaGreatDoor
