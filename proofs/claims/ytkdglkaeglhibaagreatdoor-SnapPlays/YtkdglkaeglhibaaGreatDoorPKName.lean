/-
  The program's disk: a file removed, a file renamed. The condition: a name that is looked for has no more bytes than a string may.
-/
import Derived.Test.YtkdglkaeglhibaaGreatDoorPKAppend
namespace Go.Proofs.YtkdglkaeglhibaaGreatDoor
open Go.RowKit

def delF (l : List CF) (n : ByteArray) : List CF := l.filter fun f => !decide (f.name = n)
theorem delF_nm (l : List CF) (n : ByteArray) : nmL (delF l n) = (nmL l).filter fun p => !decide (p.1 = n) := by
  unfold nmL delF
  rw [List.filter_map]
  rfl
theorem delF_mem {l : List CF} {n : ByteArray} {f : CF} (h : f ∈ delF l n) : f ∈ l ∧ f.name ≠ n := by
  unfold delF at h
  rw [List.mem_filter] at h
  exact ⟨h.1, by simpa using h.2⟩
theorem CdAt.dropped {w w' : World} {base D : Nat} {l : List CF} {turns M : Nat} {ro : Nat → Option Nat} {n : ByteArray} (h : CdAt w base D l turns (some M) ro) (hm : MapAt w' M ((nmL l).filter fun p => !decide (p.1 = n))) (hg : w.grownBy w' (some M)) :
    CdAt w' base D (delF l n) turns (some M) ro ∧ Ext w w' ro ro := by
  have lt : ∀ b x, ro b = some x → b < w.heap.size := fun b x e => (h.bd b (by rw [e]; simp)).2
  have hMD := h.neM rfl
  refine ⟨⟨(hg.block D (lt D D h.rD) (by simpa using hMD.symm)).trans h.bl, by rw [delF_nm]; exact hm, fun f hf => ?_, h.rD, h.rM, ?_, fun b hb => ⟨(h.bd b hb).1, Nat.lt_of_lt_of_le (h.bd b hb).2 hg.size⟩⟩, hg.os, hg.tape, hg.output, hg.size, fun _ _ => rfl, fun b hb hr => hg.block b hb ?_⟩
  · have hfl := (delF_mem hf).1
    refine (h.each f hfl).keep (fun b hb => hg.block b (lt b _ hb) ?_) (fun _ _ => rfl)
    intro e
    simp only [Option.some.injEq] at e
    subst e
    rw [h.rM b rfl] at hb
    exact h.neD hfl (Option.some.inj hb).symm
  · exact List.Nodup.sublist (List.Sublist.map _ List.filter_sublist) h.nd
  · intro e
    simp only [Option.some.injEq] at e
    subst e
    rw [h.rM b rfl] at hr
    simp at hr
theorem CdAt.isMap {w : World} {base D : Nat} {l : List CF} {turns : Nat} {mo : Option Nat} {ro : Nat → Option Nat} {n : ByteArray} {f : CF} (h : CdAt w base D l turns mo ro) (hf : lk l n = some f) : ∃ M, mo = some M := by
  cases mo with
  | none =>
    have h2 : nmL l = [] := h.mp
    have h3 := lookF_lk l n
    rw [h2, hf] at h3
    simp [lookF] at h3
  | some M => exact ⟨M, rfl⟩

theorem remove_no (w : World) (base D : Nat) (l : List CF) (turns : Nat) (mo : Option Nat) (ro : Nat → Option Nat) (n : ByteArray) (hn : n.size ≤ maxLen) (h : CdAt w base D l turns mo ro) (hf : lk l n = none) :
    Calls Tryz.prog 47 #[.pointer (some ⟨D, 0, none⟩), .string n] w fun e w' => e = .returned (.int .i64 5) ∧ w = w' := by
  have hc := find_no w base D l turns mo ro n hn h hf
  clear hf h
  go_enter Tryz.func47, Tryz.ntmps47
  go_wp2_with (go_at_call 49; refine hc.mono ?_; rintro e w1 ⟨rfl, rfl⟩)
  go_ret
  exact ⟨rfl, rfl⟩
set_option maxRecDepth 100000 in
theorem remove_yes (w : World) (base D : Nat) (l : List CF) (turns : Nat) (mo : Option Nat) (ro : Nat → Option Nat) (n : ByteArray) (f : CF) (hn : n.size ≤ maxLen) (h : CdAt w base D l turns mo ro) (hf : lk l n = some f) :
    Calls Tryz.prog 47 #[.pointer (some ⟨D, 0, none⟩), .string n] w fun e w' => e = .returned (.int .i64 0) ∧ CdAt w' base D (delF l n) turns mo ro ∧ Ext w w' ro ro := by
  obtain ⟨M, rfl⟩ := h.isMap hf
  have hc := find_yes w base D l turns (some M) ro n f hn h hf
  have c0 := h.cell0
  have hm : MapAt w M (nmL l) := h.mp
  have HH : Hid (CdAt w base D l turns (some M) ro) := h
  obtain ⟨w2, hrun, hm2, hg2, hs2⟩ := del_map hm hn 0
  clear hf h
  go_enter Tryz.func47, Tryz.ntmps47
  go_wp2_with (first | (go_at_call 49; refine hc.mono ?_; rintro e w1 ⟨rfl, rfl⟩))
  go_ret
  exact ⟨rfl, CdAt.dropped HH.out hm2 hg2⟩

/-- Rename. -/
def nameF (f : CF) (n : ByteArray) : CF := { f with name := n }
def renF (l : List CF) (f : CF) (n : ByteArray) : List CF := if lk l n = none then l ++ [nameF f n] else l.map fun g => if g.name = n then nameF f n else g
theorem renF_nm (l : List CF) (f : CF) (n : ByteArray) : nmL (renF l f n) = putK (nmL l) n f.c := by
  unfold renF putK
  rw [lookF_lk]
  by_cases h : lk l n = none
  · rw [if_pos h, if_pos (by rw [h]; rfl)]
    unfold nmL
    rw [List.map_append]
    rfl
  · rw [if_neg h, if_neg (by rw [Option.map_eq_none_iff]; exact h)]
    unfold nmL
    rw [List.map_map, List.map_map]
    refine List.map_congr_left fun g _ => ?_
    simp only [Function.comp]
    by_cases e : g.name = n
    · rw [if_pos e, if_pos e]
      rfl
    · rw [if_neg e, if_neg e]
theorem renF_mem {l : List CF} {f g : CF} {n : ByteArray} (h : g ∈ renF l f n) : g = nameF f n ∨ g ∈ l := by
  unfold renF at h
  by_cases e : lk l n = none
  · rw [if_pos e, List.mem_append, List.mem_singleton] at h
    exact h.symm
  · rw [if_neg e] at h
    obtain ⟨x, hx, rfl⟩ := List.mem_map.1 h
    by_cases e2 : x.name = n
    · rw [if_pos e2]
      exact Or.inl rfl
    · rw [if_neg e2]
      exact Or.inr hx
theorem renF_nd {l : List CF} {f : CF} {n : ByteArray} (hn : (l.map (·.c)).Nodup) (hnm : (l.map (·.name)).Nodup) (hf : ∀ g ∈ l, g.c ≠ f.c) : ((renF l f n).map (·.c)).Nodup := by
  unfold renF
  by_cases e : lk l n = none
  · rw [if_pos e, List.map_append, List.nodup_append]
    refine ⟨hn, by simp, fun a ha b hb => ?_⟩
    simp only [List.map_cons, List.map_nil, List.mem_singleton] at hb
    obtain ⟨g, hg, rfl⟩ := List.mem_map.1 ha
    rw [hb]
    exact hf g hg
  · rw [if_neg e]
    clear e
    induction l with
    | nil => simp
    | cons a l ih =>
      rw [List.map_cons, List.nodup_cons] at hn hnm
      rw [List.map_cons, List.map_cons, List.nodup_cons]
      refine ⟨?_, ih hn.2 hnm.2 (fun g hg => hf g (by simp [hg]))⟩
      intro hm
      obtain ⟨y, hy, ey⟩ := List.mem_map.1 hm
      obtain ⟨x, hx, rfl⟩ := List.mem_map.1 hy
      by_cases e1 : x.name = n
      · rw [if_pos e1] at ey
        by_cases e2 : a.name = n
        · exact hnm.1 (by rw [e2, ← e1]; exact List.mem_map.2 ⟨x, hx, rfl⟩)
        · rw [if_neg e2] at ey
          exact hf a (by simp) ey.symm
      · rw [if_neg e1] at ey
        by_cases e2 : a.name = n
        · rw [if_pos e2] at ey
          exact hf x (by simp [hx]) ey
        · rw [if_neg e2] at ey
          exact hn.1 (by rw [← ey]; exact List.mem_map.2 ⟨x, hx, rfl⟩)
theorem CdAt.renamed {w w' : World} {base D : Nat} {l : List CF} {turns M M' : Nat} {ro : Nat → Option Nat} {f : CF} {n : ByteArray} (h : CdAt w base D l turns (some M) ro) (hF : CfAt w base ro f) (hfD : f.c ≠ D) (hfl : ∀ g ∈ l, g.c ≠ f.c) (hn : n.size ≤ 64)
    (hp : Putted w w' D (some M) turns M' (putK (nmL l) n f.c)) : CdAt w' base D (renF l f n) turns (some M) ro ∧ Ext w w' ro ro := by
  have lt : ∀ b x, ro b = some x → b < w.heap.size := fun b x e => (h.bd b (by rw [e]; simp)).2
  have eM : M' = M := by
    rcases hp.ms with e | ⟨e, _⟩
    · exact (Option.some.inj e).symm
    · simp at e
  subst eM
  have ko : ∀ b x, ro b = some x → x ≠ D → w'.heap[b]? = w.heap[b]? := fun b x hb hx => hp.kept b (lt b x hb) (by
    rintro rfl
    rw [h.rD] at hb
    exact hx (Option.some.inj hb).symm) (by
    intro e
    rw [h.rM b e] at hb
    exact hx (Option.some.inj hb).symm)
  refine ⟨⟨hp.bl, by rw [renF_nm]; exact hp.mp, fun g hg => ?_, h.rD, h.rM, renF_nd h.nd h.names hfl, fun b hb => ⟨(h.bd b hb).1, Nat.lt_of_lt_of_le (h.bd b hb).2 hp.size⟩⟩, hp.os, hp.tape, hp.output, hp.size, fun _ _ => rfl, fun b hb hr => hp.kept b hb ?_ ?_⟩
  · rcases renF_mem hg with rfl | hg
    · have k := hF.keep (w' := w') (ro' := ro) (fun b hb => ko b _ hb hfD) (fun _ _ => rfl)
      exact ⟨k.bl, k.rb, k.rl, k.rc, k.ob, k.ol, k.mx, k.sm, k.ps0, hn⟩
    · exact (h.each g hg).keep (fun b hb => ko b _ hb (h.neD hg)) (fun _ _ => rfl)
  · rintro rfl
    rw [h.rD] at hr
    simp at hr
  · intro e
    rw [h.rM b e] at hr
    simp at hr
theorem CfAt.cells {w : World} {base : Nat} {ro : Nat → Option Nat} {f : CF} (h : CfAt w base ro f) : Cells w f.c := ⟨_, _, h.bl⟩
/-- A file that has no name now is laid under one. -/
theorem put_ren {w : World} {base D : Nat} {l : List CF} {turns M : Nat} {ro : Nat → Option Nat} {f : CF} {n : ByteArray} (hn : n.size ≤ 64) (h : CdAt w base D l turns (some M) ro) (hF : CfAt w base ro f) (hfD : f.c ≠ D) (hfl : ∀ g ∈ l, g.c ≠ f.c) :
    Calls Tryz.prog 29 #[.pointer (some ⟨D, 0, none⟩), .string n, .pointer (some ⟨f.c, 0, none⟩)] w fun e w' => e = .returned (.tuple #[]) ∧ CdAt w' base D (renF l f n) turns (some M) ro ∧ Ext w w' ro ro := by
  cases hl : lk l n with
  | none => exact (put_newN w D M f.c turns (nmL l) n hn h.bl h.mp (by rw [lookF_lk, hl]; rfl)).mono fun e w' ⟨h1, h2⟩ => ⟨h1, h.renamed hF hfD hfl hn h2⟩
  | some g => exact (put_newS w D M f.c turns (nmL l) n hn h.bl h.mp g.c (by rw [lookF_lk, hl]; rfl) (hfl g (lk_mem hl).1) hF.cells (h.each g (lk_mem hl).1).cells).mono fun e w' ⟨h1, h2⟩ => ⟨h1, h.renamed hF hfD hfl hn h2⟩
set_option maxRecDepth 100000 in
theorem rename_yes (w : World) (base D : Nat) (l : List CF) (turns : Nat) (mo : Option Nat) (ro : Nat → Option Nat) (n m : ByteArray) (f : CF) (hm : nameB m = true) (hn : n.size ≤ maxLen) (h : CdAt w base D l turns mo ro) (hf : lk l n = some f) :
    Calls Tryz.prog 20 #[.pointer (some ⟨D, 0, none⟩), .string n, .string m] w fun e w' => e = .returned (.int .i64 0) ∧ CdAt w' base D (renF (delF l n) f m) turns mo ro ∧ Ext w w' ro ro := by
  obtain ⟨M, rfl⟩ := h.isMap hf
  have hc := find_yes w base D l turns (some M) ro n f hn h hf
  have c0 := h.cell0
  have hmp : MapAt w M (nmL l) := h.mp
  have hm2 := (name_le hm).1
  obtain ⟨w2, hrun, hmm, hgg, hs2⟩ := del_map hmp hn 0
  have HC : Hid (CdAt w2 base D (delF l n) turns (some M) ro) := (CdAt.dropped h hmm hgg).1
  have HX : Hid (Ext w w2 ro ro) := (CdAt.dropped h hmm hgg).2
  have hfm := (lk_mem hf).1
  have HFD : Hid (f.c ≠ D) := h.neD hfm
  have HFF : Hid (CfAt w2 base ro f) := (h.each f hfm).keep (fun b hb => hgg.block b ((h.bd b (by rw [hb]; simp)).2) (fun e => h.neD hfm (by rw [h.rM b e.symm] at hb; exact (Option.some.inj hb).symm))) (fun _ _ => rfl)
  have HFL : Hid (∀ g ∈ delF l n, g.c ≠ f.c) := fun g hg e => (delF_mem hg).2 (by rw [nodup_at h.nd hfm (delF_mem hg).1 e]; exact (lk_mem hf).2)
  clear hf h hfm hmm hgg hs2 hmp
  go_enter Tryz.func20, Tryz.ntmps20
  go_wp2_with (first
    | (go_at_call 29; refine (put_ren hm2 HC.out HFF.out HFD.out HFL.out).mono ?_; rintro e w3 ⟨rfl, hcd, hex⟩; have HC3 : Hid _ := hcd; have HX3 : Hid _ := hex; clear hcd hex)
    | (go_at_call 49; refine hc.mono ?_; rintro e w1 ⟨rfl, rfl⟩) | (go_at_call 28; refine (mayBe_any m _).mono ?_; rintro e w1 ⟨rfl, rfl⟩; rw [hm]))
  go_ret
  exact ⟨rfl, HC3.out, HX.out.trans HX3.out⟩
end Go.Proofs.YtkdglkaeglhibaaGreatDoor
