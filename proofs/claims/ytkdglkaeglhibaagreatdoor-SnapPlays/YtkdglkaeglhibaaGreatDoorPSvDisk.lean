/-
  Package snap over the disk as plain data: Load, Save. The conditions: the program's variables lie in memory as its text lays them, below the disk; fewer than 2^62 appends.
-/
import Derived.Test.YtkdglkaeglhibaaGreatDoorPSvCode
import Derived.Test.YtkdglkaeglhibaaGreatDoorPKLook
namespace Go.Proofs.YtkdglkaeglhibaaGreatDoor
open Go.RowKit

/-- A file that is sure as a whole. -/
def sureF (n : ByteArray) (c : Nat) (bs : List UInt8) : CF := ⟨n, c, .slice none 0 0, .slice none 0 0, bs, bs.length, []⟩
/-- The files behind a Save. -/
def savedA (A : List CF) (c : Nat) (bs : List UInt8) : List CF := renF (delF A begunB) (sureF begunB c bs) snapB
theorem lk_saved (A : List CF) (c : Nat) (bs : List UInt8) (m : ByteArray) : lk (savedA A c bs) m = if m = snapB then some (sureF snapB c bs) else if m = begunB then none else lk A m := by
  unfold savedA
  rw [lk_renF, lk_delF]
  rfl
theorem saved_len (A : List CF) (c : Nat) (bs : List UInt8) : (savedA A c bs).length ≤ A.length + 1 := by
  have h1 : (delF A begunB).length ≤ A.length := by
    unfold delF
    exact List.length_filter_le _ _
  unfold savedA renF
  split
  · rw [List.length_append]
    simp
    omega
  · rw [List.length_map]
    omega
theorem delF_no {A : List CF} {n : ByteArray} (h : lk A n = none) : delF A n = A := by
  unfold delF
  rw [List.filter_eq_self]
  intro f hf
  simpa using lk_no h f hf
theorem snap_max : snapB.size ≤ maxLen := by decide
theorem begun_max : begunB.size ≤ maxLen := by decide
section
variable {w : World} {base D B turns : Nat} {A : List CF} {ro : Nat → Option Nat}
set_option maxRecDepth 100000 in
theorem sread_no (h : DkS w base D A turns ro) (a0 a1 a2 : Addr) (hS : Sen w B a0 a1 a2) (hn : lk A snapB = none) : Calls Tryz.prog 33 #[.pointer (some ⟨D, 0, none⟩)] w fun e w' => e = .returned (.tuple #[.int .i64 0, .string ⟨#[]⟩, .iface 165 (.pointer (some a1))]) ∧ Below w.heap.size w w' := by
  have q1 := S_read_no h snapB snap_max hn
  unfold snapB at q1
  have c1 := hS.c1
  clear hS
  go_enter Tryz.func33, Tryz.ntmps33
  go_wp2_with (go_at_call 56; refine q1.mono ?_; rintro e w1 ⟨rfl, rfl⟩)
  go_region
  all_goals go_wp2
  all_goals (go_ret3; exact ⟨rfl, ⟨rfl, rfl, rfl, Nat.le_refl _, fun _ _ => rfl⟩⟩)
set_option maxRecDepth 100000 in
theorem sread_yes (h : DkS w base D A turns ro) (a0 a1 a2 : Addr) (hS : Sen w B a0 a1 a2) (hE : Env w B) (f : CF) (hf : lk A snapB = some f) : Calls Tryz.prog 33 #[.pointer (some ⟨D, 0, none⟩)] w fun e w' => e = .returned (.tuple #[.int .i64 (loadS f.bs).1, .string (loadS f.bs).2.1, if (loadS f.bs).2.2 = 0 then .nilIface else .iface 165 (.pointer (some a2))]) ∧ Below w.heap.size w w' := by
  have q1 := S_read h snapB snap_max f hf
  unfold snapB at q1
  have hmx := (h.ok.1 f (lk_mem hf).1).mx
  have q2 := sparse_any (textOf f.bs) (by rw [Lib.size_eq]; exact hmx) w B a0 a1 a2 hS hE
  rw [show (textOf f.bs).data.toList = f.bs from rfl] at q2
  obtain ⟨t, ht⟩ : ∃ t, t = textOf f.bs := ⟨_, rfl⟩
  obtain ⟨v, hv⟩ : ∃ v : Value, v = if (loadS f.bs).2.2 = 0 then .nilIface else .iface 165 (.pointer (some a2)) := ⟨_, rfl⟩
  rw [← ht] at q1 q2
  rw [← hv] at q2 ⊢
  clear ht hv hmx hS hE hf h
  go_enter Tryz.func33, Tryz.ntmps33
  go_wp2_with (first
    | (go_at_call 57; refine q2.mono ?_; rintro e w2 ⟨rfl, b2⟩)
    | (go_at_call 56; refine q1.mono ?_; rintro e w1 ⟨rfl, rfl⟩))
  go_ret3
  exact ⟨rfl, b2⟩
/-- errors.Is over the three. -/
theorem is01 {a0 a1 a2 : Addr} (h : Sen w B a0 a1 a2) : Calls Tryz.prog 34 #[.iface 165 (.pointer (some a1)), .iface 165 (.pointer (some a0))] w fun e w' => e = .returned (.bool false) ∧ w = w' := by
  obtain ⟨x, y, r⟩ := h.r1
  obtain ⟨x', y', r'⟩ := h.r0
  exact is_other a1 a0 _ _ _ _ w (Ne.symm h.n01) r r'
theorem is02 {a0 a1 a2 : Addr} (h : Sen w B a0 a1 a2) : Calls Tryz.prog 34 #[.iface 165 (.pointer (some a2)), .iface 165 (.pointer (some a0))] w fun e w' => e = .returned (.bool false) ∧ w = w' := by
  obtain ⟨x, y, r⟩ := h.r2
  obtain ⟨x', y', r'⟩ := h.r0
  exact is_other a2 a0 _ _ _ _ w (Ne.symm h.n02) r r'
theorem is12 {a0 a1 a2 : Addr} (h : Sen w B a0 a1 a2) : Calls Tryz.prog 34 #[.iface 165 (.pointer (some a2)), .iface 165 (.pointer (some a1))] w fun e w' => e = .returned (.bool false) ∧ w = w' := by
  obtain ⟨x, y, r⟩ := h.r2
  obtain ⟨x', y', r'⟩ := h.r1
  exact is_other a2 a1 _ _ _ _ w (Ne.symm h.n12) r r'
set_option maxRecDepth 100000 in
/-- Load, where there is no file. -/
theorem pload_no (h : DkS w base D A turns ro) (hE : Env w B) (hn : lk A snapB = none) : Calls Tryz.prog 11 #[.pointer (some ⟨D, 0, none⟩)] w fun e w' => e = .returned (.tuple #[.int .i64 0, .string ⟨#[]⟩, .int .i64 5]) ∧ Below w.heap.size w w' := by
  obtain ⟨a0, a1, a2, hS⟩ := hE.sn
  have q1 := sread_no h a0 a1 a2 hS hn
  have HS : Hid (∀ w1, Below w.heap.size w w1 → Sen w1 B a0 a1 a2) := fun w1 b => hS.below b hE.le hE.b4
  clear hS hE h hn
  go_enter Tryz.func11, Tryz.ntmps11
  go_wp2_with (first
    | (go_at_call 34; have d2 := d1; refine (is_same a1 _).mono ?_; rintro e w3 ⟨rfl, rfl⟩)
    | (go_at_call 34; refine (is01 (HS.out _ b1)).mono ?_; rintro e w2 ⟨rfl, rfl⟩; have d1 : True := trivial)
    | (go_at_call 33; refine q1.mono ?_; rintro e w1 ⟨rfl, b1⟩; have c0 := (HS.out w1 b1).c0; have c1 := (HS.out w1 b1).c1))
  go_ret3
  exact ⟨rfl, b1⟩
set_option maxRecDepth 100000 in
theorem pload_bad (q1 : ∀ a0 a1 a2, Sen w B a0 a1 a2 → Calls Tryz.prog 33 #[.pointer (some ⟨D, 0, none⟩)] w fun e w' => e = .returned (.tuple #[.int .i64 0, .string ⟨#[]⟩, .iface 165 (.pointer (some a2))]) ∧ Below w.heap.size w w') (hE : Env w B) : Calls Tryz.prog 11 #[.pointer (some ⟨D, 0, none⟩)] w fun e w' => e = .returned (.tuple #[.int .i64 0, .string ⟨#[]⟩, .int .i64 2]) ∧ Below w.heap.size w w' := by
  obtain ⟨a0, a1, a2, hS⟩ := hE.sn
  have q2 := q1 a0 a1 a2 hS
  have HS : Hid (∀ w1, Below w.heap.size w w1 → Sen w1 B a0 a1 a2) := fun w1 b => hS.below b hE.le hE.b4
  clear hS hE q1
  go_enter Tryz.func11, Tryz.ntmps11
  go_wp2_with (first
    | (go_at_call 34; have d3 := d2; refine (is_same a2 _).mono ?_; rintro e w4 ⟨rfl, rfl⟩)
    | (go_at_call 34; have d2 := d1; refine (is12 (HS.out _ b1)).mono ?_; rintro e w3 ⟨rfl, rfl⟩)
    | (go_at_call 34; refine (is02 (HS.out _ b1)).mono ?_; rintro e w2 ⟨rfl, rfl⟩; have d1 : True := trivial)
    | (go_at_call 33; refine q2.mono ?_; rintro e w1 ⟨rfl, b1⟩; have c0 := (HS.out w1 b1).c0; have c1 := (HS.out w1 b1).c1; have c2 := (HS.out w1 b1).c2))
  go_ret3
  exact ⟨rfl, b1⟩
set_option maxRecDepth 100000 in
theorem pload_good (n : Int) (t : ByteArray) (q2 : Calls Tryz.prog 33 #[.pointer (some ⟨D, 0, none⟩)] w fun e w' => e = .returned (.tuple #[.int .i64 n, .string t, .nilIface]) ∧ Below w.heap.size w w') (hE : Env w B) : Calls Tryz.prog 11 #[.pointer (some ⟨D, 0, none⟩)] w fun e w' => e = .returned (.tuple #[.int .i64 n, .string t, .int .i64 0]) ∧ Below w.heap.size w w' := by
  obtain ⟨a0, a1, a2, hS⟩ := hE.sn
  have HS : Hid (∀ w1, Below w.heap.size w w1 → Sen w1 B a0 a1 a2) := fun w1 b => hS.below b hE.le hE.b4
  clear hS hE
  go_enter Tryz.func11, Tryz.ntmps11
  go_wp2_with (first
    | (go_at_call 34; have d3 := d2; refine (is_nil a2 _).mono ?_; rintro e w4 ⟨rfl, rfl⟩)
    | (go_at_call 34; have d2 := d1; refine (is_nil a1 _).mono ?_; rintro e w3 ⟨rfl, rfl⟩)
    | (go_at_call 34; refine (is_nil a0 _).mono ?_; rintro e w2 ⟨rfl, rfl⟩; have d1 : True := trivial)
    | (go_at_call 33; refine q2.mono ?_; rintro e w1 ⟨rfl, b1⟩; have c0 := (HS.out w1 b1).c0; have c1 := (HS.out w1 b1).c1; have c2 := (HS.out w1 b1).c2))
  go_ret3
  exact ⟨rfl, b1⟩
theorem loadS_cases (l : List UInt8) : ((loadS l).2.2 = 0) ∨ loadS l = (0, ⟨#[]⟩, 2) := by
  unfold loadS
  split
  · exact Or.inl rfl
  · exact Or.inr rfl
/-- Load, of a file that is there. -/
theorem pload_some (h : DkS w base D A turns ro) (hE : Env w B) (f : CF) (hf : lk A snapB = some f) : Calls Tryz.prog 11 #[.pointer (some ⟨D, 0, none⟩)] w fun e w' => e = .returned (.tuple #[.int .i64 (loadS f.bs).1, .string (loadS f.bs).2.1, .int .i64 (loadS f.bs).2.2]) ∧ Below w.heap.size w w' := by
  rcases loadS_cases f.bs with h0 | h0
  · obtain ⟨a0, a1, a2, hS⟩ := hE.sn
    have q := sread_yes h a0 a1 a2 hS hE f hf
    rw [if_pos h0] at q
    rw [h0]
    exact pload_good _ _ q hE
  · refine (pload_bad (fun a0 a1 a2 hS => ?_) hE).mono fun e w' ⟨g1, g2⟩ => ⟨by rw [h0]; exact g1, g2⟩
    have q := sread_yes h a0 a1 a2 hS hE f hf
    rw [h0] at q
    exact q
/-- Remove, whatever there is. -/
theorem S_drop (h : DkS w base D A turns ro) (n : ByteArray) (hn : n.size ≤ maxLen) : Calls Tryz.prog 47 #[.pointer (some ⟨D, 0, none⟩), .string n] w fun e w' => ∃ z : Int, e = .returned (.int .i64 z) ∧ DkS w' base D (delF A n) turns ro ∧ Ext w w' ro ro := by
  cases hf : lk A n with
  | none => exact (S_remove_no h n hn hf).mono fun e w' ⟨h1, h2⟩ => ⟨5, h1, by rw [delF_no hf, ← h2]; exact h, by rw [← h2]; exact Ext.refl _ _⟩
  | some f => exact (S_remove h n hn f hf).mono fun e w' ⟨h1, h2, h3⟩ => ⟨0, h1, h2, h3⟩
set_option maxRecDepth 100000 in
theorem play_temp (h : DkS w base D A turns ro) (F : ByteArray) (h0 : 0 < F.size) (hF : F.size ≤ 4194304) (ht : turns < 4611686018427387904) : Calls Tryz.prog 19 #[.pointer (some ⟨D, 0, none⟩), .string F] w fun e w' => e = .returned (.int .i64 0) ∧ ∃ c ro', DkS w' base D (delF A begunB ++ [sureF begunB c F.data.toList]) (turns + 1) ro' ∧ Ext w w' ro ro' := by
  have hd : lk (delF A begunB) begunB = none := by rw [lk_delF, if_pos rfl]
  have q1 := S_drop h begunB begun_max
  have Q2 : Hid (∀ w1, DkS w1 base D (delF A begunB) turns ro → Calls Tryz.prog 9 #[.pointer (some ⟨D, 0, none⟩), .string begunB, .string F] w1 fun e w' => e = .returned (.int .i64 0) ∧ ∃ c ro', DkS w' base D (delF A begunB ++ [appA (newF begunB c) F (turns + 1)]) (turns + 1) ro' ∧ Ext w1 w' ro ro') := fun w1 k => S_append_new k begunB F (by decide) hd h0 hF ht
  have Q3 : Hid (∀ w1 c ro', DkS w1 base D (delF A begunB ++ [appA (newF begunB c) F (turns + 1)]) (turns + 1) ro' → Calls Tryz.prog 48 #[.pointer (some ⟨D, 0, none⟩), .string begunB] w1 fun e w' => e = .returned (.int .i64 0) ∧ DkS w' base D (delF A begunB ++ [sureF begunB c F.data.toList]) (turns + 1) ro' ∧ Ext w1 w' ro' ro') := fun w1 c ro' k => by
    have hl : lk (delF A begunB ++ [appA (newF begunB c) F (turns + 1)]) begunB = some (appA (newF begunB c) F (turns + 1)) := (lk_snoc (appA (newF begunB c) F (turns + 1)) begunB _ hd).trans (if_pos rfl)
    refine (S_sync k begunB begun_max _ hl).mono fun e w' ⟨g1, g2, g3⟩ => ⟨g1, ?_, g3⟩
    have hnd := k.ok.2.1
    rw [List.map_append, List.nodup_append] at hnd
    rw [setF_last _ (appA (newF begunB c) F (turns + 1)) (syncF (appA (newF begunB c) F (turns + 1))) rfl (fun g hg e => hnd.2.2 g.c (List.mem_map.2 ⟨g, hg, rfl⟩) (appA (newF begunB c) F (turns + 1)).c (by simp) e)] at g2
    exact g2
  unfold begunB at q1 Q2 Q3
  have hN : (⟨#[115, 110, 97, 112, 46, 116, 109, 112]⟩ : ByteArray) = begunB := rfl
  clear hd h0 hF ht h
  go_enter Tryz.func19, Tryz.ntmps19
  go_wp2_with (first
    | (go_at_call 48; refine (Q3.out _ _ _ k2.out).mono ?_; rintro e w3 ⟨rfl, k, x3⟩; have k3 : Hid _ := k; clear k)
    | (go_at_call 9; refine (Q2.out _ k1.out).mono ?_; rintro e w2 ⟨rfl, c, ro2, k, x2⟩; have k2 : Hid _ := k; clear k)
    | (go_at_call 47; refine q1.mono ?_; rintro e w1 ⟨z, rfl, k, x1⟩; have k1 : Hid _ := k; clear k))
  go_ret
  exact ⟨rfl, c, ro2, k3.out, (x1.trans x2).trans x3⟩
set_option maxRecDepth 100000 in
theorem psave_nil (n : Int) (t : ByteArray) (w : World) : Calls Tryz.prog 5 #[.pointer none, .int .i64 n, .string t] w fun e w' => e = .returned (.int .i64 1) ∧ w = w' := by
  go_enter Tryz.func5, Tryz.ntmps5
  go_wp2
  go_ret
  exact ⟨rfl, rfl⟩
set_option maxRecDepth 100000 in
/-- Save, of what may not be saved. -/
theorem psave_no (n : Int) (t : ByteArray) (w : World) (D : Nat) (hm : ¬ mayS n t = true) : Calls Tryz.prog 5 #[.pointer (some ⟨D, 0, none⟩), .int .i64 n, .string t] w fun e w' => e = .returned (.int .i64 1) ∧ w = w' := by
  have qm := smay_any n t
  rw [show mayS n t = false by simpa using hm] at qm
  clear hm
  go_enter Tryz.func5, Tryz.ntmps5
  go_wp2_with (go_at_call 17; refine (qm _).mono ?_; rintro e w1 ⟨rfl, rfl⟩)
  go_ret
  exact ⟨rfl, rfl⟩
set_option maxRecDepth 100000 in
/-- Save, of what may be saved. -/
theorem psave_yes (h : DkS w base D A turns ro) (hE : Env w B) (n : Int) (t : ByteArray) (hm : mayS n t = true) (ht : turns < 4611686018427387904) : Calls Tryz.prog 5 #[.pointer (some ⟨D, 0, none⟩), .int .i64 n, .string t] w fun e w' => e = .returned (.int .i64 0) ∧ ∃ c ro', DkS w' base D (savedA A c (fileS n t)) (turns + 1) ro' ∧ Ext w w' ro ro' := by
  have qm := smay_any n t
  rw [hm] at qm
  have hl := encS_len hm
  have hfl : (fileS n t).length = (encS n t).length + 8 := frameOf_len _
  have qf := sframe_any n t hm w hE.tab
  obtain ⟨F, hF⟩ : ∃ F : ByteArray, F = ⟨(fileS n t).toArray⟩ := ⟨_, rfl⟩
  have hFs : F.size = (fileS n t).length := by rw [hF, Lib.size_eq]
  have HF : Hid (F.data.toList = fileS n t) := by rw [hF]; rfl
  rw [← hF] at qf
  have Q2 : Hid (∀ w1, Below w.heap.size w w1 → Calls Tryz.prog 19 #[.pointer (some ⟨D, 0, none⟩), .string F] w1 fun e w' => e = .returned (.int .i64 0) ∧ ∃ c ro', DkS w' base D (delF A begunB ++ [sureF begunB c F.data.toList]) (turns + 1) ro' ∧ Ext w1 w' ro ro') := fun w1 b => play_temp (h.fresh b) F (by omega) (by omega) ht
  have hd : lk (delF A begunB) begunB = none := by rw [lk_delF, if_pos rfl]
  have Q3 : Hid (∀ w1 c ro', DkS w1 base D (delF A begunB ++ [sureF begunB c F.data.toList]) (turns + 1) ro' → Calls Tryz.prog 20 #[.pointer (some ⟨D, 0, none⟩), .string begunB, .string snapB] w1 fun e w' => e = .returned (.int .i64 0) ∧ DkS w' base D (savedA A c (fileS n t)) (turns + 1) ro' ∧ Ext w1 w' ro' ro') := fun w1 c ro' k => by
    have hlk : lk (delF A begunB ++ [sureF begunB c F.data.toList]) begunB = some (sureF begunB c F.data.toList) := (lk_snoc (sureF begunB c F.data.toList) begunB _ hd).trans (if_pos rfl)
    refine (S_rename k begunB snapB (by decide) begun_max _ hlk).mono fun e w' ⟨g1, g2, g3⟩ => ⟨g1, ?_, g3⟩
    have e1 : delF (delF A begunB ++ [sureF begunB c F.data.toList]) begunB = delF A begunB := by
      have e2 : delF (delF A begunB) begunB = delF A begunB := delF_no hd
      unfold delF at e2 ⊢
      rw [List.filter_append, e2, List.filter_cons_of_neg (by simp [sureF]), List.filter_nil, List.append_nil]
    rw [e1, HF.out] at g2
    exact g2
  unfold begunB snapB at Q3
  have HX : Hid (∀ w1, Below w.heap.size w w1 → Ext w w1 ro ro) := fun w1 b => Ext.below_of b
  clear hm hl hfl hF hFs HF hd h hE ht
  go_enter Tryz.func5, Tryz.ntmps5
  go_wp2_with (first
    | (go_at_call 20; refine (Q3.out _ _ _ k2.out).mono ?_; rintro e w3 ⟨rfl, k, x3⟩; have k3 : Hid _ := k; clear k)
    | (go_at_call 19; refine (Q2.out _ b1).mono ?_; rintro e w2 ⟨rfl, c, ro2, k, x2⟩; have k2 : Hid _ := k; clear k)
    | (go_at_call 18; refine qf.mono ?_; rintro e w1 ⟨rfl, b1⟩)
    | (go_at_call 17; refine (qm _).mono ?_; rintro e w0 ⟨rfl, rfl⟩))
  go_ret
  exact ⟨rfl, c, ro2, k3.out, ((HX.out _ b1).trans x2).trans x3⟩
end
end Go.Proofs.YtkdglkaeglhibaaGreatDoor
