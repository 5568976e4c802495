/-
  A log's Write and Append (package wal), and its calls on none. The conditions: the segment's number is below 98; the records are not more than 351843720000; package frame's table lies in memory; fewer than 2^62 appends.
-/
import Derived.Test.YtdhlbldmdeepiaaGreatDoorRPackK
namespace Go.Proofs.YtdhlbldmdeepiaaGreatDoor
open Go.RowKit

theorem has_bytes {F : ByteArray} (h : 0 < F.size) : F.toList.isEmpty = false := by
  rw [Lib.toList_data]
  cases hl : F.data.toList with
  | nil =>
    have := Lib.size_eq F
    rw [hl] at this
    have h2 : F.size = 0 := this
    omega
  | cons a b => rfl
section
variable {w : World} {base L D k : Nat} {A : List CF} {t : Nat} {ro : Nat → Option Nat}
/-- The frames of records, as the string that they are. -/
theorem frames_pos {l : List Rc} (h : l ≠ []) : 0 < (framesOf l).length := by
  cases l with
  | nil => exact absurd rfl h
  | cons r l =>
    show 0 < (frameOf (encR r) ++ framesOf l).length
    rw [List.length_append, frameOf_len]
    omega
set_option maxHeartbeats 3200000 in
set_option maxRecDepth 100000 in
theorem write_new (h : LgS w base L D 0 [] t ro) (v : Value) (l : List Rc) (hv : RowAt rcC w v l) (hl : l.length ≤ 351843720000) (hT : Tab w) (hm : l.all mayR = true) (h0 : l ≠ []) (hs : (framesOf l).length ≤ 4194304) (ht : t < 4611686018427387904) :
    Calls Tryz.prog 18 #[.pointer (some ⟨L, 0, none⟩), v] w fun e w' => e = .returned (.int .i64 0) ∧ ∃ c ro', LgS w' base L D 1 (oneN (segB 1) c (framesOf l) 0 [(t + 1, (framesOf l).length)]) (t + 1) ro' ∧ Below base w w' := by
  have qf := wframes_any w v l hv hl hT
  rw [framesT_all hm] at qf
  have hp := frames_pos h0
  obtain ⟨F, hF⟩ : ∃ F : ByteArray, F = ⟨(framesOf l).toArray⟩ := ⟨_, rfl⟩
  rw [← hF] at qf
  have HF : Hid (F.data.toList = framesOf l) := by rw [hF]; rfl
  have zF : F.size = (framesOf l).length := by rw [Lib.size_eq, HF.out]
  have ne := has_bytes (F := F) (by omega)
  have qn := segName_any 1 (by decide)
  have qn' : ∀ w, Calls Tryz.prog 48 #[.int .i64 1] w fun e w' => e = .returned (.string (segB 1)) ∧ w = w' := qn
  have hn := nameB_seg (k := 1) (by decide)
  have H : Hid (LgS w base L D 0 [] t ro) := h
  have zF2 : F.size ≤ 4194304 := by omega
  have zF3 : 0 < F.size := by omega
  have HZ : Hid (F.size = (framesOf l).length) := zF
  obtain ⟨va, vn, rfl⟩ := hv.form
  clear hm hv hF h qn zF hp h0 hs
  go_enter Tryz.func18, Tryz.ntmps18
  go_wp2_with (go_at_call 51; refine qf.mono ?_; rintro e w1 ⟨rfl, b1⟩; have h1 : Hid _ := H.out.fresh b1; have c0 := h1.out.c0; have c1 := h1.out.c1)
  go_region_held3 (fun w' => w'.cell? ⟨L, 0, none⟩ = some (.pointer (some ⟨D, 0, none⟩))) (go_keep)
    (first
      | (go_at_call 23; refine (o_first (dkd h1.out.dk) (segB 1) F hn zF3 zF2 ht).mono ?_; rintro e w2 ⟨rfl, c, ro', k2, x2'⟩; have h2 : Hid _ := h1.out.ext k2 (unx x2'); have x2 : Hid _ := unx x2'; have d0 := h2.out.c0; have d1 := h2.out.c1; have d2 := h2.out.f1; clear k2 x2')
      | (go_at_call 48; refine (qn' _).mono ?_; rintro e w' ⟨rfl, rfl⟩))
  go_wp2
  go_ret
  have hS := h2.out.set 1
  rw [HF.out, HZ.out] at hS
  exact ⟨rfl, c, ro', hS, ((b1.mono H.out.base).trans (h1.out.below x2.out)).trans (h2.out.set_below 1)⟩
set_option maxHeartbeats 3200000 in
set_option maxRecDepth 100000 in
theorem write_more {c sure : Nat} {bs : List UInt8} {ps : List (Nat × Nat)} (h1k : 1 ≤ k) (hk : k < 98) (h : LgS w base L D k (oneN (segB k) c bs sure ps) t ro) (v : Value) (l : List Rc) (hv : RowAt rcC w v l) (hl : l.length ≤ 351843720000) (hT : Tab w) (hm : l.all mayR = true) (h0 : l ≠ []) (hs : bs.length + (framesOf l).length ≤ 4194304) (ht : t < 4611686018427387904) :
    Calls Tryz.prog 18 #[.pointer (some ⟨L, 0, none⟩), v] w fun e w' => e = .returned (.int .i64 0) ∧ ∃ t' ro', t' ≤ t + 1 ∧ LgS w' base L D k (oneN (segB k) c (bs ++ framesOf l) sure (ps ++ [(t + 1, (framesOf l).length)])) t' ro' ∧ Below base w w' := by
  have qf := wframes_any w v l hv hl hT
  rw [framesT_all hm] at qf
  have hp := frames_pos h0
  obtain ⟨F, hF⟩ : ∃ F : ByteArray, F = ⟨(framesOf l).toArray⟩ := ⟨_, rfl⟩
  rw [← hF] at qf
  have HF : Hid (F.data.toList = framesOf l) := by rw [hF]; rfl
  have zF : F.size = (framesOf l).length := by rw [Lib.size_eq, HF.out]
  have ne := has_bytes (F := F) (by omega)
  have qn := segName_any k (by omega)
  have hn := nameB_seg (k := k) (by omega)
  have H : Hid (LgS w base L D k (oneN (segB k) c bs sure ps) t ro) := h
  have zF2 : bs.length + F.size ≤ 4194304 := by omega
  have HZ : Hid (psN F (t + 1) = [(t + 1, (framesOf l).length)]) := by rw [psN_yes (by omega), zF]; rfl
  have kx : max (k : Int) 1 = (k : Int) := by omega
  obtain ⟨va, vn, rfl⟩ := hv.form
  clear hm hv hF h zF hp h0 hs
  go_enter Tryz.func18, Tryz.ntmps18
  go_wp2_with (go_at_call 51; refine qf.mono ?_; rintro e w1 ⟨rfl, b1⟩; have h1 : Hid _ := H.out.fresh b1; have c0 := h1.out.c0; have c1 := h1.out.c1)
  go_region_held3 (fun w' => w'.cell? ⟨L, 0, none⟩ = some (.pointer (some ⟨D, 0, none⟩))) (go_keep)
    (first
      | (go_at_call 23; refine (o_more (dkd h1.out.dk) hn F zF2 ht).mono ?_; rintro e w2 ⟨rfl, t', ro', ht', k2, x2'⟩; have h2 : Hid _ := h1.out.ext k2 (unx x2'); have x2 : Hid _ := unx x2'; have d0 := h2.out.c0; have d1 := h2.out.c1; have d2 := h2.out.f1; clear k2 x2')
      | (go_at_call 48; refine (qn _).mono ?_; rintro e w' ⟨rfl, rfl⟩))
  go_wp2
  go_ret
  have hS := h2.out.set k
  rw [HF.out, HZ.out] at hS
  exact ⟨rfl, t', ro', ht', hS, ((b1.mono H.out.base).trans (h1.out.below x2.out)).trans (h2.out.set_below k)⟩
set_option maxHeartbeats 3200000 in
set_option maxRecDepth 100000 in
theorem wappend_new (h : LgS w base L D 0 [] t ro) (v : Value) (l : List Rc) (hv : RowAt rcC w v l) (hl : l.length ≤ 351843720000) (hT : Tab w) (hm : l.all mayR = true) (h0 : l ≠ []) (hs : (framesOf l).length ≤ 4194304) (ht : t < 4611686018427387904) :
    Calls Tryz.prog 16 #[.pointer (some ⟨L, 0, none⟩), v] w fun e w' => e = .returned (.int .i64 0) ∧ ∃ c ro', LgS w' base L D 1 (oneN (segB 1) c (framesOf l) (framesOf l).length []) (t + 1) ro' ∧ Below base w w' := by
  have q := write_new h v l hv hl hT hm h0 hs ht
  have qn := segName_any 1 (by decide)
  have qn' : ∀ w, Calls Tryz.prog 48 #[.int .i64 1] w fun e w' => e = .returned (.string (segB 1)) ∧ w = w' := qn
  have hn := seg_max (k := 1) (by decide)
  obtain ⟨va, vn, rfl⟩ := hv.form
  clear h qn
  go_enter Tryz.func16, Tryz.ntmps16
  go_wp2_with (go_at_call 18; refine q.mono ?_; rintro e w1 ⟨rfl, c, ro', h1', b1⟩; have h1 : Hid _ := h1'; have c0 := h1'.c0; have c1 : w1.cell? ⟨L, 1, none⟩ = some (.int .i64 1) := h1'.c1; clear h1')
  go_region_held3 (fun w' => w'.cell? ⟨L, 0, none⟩ = some (.pointer (some ⟨D, 0, none⟩)) ∧ w'.cell? ⟨L, 1, none⟩ = some (.int .i64 1)) (go_keep)
    (first
      | (go_at_call 28; refine (o_sync (dkd h1.out.dk) hn).mono ?_; rintro e w2 ⟨rfl, k2, x2'⟩; have h2 : Hid _ := h1.out.ext k2 (unx x2'); have x2 : Hid _ := unx x2'; have d0 := h2.out.c0; have d1 : w2.cell? ⟨L, 1, none⟩ = some (.int .i64 1) := h2.out.c1; clear k2 x2')
      | (go_at_call 48; refine (qn' _).mono ?_; rintro e w' ⟨rfl, rfl⟩))
  go_wp2
  go_ret
  exact ⟨rfl, c, ro', h2.out, b1.trans (h1.out.below x2.out)⟩
end
/-! ### A log that is none, a disk that is none -/
end Go.Proofs.YtdhlbldmdeepiaaGreatDoor
