/-
  Parts of the proof, laid together: WwAwake, WwPlain, WwSure, WvWriteX. The conditions stand at each part.
-/
import Derived.Test.YtodnnhidljfilaaGreatDoorFPackD
import Derived.Test.YtodnnhidljfilaaGreatDoorFPack1
/-
  Chapter 11's examples over the program's log. The condition: package frame's table lies in memory.
-/
namespace Go.Proofs.YtodnnhidljfilaaGreatDoor
open Go.RowKit

theorem dnew_S (w : World) : Calls Tryz.prog 17 #[] w fun e w' => e = .returned (.pointer (some ⟨w.heap.size, 0, none⟩)) ∧ ∃ ro, DkS w' w.heap.size w.heap.size [] 0 ro ∧ Below w.heap.size w w' :=
  (knew_any w).mono fun _ _ ⟨h1, h2⟩ => ⟨h1, (fun b => if b = w.heap.size then some b else none), by rw [h2]; exact DkS.new w, by rw [h2]; exact (Below.refl _ w).alloc (Nat.le_refl _) _⟩
section
variable {w : World} {base D : Nat} {ro : Nat → Option Nat}
/-- A crash of a file with one piece. -/
theorem o_crash1 {n : ByteArray} {c t t0 sure len : Nat} {bs : List UInt8} (h0 : 0 < len) (k : DkS w base D (oneN n c bs sure [(t0, len)]) t ro) (keep : Int) (h1 : -9223372036854775808 ≤ keep) (h2 : keep ≤ 9223372036854775807) : Calls Tryz.prog 24 #[.pointer (some ⟨D, 0, none⟩), .int .i64 keep] w fun e w' => e = .returned (.tuple #[]) ∧
    DkS w' base D (oneN n c (bs.take (sure + min len keep.toNat)) (sure + min len keep.toNat) []) t ro ∧ Ext w w' ro ro := by
  obtain ⟨s, hs⟩ : ∃ s : ByteArray, s.size = len := ⟨⟨(List.replicate len 0).toArray⟩, by show (List.replicate len (0 : UInt8)).toArray.size = len; simp⟩
  have k' : DkS w base D (oneN n c bs sure (psN s t0)) t ro := by
    rw [psN_yes (by omega), hs]
    exact k
  have r := o_crash k' keep h1 h2
  rw [hs] at r
  exact r
/-- A crash where all is sure. -/
theorem o_crashN {n : ByteArray} {c t sure : Nat} {bs : List UInt8} (k : DkS w base D (oneN n c bs sure []) t ro) (keep : Int) (h1 : -9223372036854775808 ≤ keep) (h2 : keep ≤ 9223372036854775807) : Calls Tryz.prog 24 #[.pointer (some ⟨D, 0, none⟩), .int .i64 keep] w fun e w' => e = .returned (.tuple #[]) ∧
    DkS w' base D (oneN n c (bs.take sure) sure []) t ro ∧ Ext w w' ro ro := by
  have r := o_crash (s := ⟨#[]⟩) (t0 := 0) k keep h1 h2
  have e : sure + min (⟨#[]⟩ : ByteArray).size keep.toNat = sure := by
    have : (⟨#[]⟩ : ByteArray).size = 0 := rfl
    omega
  rw [e] at r
  exact r
end
theorem bx {o : Obj} (w : World) : Below w.heap.size w (w.alloc o) := (Below.refl _ w).alloc (Nat.le_refl _) _
end Go.Proofs.YtodnnhidljfilaaGreatDoor
/-
  WalSure's plain part: what is read behind a crash. No condition.
-/
namespace Go.Proofs.YtodnnhidljfilaaGreatDoor

/-- What a crash leaves of the file. -/
def crT (la lb : List Rc) (keep : Int) : List UInt8 := (framesOf la ++ framesOf lb).take ((framesOf la).length + min (framesOf lb).length keep.toNat)
theorem crT_len (la lb : List Rc) (keep : Int) : (crT la lb keep).length = (framesOf la).length + min (framesOf lb).length keep.toNat := by
  unfold crT
  rw [List.length_take, List.length_append]
  omega
theorem crT_app (la lb : List Rc) (keep : Int) : crT la lb keep = framesOf la ++ (framesOf lb).take (min (framesOf lb).length keep.toNat) := by
  unfold crT
  rw [List.take_length_add_append]
theorem crT_recs {la lb : List Rc} (ha : la.all mayR = true) (keep : Int) : (recs (crT la lb keep)).1 = la ++ (recs ((framesOf lb).take (min (framesOf lb).length keep.toNat))).1 := by
  rw [crT_app, recs_front (List.all_eq_true.mp ha)]
theorem crT_take {la lb : List Rc} (ha : la.all mayR = true) (hb : lb.all mayR = true) (keep : Int) : (recs (crT la lb keep)).1 = (la ++ lb).take (recs (crT la lb keep)).1.length ∧ la.length ≤ (recs (crT la lb keep)).1.length ∧ (recs (crT la lb keep)).1.length ≤ la.length + lb.length := by
  obtain ⟨c, hc⟩ := recs_take (List.all_eq_true.mp hb) (min (framesOf lb).length keep.toNat)
  rw [crT_recs ha]
  generalize (recs ((framesOf lb).take (min (framesOf lb).length keep.toNat))).1 = x at hc ⊢
  refine ⟨?_, ?_, ?_⟩
  · rw [hc, ← List.append_assoc, List.take_left' rfl]
  · rw [List.length_append]
    omega
  · have := congrArg List.length hc
    rw [List.length_append] at this ⊢
    omega
theorem crT_nil (keep : Int) : crT [] [] keep = [] := rfl
end Go.Proofs.YtodnnhidljfilaaGreatDoor
/-
  WalSure of layer 11, walked: behind a crash all records are read that were appended, and of those that were written alone a beginning. The condition: package frame's table lies in memory.
-/
namespace Go.Proofs.YtodnnhidljfilaaGreatDoor
open Go.RowKit

theorem frames_300 {l : List Rc} (h : l.all mayR = true) (hl : l.length ≤ 300) : (framesOf l).length ≤ 120000 := by
  have := framesOf_few l h
  have : l.length * 400 ≤ 300 * 400 := Nat.mul_le_mul_right _ hl
  omega
/-- The disk behind an Append of la onto nothing. -/
def StA (la : List Rc) (k : Nat) (A : List CF) (t : Nat) : Prop := (la = [] ∧ k = 0 ∧ A = [] ∧ t = 0) ∨ (k = 1 ∧ t = 1 ∧ ∃ c, A = oneN (segB 1) c (framesOf la) (framesOf la).length [])
/-- .. and a Write of lb. -/
def pcs (lb : List Rc) (t0 : Nat) : List (Nat × Nat) := if lb = [] then [] else [(t0, (framesOf lb).length)]
def StB (la lb : List Rc) (A : List CF) (t : Nat) : Prop := t ≤ 2 ∧ ((la = [] ∧ lb = [] ∧ A = []) ∨ ∃ c t0, A = oneN (segB 1) c (framesOf la ++ framesOf lb) (framesOf la).length (pcs lb t0))
/-- .. and a crash. -/
def StC (la lb : List Rc) (keep : Int) (A : List CF) : Prop := (la = [] ∧ lb = [] ∧ A = []) ∨ ∃ c, A = oneN (segB 1) c (crT la lb keep) (crT la lb keep).length []
section
variable {w : World} {base L D k : Nat} {A : List CF} {t : Nat} {ro : Nat → Option Nat}
end
theorem RowAt.upto {w : World} {a : Option Addr} {n cap : Nat} {l : List Rc} (h : RowAt rcC w (.slice a n cap) l) (m : Nat) (hm : m ≤ l.length) : RowAt rcC w (.slice a m cap) (l.take m) := by
  obtain ⟨a', cap', e, h1, h2, h3⟩ := h.ex
  injection e with e1 e2 e3
  subst e1 e3
  have hl : (l.take m).length = m := by rw [List.length_take]; omega
  refine ⟨a, cap, by rw [hl], by omega, fun e => ?_, ?_⟩
  · have := h2 e
    omega
  · by_cases h0 : m = 0
    · exact Or.inl (by omega)
    · rcases h3 with h3 | ⟨bk, off, e1, hb, hx⟩
      · omega
      · refine Or.inr ⟨bk, off, e1, hb, fun j u hu => hx j u ?_⟩
        have hp : rowL rcC l = rowL rcC (l.take m) ++ rowL rcC (l.drop m) := by rw [← rowL_append, List.take_append_drop]
        rw [hp, List.getElem?_append_left (List.getElem?_eq_some_iff.1 hu).1]
        exact hu
end Go.Proofs.YtodnnhidljfilaaGreatDoor
/-
  Package wal: records put behind a log, with what is left as it was. The conditions: at most one segment, its number below 98; what is put fits.
-/
namespace Go.Proofs.YtodnnhidljfilaaGreatDoor
open Go.RowKit

theorem ExtL.ext {w w1 w2 : World} {ro ro1 ro2 : Nat → Option Nat} {L : Nat} (h : ExtL w w1 ro ro1 L) (x : Ext w1 w2 ro1 ro2) : ExtL w w2 ro ro2 L :=
  ⟨x.os.trans h.os, x.tape.trans h.tape, x.output.trans h.output, Nat.le_trans h.size x.size, fun b hb => (x.old b (Nat.lt_of_lt_of_le hb h.size)).trans (h.old b hb), fun b hb h1 h2 => (x.kept b (Nat.lt_of_lt_of_le hb h.size) ((h.old b hb).trans h1)).trans (h.kept b hb h1 h2)⟩
section
variable {w : World} {base L D k : Nat} {A : List CF} {t : Nat} {ro : Nat → Option Nat}
set_option maxHeartbeats 6400000 in
set_option maxRecDepth 100000 in
theorem write_newX (h : LgS w base L D 0 [] t ro) (v : Value) (l : List Rc) (hv : RowAt rcC w v l) (hl : l.length ≤ 351843720000) (hT : Tab w) (hm : l.all mayR = true) (h0 : l ≠ []) (hs : (framesOf l).length ≤ 4194304) (ht : t < 4611686018427387904) :
    Calls Tryz.prog 44 #[.pointer (some ⟨L, 0, none⟩), v] w fun e w' => e = .returned (.int .i64 0) ∧ ∃ c ro', LgS w' base L D 1 (oneN (segB 1) c (framesOf l) 0 [(t + 1, (framesOf l).length)]) (t + 1) ro' ∧ Below base w w' ∧ ExtL w w' ro ro' L := by
  have qf := wframes_any w v l hv hl hT
  rw [framesT_all hm] at qf
  have hp := frames_pos h0
  obtain ⟨F, hF⟩ : ∃ F : ByteArray, F = ⟨(framesOf l).toArray⟩ := ⟨_, rfl⟩
  rw [← hF] at qf
  have HF : Hid (F.data.toList = framesOf l) := by rw [hF]; rfl
  have zF : F.size = (framesOf l).length := by rw [Lib.size_eq, HF.out]
  have ne := has_bytes (F := F) (by omega)
  have qn := segName_any 1 (by decide)
  have qn' : ∀ w, Calls Tryz.prog 74 #[.int .i64 1] w fun e w' => e = .returned (.string (segB 1)) ∧ w = w' := qn
  have hn := nameB_seg (k := 1) (by decide)
  have H : Hid (LgS w base L D 0 [] t ro) := h
  have zF2 : F.size ≤ 4194304 := by omega
  have zF3 : 0 < F.size := by omega
  have HZ : Hid (F.size = (framesOf l).length) := zF
  obtain ⟨va, vn, rfl⟩ := hv.form
  clear hm hv hF h qn zF hp h0 hs
  go_enter Tryz.func44, Tryz.ntmps44
  go_wp2_with (go_at_call 75; refine qf.mono ?_; rintro e w1 ⟨rfl, b1⟩; have h1 : Hid _ := H.out.fresh b1; have c0 := h1.out.c0; have c1 := h1.out.c1)
  go_region_held3 (fun w' => w'.cell? ⟨L, 0, none⟩ = some (.pointer (some ⟨D, 0, none⟩))) (go_keep)
    (first
      | (go_at_call 76; refine (o_first (dkd h1.out.dk) (segB 1) F hn zF3 zF2 ht).mono ?_; rintro e w2 ⟨rfl, c, ro', k2, x2'⟩; have h2 : Hid _ := h1.out.ext k2 (unx x2'); have x2 : Hid _ := unx x2'; have d0 := h2.out.c0; have d1 := h2.out.c1; have d2 := h2.out.f1; clear k2 x2')
      | (go_at_call 74; refine (qn' _).mono ?_; rintro e w' ⟨rfl, rfl⟩))
  go_wp2
  go_ret
  have hS := h2.out.set 1
  rw [HF.out, HZ.out] at hS
  exact ⟨rfl, c, ro', hS, ((b1.mono H.out.base).trans (h1.out.below x2.out)).trans (h2.out.set_below 1), ExtL.set ((Ext.of_below b1).trans x2.out) _⟩
set_option maxHeartbeats 6400000 in
set_option maxRecDepth 100000 in
theorem write_moreX {c sure : Nat} {bs : List UInt8} {ps : List (Nat × Nat)} (h1k : 1 ≤ k) (hk : k < 98) (h : LgS w base L D k (oneN (segB k) c bs sure ps) t ro) (v : Value) (l : List Rc) (hv : RowAt rcC w v l) (hl : l.length ≤ 351843720000) (hT : Tab w) (hm : l.all mayR = true) (h0 : l ≠ []) (hs : bs.length + (framesOf l).length ≤ 4194304) (ht : t < 4611686018427387904) :
    Calls Tryz.prog 44 #[.pointer (some ⟨L, 0, none⟩), v] w fun e w' => e = .returned (.int .i64 0) ∧ ∃ t' ro', t' ≤ t + 1 ∧ LgS w' base L D k (oneN (segB k) c (bs ++ framesOf l) sure (ps ++ [(t + 1, (framesOf l).length)])) t' ro' ∧ Below base w w' ∧ ExtL w w' ro ro' L := by
  have qf := wframes_any w v l hv hl hT
  rw [framesT_all hm] at qf
  have hp := frames_pos h0
  obtain ⟨F, hF⟩ : ∃ F : ByteArray, F = ⟨(framesOf l).toArray⟩ := ⟨_, rfl⟩
  rw [← hF] at qf
  have HF : Hid (F.data.toList = framesOf l) := by rw [hF]; rfl
  have zF : F.size = (framesOf l).length := by rw [Lib.size_eq, HF.out]
  have ne := has_bytes (F := F) (by omega)
  have qn := segName_any k (by omega)
  have hn := nameB_seg (k := k) (by omega)
  have H : Hid (LgS w base L D k (oneN (segB k) c bs sure ps) t ro) := h
  have zF2 : bs.length + F.size ≤ 4194304 := by omega
  have HZ : Hid (psN F (t + 1) = [(t + 1, (framesOf l).length)]) := by rw [psN_yes (by omega), zF]; rfl
  have kx : max (k : Int) 1 = (k : Int) := by omega
  obtain ⟨va, vn, rfl⟩ := hv.form
  clear hm hv hF h zF hp h0 hs
  go_enter Tryz.func44, Tryz.ntmps44
  go_wp2_with (go_at_call 75; refine qf.mono ?_; rintro e w1 ⟨rfl, b1⟩; have h1 : Hid _ := H.out.fresh b1; have c0 := h1.out.c0; have c1 := h1.out.c1)
  go_region_held3 (fun w' => w'.cell? ⟨L, 0, none⟩ = some (.pointer (some ⟨D, 0, none⟩))) (go_keep)
    (first
      | (go_at_call 76; refine (o_more (dkd h1.out.dk) hn F zF2 ht).mono ?_; rintro e w2 ⟨rfl, t', ro', ht', k2, x2'⟩; have h2 : Hid _ := h1.out.ext k2 (unx x2'); have x2 : Hid _ := unx x2'; have d0 := h2.out.c0; have d1 := h2.out.c1; have d2 := h2.out.f1; clear k2 x2')
      | (go_at_call 74; refine (qn _).mono ?_; rintro e w' ⟨rfl, rfl⟩))
  go_wp2
  go_ret
  have hS := h2.out.set k
  rw [HF.out, HZ.out] at hS
  exact ⟨rfl, t', ro', ht', hS, ((b1.mono H.out.base).trans (h1.out.below x2.out)).trans (h2.out.set_below k), ExtL.set ((Ext.of_below b1).trans x2.out) _⟩
set_option maxHeartbeats 6400000 in
set_option maxRecDepth 100000 in
theorem wappend_newX (h : LgS w base L D 0 [] t ro) (v : Value) (l : List Rc) (hv : RowAt rcC w v l) (hl : l.length ≤ 351843720000) (hT : Tab w) (hm : l.all mayR = true) (h0 : l ≠ []) (hs : (framesOf l).length ≤ 4194304) (ht : t < 4611686018427387904) :
    Calls Tryz.prog 43 #[.pointer (some ⟨L, 0, none⟩), v] w fun e w' => e = .returned (.int .i64 0) ∧ ∃ c ro', LgS w' base L D 1 (oneN (segB 1) c (framesOf l) (framesOf l).length []) (t + 1) ro' ∧ Below base w w' ∧ ExtL w w' ro ro' L := by
  have q := write_newX h v l hv hl hT hm h0 hs ht
  have qn := segName_any 1 (by decide)
  have qn' : ∀ w, Calls Tryz.prog 74 #[.int .i64 1] w fun e w' => e = .returned (.string (segB 1)) ∧ w = w' := qn
  have hn := seg_max (k := 1) (by decide)
  obtain ⟨va, vn, rfl⟩ := hv.form
  clear h qn
  go_enter Tryz.func43, Tryz.ntmps43
  go_wp2_with (go_at_call 44; refine q.mono ?_; rintro e w1 ⟨rfl, c, ro', h1', b1, x1⟩; have h1 : Hid _ := h1'; have X1 : Hid _ := x1; clear x1; have c0 := h1'.c0; have c1 : w1.cell? ⟨L, 1, none⟩ = some (.int .i64 1) := h1'.c1; clear h1')
  go_region_held3 (fun w' => w'.cell? ⟨L, 0, none⟩ = some (.pointer (some ⟨D, 0, none⟩)) ∧ w'.cell? ⟨L, 1, none⟩ = some (.int .i64 1)) (go_keep)
    (first
      | (go_at_call 73; refine (o_sync (dkd h1.out.dk) hn).mono ?_; rintro e w2 ⟨rfl, k2, x2'⟩; have h2 : Hid _ := h1.out.ext k2 (unx x2'); have x2 : Hid _ := unx x2'; have d0 := h2.out.c0; have d1 : w2.cell? ⟨L, 1, none⟩ = some (.int .i64 1) := h2.out.c1; clear k2 x2')
      | (go_at_call 74; refine (qn' _).mono ?_; rintro e w' ⟨rfl, rfl⟩))
  go_wp2
  go_ret
  exact ⟨rfl, c, ro', h2.out, b1.trans (h1.out.below x2.out), X1.out.ext x2.out⟩
end
section
variable {w : World} {base L D k : Nat} {A : List CF} {t : Nat} {ro : Nat → Option Nat}
theorem appendSX (h : LgS w base L D 0 [] 0 ro) (v : Value) (la : List Rc) (hv : RowAt rcC w v la) (hl : la.length ≤ 300) (hT : Tab w) (hm : la.all mayR = true) :
    Calls Tryz.prog 43 #[.pointer (some ⟨L, 0, none⟩), v] w fun e w' => e = .returned (.int .i64 0) ∧ ∃ k A t ro', LgS w' base L D k A t ro' ∧ StA la k A t ∧ Below base w w' ∧ ExtL w w' ro ro' L := by
  by_cases h0 : la = []
  · subst h0
    exact (wappend_none h v hv hT).mono fun e w' ⟨h1, h2⟩ => ⟨h1, 0, [], 0, ro, h.fresh h2, Or.inl ⟨rfl, rfl, rfl, rfl⟩, h2.mono h.base, ExtL.of (Ext.of_below h2)⟩
  · have hf := frames_300 hm hl
    exact (wappend_newX h v la hv (by omega) hT hm h0 (by omega) (by decide)).mono fun e w' ⟨h1, c, ro', h2, h3, h4⟩ => ⟨h1, 1, _, 1, ro', h2, Or.inr ⟨rfl, rfl, c, rfl⟩, h3, h4⟩
theorem writeSX {la : List Rc} (h : LgS w base L D k A t ro) (hA : StA la k A t) (ha : la.all mayR = true) (hla : la.length ≤ 300) (v : Value) (lb : List Rc) (hv : RowAt rcC w v lb) (hl : lb.length ≤ 300) (hT : Tab w) (hm : lb.all mayR = true) :
    Calls Tryz.prog 44 #[.pointer (some ⟨L, 0, none⟩), v] w fun e w' => e = .returned (.int .i64 0) ∧ ∃ k' A' t' ro', LgS w' base L D k' A' t' ro' ∧ StB la lb A' t' ∧ Below base w w' ∧ ExtL w w' ro ro' L := by
  have hfa := frames_300 ha hla
  have hfb := frames_300 hm hl
  by_cases h0 : lb = []
  · subst h0
    refine (write_none L v hv hT).mono fun e w' ⟨h1, h2⟩ => ⟨h1, k, A, t, ro, h.fresh h2, ?_, h2.mono h.base, ExtL.of (Ext.of_below h2)⟩
    rcases hA with ⟨e1, _, e3, e4⟩ | ⟨_, e4, c, e3⟩
    · exact ⟨by omega, Or.inl ⟨e1, rfl, e3⟩⟩
    · refine ⟨by omega, Or.inr ⟨c, 0, ?_⟩⟩
      rw [e3]
      show oneN _ _ _ _ _ = oneN _ _ (framesOf la ++ []) _ (pcs [] 0)
      rw [List.append_nil]
      rfl
  · rcases hA with ⟨e1, e2, e3, e4⟩ | ⟨e1, e4, c, e3⟩
    · subst e1 e2 e3 e4
      refine (write_newX h v lb hv (by omega) hT hm h0 (by omega) (by decide)).mono fun e w' ⟨h1, c, ro', h2, h3, h4⟩ => ⟨h1, 1, _, _, ro', h2, ⟨by decide, Or.inr ⟨c, 0 + 1, ?_⟩⟩, h3, h4⟩
      unfold pcs
      rw [if_neg h0]
      rfl
    · subst e1 e3 e4
      refine (write_moreX (by decide) (by decide) h v lb hv (by omega) hT hm h0 (by omega) (by decide)).mono fun e w' ⟨h1, t', ro', h2, h3, h4, h5⟩ => ⟨h1, 1, _, t', ro', h3, ⟨by omega, Or.inr ⟨c, 1 + 1, ?_⟩⟩, h4, h5⟩
      unfold pcs
      rw [if_neg h0]
      rfl
theorem crashSX {la lb : List Rc} (h : DkS w base D A t ro) (hB : StB la lb A t) (keep : Int) (h1 : -9223372036854775808 ≤ keep) (h2 : keep ≤ 9223372036854775807) :
    Calls Tryz.prog 24 #[.pointer (some ⟨D, 0, none⟩), .int .i64 keep] w fun e w' => e = .returned (.tuple #[]) ∧ ∃ A', DkS w' base D A' t ro ∧ StC la lb keep A' ∧ Ext w w' ro ro := by
  rcases hB.2 with ⟨e1, e2, e3⟩ | ⟨c, t0, e3⟩
  · subst e3
    exact (o_crash0 h keep h1 h2).mono fun e w' ⟨h3, h4, h5⟩ => ⟨h3, [], h4, Or.inl ⟨e1, e2, rfl⟩, h5⟩
  · subst e3
    by_cases h0 : lb = []
    · subst h0
      refine (o_crashN h keep h1 h2).mono fun e w' ⟨h3, h4, h5⟩ => ⟨h3, _, h4, Or.inr ⟨c, ?_⟩, h5⟩
      rw [crT_len]
      unfold crT
      rw [show framesOf [] = [] from rfl]
      simp
    · have hp := frames_pos h0
      have h' : DkS w base D (oneN (segB 1) c (framesOf la ++ framesOf lb) (framesOf la).length [(t0, (framesOf lb).length)]) t ro := by
        unfold pcs at h
        rw [if_neg h0] at h
        exact h
      refine (o_crash1 hp h' keep h1 h2).mono fun e w' ⟨h3, h4, h5⟩ => ⟨h3, _, h4, Or.inr ⟨c, ?_⟩, h5⟩
      rw [crT_len]
      rfl
theorem openSX {la lb : List Rc} {keep : Int} (h : DkS w base D A t ro) (hC : StC la lb keep A) (ht : t ≤ 2) (hT : Tab w) :
    Calls Tryz.prog 40 #[.pointer (some ⟨D, 0, none⟩)] w fun e w' => ∃ L v ro', e = .returned (.tuple #[.pointer (some ⟨L, 0, none⟩), v, .int .i64 0]) ∧ RowAt rcC w' v (recs (crT la lb keep)).1 ∧ Ext w w' ro ro' := by
  rcases hC with ⟨e1, e2, e3⟩ | ⟨c, e3⟩
  · subst e1 e2 e3
    exact (open_zero h).mono fun e w' ⟨L, h1, h2, h3⟩ => ⟨L, _, ro, h1, by rw [crT_nil, recs_nil]; exact RowAt.nil w', Ext.of_below h3⟩
  · subst e3
    exact (open_one (by decide) (by decide) h (by omega) hT).mono fun e w' ⟨L, v, k', c', bs', sure', ps', t', ro', h1, _, h3, h4, h5, _⟩ => ⟨L, v, ro', h1, h4.row, h5⟩
end
end Go.Proofs.YtodnnhidljfilaaGreatDoor
