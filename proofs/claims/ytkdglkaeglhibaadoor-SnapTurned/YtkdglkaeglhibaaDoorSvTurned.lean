/-
  SnapTurned, walked: for every text, every place and every byte a snapshot's file of which one byte is another is not loaded as another one. The condition: the program's variables lie in memory as its text lays them.
-/
import Derived.Test.YtkdglkaeglhibaaDoorSvAwake
namespace Go.Proofs.YtkdglkaeglhibaaDoor
open Go.RowKit

theorem bytesRow_list (f : ByteArray) (cap : Nat) : (bytesRow f cap).toList = Lib.byteCells f.data.toList ++ List.replicate (cap - f.size) (.int .u8 0) := by
  simp [bytesRow, Lib.byteCells]
theorem xor_ne {c y : Nat} (h : y ≠ 0) : c ^^^ y ≠ c := by
  intro e
  have := congrArg (c ^^^ ·) e
  simp only [← Nat.xor_assoc, Nat.xor_self, Nat.zero_xor] at this
  exact h this
/-- A row of bytes of its own, one of them another. -/
abbrev rowW (W : World) (f : ByteArray) (cap : Nat) : World := W.alloc (.cells (bytesRow f cap) 5 ((bytesRow f cap).size, (bytesRow f cap).size + 1))
theorem row_size (f : ByteArray) (cap : Nat) : f.size ≤ (bytesRow f cap).size := by
  rw [← Array.length_toList, bytesRow_list, List.length_append, Lib.byteCells_length, ← Lib.size_eq]
  omega
theorem row_cell (W : World) (f : ByteArray) (cap P c : Nat) (hi : P < f.size) (hc : f[P].toNat = c) : (rowW W f cap).cell? ⟨W.heap.size, P, none⟩ = some (.int .u8 (c : Int)) := by
  have hcell := Lib.cells_of_row (heap_alloc_new W (.cells (bytesRow f cap) 5 ((bytesRow f cap).size, (bytesRow f cap).size + 1))) f.size P (.int .u8 c) (by
    rw [bytesRow_list, List.take_left' (by rw [Lib.byteCells_length, ← Lib.size_eq])]
    simp only [Lib.byteCells, List.getElem?_map, Lib.data_getElem? f _ hi, Option.map_some, hc])
  rw [Lib.addr_add, Nat.zero_add] at hcell
  exact hcell
theorem row_free (W : World) (f : ByteArray) (cap P : Nat) (hi : P < f.size) : (rowW W f cap).frozen? ⟨W.heap.size, P, none⟩ = false := by
  have := row_size f cap
  unfold World.frozen? rowW
  rw [heap_alloc_new W (.cells (bytesRow f cap) 5 ((bytesRow f cap).size, (bytesRow f cap).size + 1))]
  simp
  omega
theorem row_below (W : World) (f : ByteArray) (cap P : Nat) (v : Value) : Below W.heap.size W ((rowW W f cap).setCell ⟨W.heap.size, P, none⟩ v).drew :=
  (((Below.refl _ W).alloc (Nat.le_refl _) _).setCell (p := ⟨W.heap.size, P, none⟩) (Nat.le_refl _) _).drew
/-- The row read back as a text. -/
theorem row_back (W w5 : World) (f : ByteArray) (cap P d : Nat) (hi : P < f.size) (hd : d < 256) (h5 : w5.heap[W.heap.size]? = ((rowW W f cap).setCell ⟨W.heap.size, P, none⟩ (.int .u8 (d : Int))).heap[W.heap.size]?) :
    (convert 36 9 (.slice (some ⟨W.heap.size, 0, none⟩) f.size cap)).run Tryd.prog w5 = .ok (.string ⟨(f.data.toList.set P (UInt8.ofNat d)).toArray⟩) w5 := by
  have hfl : f.data.toList.length = f.size := (Lib.size_eq f).symm
  have hgl : (f.data.toList.set P (UInt8.ofNat d)).length = f.size := by rw [List.length_set, hfl]
  have hr := run_convert_bytes_back w5 36 9 5 ⟨W.heap.size, 0, none⟩ cap (f.data.toList.set P (UInt8.ofNat d)) Tryd.underlying36 Tryd.underlying5 Tryd.underlying9 (by
    have hrow2 : w5.heap[W.heap.size]? = some (.cells ((bytesRow f cap).setIfInBounds P (.int .u8 (d : Int))) 5 ((bytesRow f cap).size, (bytesRow f cap).size + 1)) :=
      h5.trans (Lib.heap_setCell_same (i := P) (heap_alloc_new W (.cells (bytesRow f cap) 5 ((bytesRow f cap).size, (bytesRow f cap).size + 1))) (.int .u8 (d : Int)))
    refine Lib.bytes_of_row hrow2 ?_
    rw [Array.toList_setIfInBounds, bytesRow_list, List.set_append_left _ _ (by rw [Lib.byteCells_length, hfl]; exact hi), List.take_left' (by rw [List.length_set, Lib.byteCells_length, hgl, hfl])]
    simp only [Lib.byteCells, List.map_set]
    rw [ofNat_toNat hd])
  rw [hgl] at hr
  exact hr
def oneA (c : Nat) (bs : List UInt8) : List CF := [sureF snapB c bs]
theorem savedA_nil (c : Nat) (bs : List UInt8) : savedA [] c bs = oneA c bs := rfl
theorem lk_oneA (c : Nat) (bs : List UInt8) : lk (oneA c bs) snapB = some (sureF snapB c bs) := by
  unfold oneA
  rw [lk_cons]
  exact if_pos rfl
theorem delF_oneA (c : Nat) (bs : List UInt8) : delF (oneA c bs) snapB = [] := by
  unfold delF oneA
  rw [List.filter_cons_of_neg (by simp [sureF]), List.filter_nil]
set_option maxHeartbeats 3200000 in
set_option maxRecDepth 100000 in
theorem turned_walk (w : World) (hE : Env w w.heap.size) (s : ByteArray) (z : Int) (y : Nat) (hy : y < 256) :
    Calls Tryd.prog 4 #[.string s, .int .i64 z, .int .u8 (y : Int)] w fun e w' => e = .returned (.bool true) ∧ Below w.heap.size w w' := by
  have QA : Hid (∀ w1, Below w.heap.size w w1 → Calls Tryd.prog 6 #[] w1 fun e w' => e = .returned (.bool true) ∧ Below w.heap.size w w') := fun w1 b => (sAwake w1 w.heap.size (hE.below b (Nat.le_refl _))).mono fun _ _ ⟨g1, g2⟩ => ⟨g1, bmm b b.size g2⟩
  by_cases hbig : 1000 < s.size
  · have f1 : decide ((1000 : Int) < (s.size : Int)) = true := decide_eq_true (by omega)
    clear hE
    go_enter Tryd.func4, Tryd.ntmps4
    go_wp2_with (go_at_call 6; refine (QA.out _ (Below.refl _ _)).mono ?_; rintro e w6 ⟨rfl, b6⟩)
    go_ret
    exact ⟨rfl, b6⟩
  · have f1 : decide ((1000 : Int) < (s.size : Int)) = false := decide_eq_false (by omega)
    by_cases h0 : y = 0
    · subst h0
      clear hE
      go_enter Tryd.func4, Tryd.ntmps4
      go_wp2_with (go_at_call 6; refine (QA.out _ (Below.refl _ _)).mono ?_; rintro e w6 ⟨rfl, b6⟩)
      go_ret
      exact ⟨rfl, b6⟩
    · have f2 : ((y : Int) == 0) = false := by rw [beq_eq_false_iff_ne]; omega
      have hm : mayS 7 s = true := by
        unfold mayS
        simp only [Bool.and_eq_true, decide_eq_true_eq]
        omega
      have hfl : (fileS 7 s).length = (encS 7 s).length + 8 := frameOf_len _
      have hel := encS_len hm
      obtain ⟨f, hf⟩ : ∃ f : ByteArray, f = ⟨(fileS 7 s).toArray⟩ := ⟨_, rfl⟩
      have hfs : f.size = (fileS 7 s).length := by rw [hf, Lib.size_eq]
      have hfd : f.data.toList = fileS 7 s := by rw [hf]
      obtain ⟨M, hM⟩ : ∃ M, z.tmod (f.size : Int) = M := ⟨_, rfl⟩
      have hMb : -(f.size : Int) < M ∧ M < (f.size : Int) := by
        rw [← hM]
        exact ⟨Int.lt_tmod_of_pos z (by omega), Int.tmod_lt_of_pos z (by omega)⟩
      obtain ⟨hM1, hM2⟩ := hMb
      obtain ⟨P, hP⟩ : ∃ P : Nat, (M + (f.size : Int)) % (f.size : Int) = (P : Int) := ⟨((M + (f.size : Int)) % (f.size : Int)).toNat, by have := Int.emod_nonneg (M + (f.size : Int)) (b := (f.size : Int)) (by omega); omega⟩
      have hPl : P < f.size := by have := Int.emod_lt_of_pos (M + (f.size : Int)) (b := (f.size : Int)) (by omega); omega
      have hW : (wrap64 (M + (f.size : Int))).tmod (f.size : Int) = (P : Int) := by
        have e : wrap64 (M + (f.size : Int)) = M + (f.size : Int) := by unfold wrap64; omega
        rw [e, Int.tmod_eq_emod_of_nonneg (by omega)]
        exact hP
      have hPi : (P : Int) < (f.size : Int) := by omega
      obtain ⟨c, hc⟩ : ∃ c, f[P].toNat = c := ⟨_, rfl⟩
      have hc256 : c < 256 := by rw [← hc]; exact byte_lt _
      obtain ⟨d, hd⟩ : ∃ d, d = c ^^^ y := ⟨_, rfl⟩
      have hd256 : d < 256 := by rw [hd]; exact Nat.xor_lt_two_pow (n := 8) hc256 hy
      have hdc : d ≠ c := by rw [hd]; exact xor_ne h0
      have hx : bits .xor .u8 (c : Int) (y : Int) = (d : Int) := by
        have := u8_xor_nat c y hc256 hy
        rw [← hd] at this
        exact this
      obtain ⟨g, hg⟩ : ∃ g : ByteArray, g = ⟨(f.data.toList.set P (UInt8.ofNat d)).toArray⟩ := ⟨_, rfl⟩
      have hgs : g.size = f.size := by rw [hg, Lib.size_eq, List.length_set, ← Lib.size_eq]
      have hgd : g.data.toList = (fileS 7 s).set P (UInt8.ofNat d) := by rw [hg, hfd]
      have hload : loadS g.data.toList = (0, ⟨#[]⟩, 2) := by
        rw [hgd]
        refine loadS_turned hm (by omega) ?_
        intro he
        have h1 := Lib.data_getElem? f P hPl
        rw [hfd, he] at h1
        have h3 := congrArg UInt8.toNat (Option.some.inj h1)
        rw [ofNat_toNat hd256, hc] at h3
        exact hdc h3
      have hcv := fun W => run_bytes_of_string (P := Tryd.prog) W 9 36 5 f Tryd.underlying9 Tryd.underlying36 Tryd.underlying5
      have hfst : ∀ (W : World) cap, (W.alloc (.cells (bytesRow f cap) 5 ((bytesRow f cap).size, (bytesRow f cap).size + 1))).cell? ⟨W.heap.size, P, none⟩ = some (.int .u8 (c : Int)) := fun W cap => row_cell W f cap P c hPl hc
      have hfz : ∀ (W : World) cap, (W.alloc (.cells (bytesRow f cap) 5 ((bytesRow f cap).size, (bytesRow f cap).size + 1))).frozen? ⟨W.heap.size, P, none⟩ = false := fun W cap => row_free W f cap P hPl
      have Q1 : Hid (∀ w1, SAt w w1 w.heap.size [] 0 → Calls Tryd.prog 7 #[.pointer (some ⟨w.heap.size, 0, none⟩), .int .i64 7, .string s] w1 fun e w' => e = .returned (.int .i64 0) ∧ ∃ c1, SAt w w' w.heap.size (oneA c1 f.data.toList) 1) := fun w1 h => (h.save hE (Nat.le_refl _) 7 s hm (by decide)).mono fun _ _ ⟨g1, c1, g2⟩ => ⟨g1, c1, by rw [hfd, ← savedA_nil]; exact g2⟩
      have Q2 : Hid (∀ w1 c1, SAt w w1 w.heap.size (oneA c1 f.data.toList) 1 → Calls Tryd.prog 11 #[.pointer (some ⟨w.heap.size, 0, none⟩), .string ⟨#[115, 110, 97, 112]⟩] w1 fun e w' => e = .returned (.tuple #[.string f, .int .i64 0]) ∧ w1 = w') := fun w1 c1 h => by
        obtain ⟨ro, hD⟩ := h.dk
        exact S_read hD snapB snap_max _ (lk_oneA c1 f.data.toList)
      have Q3 : Hid (∀ w1 c1 cap, SAt w w1 w.heap.size (oneA c1 f.data.toList) 1 → Calls Tryd.prog 12 #[.pointer (some ⟨w.heap.size, 0, none⟩), .string ⟨#[115, 110, 97, 112]⟩] ((w1.alloc (.cells (bytesRow f cap) 5 ((bytesRow f cap).size, (bytesRow f cap).size + 1))).setCell ⟨w1.heap.size, P, none⟩ (.int .u8 (d : Int))).drew fun e w' => e = .returned (.int .i64 0) ∧ SAt w w' w.heap.size [] 1 ∧ (convert 36 9 (.slice (some ⟨w1.heap.size, 0, none⟩) f.size cap)).run Tryd.prog w' = .ok (.string g) w') := fun w1 c1 cap h => by
        obtain ⟨ro, hD⟩ := h.dk
        have hbl := row_below w1 f cap P (.int .u8 (d : Int))
        have hD2 := hD.fresh hbl
        refine (S_remove hD2 snapB snap_max _ (lk_oneA c1 f.data.toList)).mono fun e w' ⟨g1, g2, g3⟩ => ⟨g1, ⟨⟨ro, ?_⟩, (h.fresh hbl).bel.trans (hD2.below g3)⟩, ?_⟩
        · rw [delF_oneA] at g2
          exact g2
        · rw [hg]
          refine row_back w1 w' f cap P d hPl hd256 (g3.kept w1.heap.size (by simp) ?_)
          cases hr : ro w1.heap.size with
          | none => rfl
          | some q => have := (hD.bd w1.heap.size (by rw [hr]; simp)).2; omega
      have Q4 : Hid (∀ w1, SAt w w1 w.heap.size [] 1 → Calls Tryd.prog 8 #[.pointer (some ⟨w.heap.size, 0, none⟩), .string ⟨#[115, 110, 97, 112]⟩, .string g] w1 fun e w' => e = .returned (.int .i64 0) ∧ ∃ f1 t1, SAt w w' w.heap.size [f1] t1 ∧ f1.name = snapB ∧ f1.bs = g.data.toList) := fun w1 h => h.begin snapB g (by decide) rfl (by omega) (by decide)
      have Q5 : Hid (∀ w1 f1 t1, SAt w w1 w.heap.size [f1] t1 → f1.name = snapB → f1.bs = g.data.toList → Calls Tryd.prog 10 #[.pointer (some ⟨w.heap.size, 0, none⟩)] w1 fun e w' => e = .returned (.tuple #[.int .i64 0, .string ⟨#[]⟩, .int .i64 2]) ∧ Below w.heap.size w w') := fun w1 f1 t1 h h1 h2 => by
        obtain ⟨ro, hD⟩ := h.dk
        have q := pload_some hD (hE.below h.bel (Nat.le_refl _)) f1 (by rw [lk_cons, if_pos h1])
        rw [h2, hload] at q
        exact q.mono fun _ _ ⟨g1, g2⟩ => ⟨g1, bmm h.bel hD.base g2⟩
      have f3 : ((f.size : Int) == 0) = false := by rw [beq_eq_false_iff_ne]; omega
      have f4 : ¬ (f.size : Int) = 0 := by omega
      clear hE hbig h0 hm hfl hel hf hfs hfd hPl hc hd hdc hd256 hg hgs hgd hload hc256 hy hP
      go_enter Tryd.func4, Tryd.ntmps4
      go_wp2_with (first
        | (go_at_call 6; refine (QA.out _ b6).mono ?_; rintro e w7 ⟨rfl, b7⟩)
        | (go_at_call 10; refine (Q5.out _ _ _ k5.out h51.out h52.out).mono ?_; rintro e w6 ⟨rfl, b6⟩)
        | (go_at_call 8; refine (Q4.out _ k4.out).mono ?_; rintro e w5 ⟨rfl, f5, t5, k, e1, e2⟩; have k5 : Hid _ := k; have h51 : Hid (f5.name = snapB) := e1; have h52 : Hid _ := e2; clear k e1 e2 k4)
        | (go_at_call 12; refine (Q3.out _ _ _ k2.out).mono ?_; rintro e w4 ⟨rfl, k, hv⟩; have k4 : Hid _ := k; clear k k2)
        | (go_at_call 11; refine (Q2.out _ _ k2.out).mono ?_; rintro e w3 ⟨rfl, rfl⟩)
        | (go_at_call 7; refine (Q1.out _ k1.out).mono ?_; rintro e w2 ⟨rfl, c1, k⟩; have k2 : Hid _ := k; clear k k1)
        | (go_at_call 5; refine (snew w).mono ?_; rintro e w1 ⟨rfl, k⟩; have k1 : Hid _ := k; clear k))
      go_ret
      exact ⟨rfl, b7⟩
end Go.Proofs.YtkdglkaeglhibaaDoor
