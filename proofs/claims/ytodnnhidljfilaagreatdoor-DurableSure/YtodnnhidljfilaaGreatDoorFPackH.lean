/-
  Parts of the proof, laid together: FLand, FFirst. The conditions stand at each part.
-/
import Derived.Test.YtodnnhidljfilaaGreatDoorFPackE
/-
  The contracts of package frame as it landed, the rest: numberText, strings.Clone, Wrap, First, All answer as the document's plain functions. The conditions: the table of 16 numbers holds what its initialiser lays ('Tab'), and sizes.
-/
namespace Go.Proofs.YtodnnhidljfilaaGreatDoor
open Go.RowKit

theorem fown_text (n : Nat) (h : n < 4294967296) (w : World) :
    (convert 101 9 (.slice (some ⟨w.heap.size, 0, none⟩) 4 4)).run Tryz.prog (w.alloc (.cells #[.int .u8 ((n : Int) % 256), .int .u8 ((n : Int) / 256 % 256), .int .u8 ((n : Int) / 256 / 256 % 256), .int .u8 ((n : Int) / 256 / 256 / 256)] 250)) =
      .ok (.string ⟨(four n).toArray⟩) (w.alloc (.cells #[.int .u8 ((n : Int) % 256), .int .u8 ((n : Int) / 256 % 256), .int .u8 ((n : Int) / 256 / 256 % 256), .int .u8 ((n : Int) / 256 / 256 / 256)] 250)) := by
  have hl : (four n).length = 4 := rfl
  refine run_convert_bytes_back _ 101 9 5 ⟨w.heap.size, 0, none⟩ 4 (four n) Tryz.underlying101 Tryz.underlying5 Tryz.underlying9 ?_
  intro j hj
  have hrow := heap_alloc_new w (.cells #[.int .u8 ((n : Int) % 256), .int .u8 ((n : Int) / 256 % 256), .int .u8 ((n : Int) / 256 / 256 % 256), .int .u8 ((n : Int) / 256 / 256 / 256)] 250)
  have hc := Lib.cells_of_row hrow 4 j
  rw [hc (.int .u8 ((four n)[j].toNat : Int)) ?_]
  rcases (show j = 0 ∨ j = 1 ∨ j = 2 ∨ j = 3 by omega) with rfl | rfl | rfl | rfl
  · simp [four, byte_ofNat (show n % 256 < 256 by omega)]
  · simp [four, byte_ofNat (show n / 256 % 256 < 256 by omega)]
  · simp [four, byte_ofNat (show n / 65536 % 256 < 256 by omega)]
    omega
  · simp [four, byte_ofNat (show n / 16777216 % 256 < 256 by omega)]
    omega

set_option maxHeartbeats 800000 in
set_option maxRecDepth 100000 in
theorem numberText_any (n : Nat) (h : n < 4294967296) (w : World) :
    Calls Tryz.prog 157 #[.int .i64 n] w fun e w' => e = .returned (.string ⟨(four n).toArray⟩) ∧ Below w.heap.size w w' := by
  have ht := fown_text n h w
  go_enter Tryz.func157, Tryz.ntmps157
  go_wp2
  refine wp_loop_rounds 5 ?_
  rw [rounds_succ]
  go_wp2
  rw [rounds_succ]
  go_wp2
  rw [rounds_succ]
  go_wp2
  rw [rounds_succ]
  go_wp2
  rw [rounds_succ]
  go_wp2
  go_ret
  exact ⟨rfl, (Below.refl _ w).alloc (Nat.le_refl _) _⟩

set_option maxRecDepth 100000 in
/-- internal/stringslite.Clone: the same bytes, in a row of its own. -/
theorem fclone_any (s : ByteArray) (hs : s.size ≤ 281474976710656) (w : World) :
    Calls Tryz.prog 95 #[.string s] w fun e w' => e = .returned (.string s) ∧ Below w.heap.size w w' := by
  by_cases h0 : s.size = 0
  · obtain rfl := is_empty h0
    go_enter Tryz.func95, Tryz.ntmps95
    go_wp2
    go_ret
    exact ⟨rfl, Below.refl _ _⟩
  · obtain ⟨i0, hi, hz0, hz1, hz2⟩ := info_parts Tryz.info5
    have hlen : s.data.toList.length = s.size := (Lib.size_eq s).symm
    -- the new row
    obtain ⟨C0, hC0⟩ : ∃ C0, C0 = madeCells (Value.int .u8 0).cells (((s.size : Nat) : Int).toNat * i0.size) := ⟨_, rfl⟩
    have hC0s : C0.size = s.size := by rw [hC0, size_madeCells, hz1]; simp
    have hmake : ∀ W : World, (Instr.makeSlice 101 (.int .i64 (s.size : Int)) (.int .i64 (s.size : Int))).run Tryz.prog W = .ok (.slice (some ⟨W.heap.size, 0, none⟩) s.size s.size) (W.alloc (.cells C0 5)) := by
      intro W
      have := run_make (P := Tryz.prog) W 101 5 i0 (.int .u8 0) Tryz.underlying101 hi hz0 .i64 .i64 (s.size : Int) (s.size : Int) (by omega) (by omega) (by rw [hz2]; omega) (by omega)
      rw [← hC0] at this
      simpa using this
    -- the bytes, copied into it
    have hcopy := Lib.run_copy_row_string (P := Tryz.prog) (w.alloc (.cells C0 5)) 101 9 3 5 w.heap.size 0 s.size s.size s C0 5 Tryz.underlying101 (by rw [hi]; simp [hz1]) (heap_alloc_new w _) (Nat.le_refl _) (by omega)
    obtain ⟨C1, hC1⟩ : ∃ C1, C1 = (C0.toList.take 0 ++ Lib.byteCells s.data.toList ++ C0.toList.drop (0 + s.size)).toArray := ⟨_, rfl⟩
    rw [← hC1] at hcopy
    have hC1l : C1.toList = Lib.byteCells s.data.toList := by
      rw [hC1]
      simp [List.drop_eq_nil_of_le (show C0.toList.length ≤ s.size by rw [Array.length_toList]; omega)]
    have hC1s : C1.size = s.size := by rw [← Array.length_toList, hC1l, Lib.byteCells_length, hlen]
    have hrow : ((w.alloc (.cells C0 5)).setRow w.heap.size C1).heap[w.heap.size]? = some (.cells C1 5 (0, 0)) := setRow_heap _ _ C0 _ 5 (0, 0) (heap_alloc_new w _)
    -- the row as a string
    have hstr := Lib.run_unsafeString_row (P := Tryz.prog) ((w.alloc (.cells C0 5)).setRow w.heap.size C1) 188 3 9 5 Tryz.underlying188 Tryz.cells5 w.heap.size C1.size (by unfold World.shape?; rw [hrow]) s.data.toList (by intro e; rw [e] at hlen; simp at hlen; omega) (by omega) (by omega)
      (fun j x hx => Lib.cells_of_row hrow C1.size j _ (by rw [List.take_of_length_le (by rw [Array.length_toList]; omega), hC1l]; simp [Lib.byteCells, hx]))
    rw [hlen] at hstr
    clear hC0 hC1 hlen
    go_enter Tryz.func95, Tryz.ntmps95
    go_wp2
    go_ret
    refine ⟨rfl, Lib.below_freeze (((Below.refl _ w).alloc (Nat.le_refl _) (.cells C0 5)).trans ?_) (p := ⟨w.heap.size, 0, none⟩) (Nat.le_refl _) _⟩
    exact ⟨rfl, rfl, rfl, by simp, fun k hk => setRow_other _ _ _ _ (by omega)⟩

theorem sclone_any (s : ByteArray) (hlim : s.size ≤ 281474976710656) (w : World) :
    Calls Tryz.prog 53 #[.string s] w fun e w' => e = .returned (.string s) ∧ Below w.heap.size w w' := by
  have q := fclone_any s hlim
  go_enter Tryz.func53, Tryz.ntmps53
  go_wp2_with (go_at_call 95; refine (q _).mono ?_; rintro e w1 ⟨rfl, b1⟩)
  go_ret
  exact ⟨rfl, b1⟩

set_option maxHeartbeats 800000 in
set_option maxRecDepth 100000 in
theorem wrap_any (s : ByteArray) (w : World) (hT : Tab w) :
    Calls Tryz.prog 116 #[.string s] w fun e w' => e = .returned (.tuple #[.string (wrapOf s).1, .int .i64 (wrapOf s).2]) ∧ Below w.heap.size w w' := by
  by_cases hb : 524288 < s.size
  · have e : wrapOf s = (⟨#[]⟩, 1) := by unfold wrapOf; rw [if_pos hb]
    rw [e]
    have hb' : (524288 : Int) < (s.size : Int) := by omega
    go_enter Tryz.func116, Tryz.ntmps116
    go_wp2
    go_ret2
    exact ⟨rfl, Below.refl _ _⟩
  · have hl := Lib.size_eq s
    have e : wrapOf s = (⟨(frameOf s.data.toList).toArray⟩, 0) := by unfold wrapOf; rw [if_neg hb]
    rw [e]
    have hb' : (s.size : Int) ≤ 524288 := by omega
    have q1 := numberText_any s.size (by omega)
    obtain ⟨A, hA⟩ : ∃ A : ByteArray, A = ⟨(four s.size).toArray⟩ := ⟨_, rfl⟩
    obtain ⟨c, hc⟩ : ∃ c, c = crc (four s.size ++ s.data.toList) := ⟨_, rfl⟩
    obtain ⟨C, hC⟩ : ∃ C : ByteArray, C = ⟨(four c).toArray⟩ := ⟨_, rfl⟩
    obtain ⟨D, hD⟩ : ∃ D : ByteArray, D = ⟨(four s.size ++ four c).toArray⟩ := ⟨_, rfl⟩
    obtain ⟨F, hF⟩ : ∃ F : ByteArray, F = ⟨(frameOf s.data.toList).toArray⟩ := ⟨_, rfl⟩
    have a2 : A ++ C = D := by rw [hA, hC, hD, append_lists]
    have a3 : D ++ s = F := by rw [hD, hF, append_text]; unfold frameOf; rw [← hl, ← hc, List.append_assoc]
    have z1 : A.size = 4 := by rw [hA, size_list, four_len]
    have z2 : C.size = 4 := by rw [hC, size_list, four_len]
    have z3 : D.size = 8 := by rw [hD, size_list, List.length_append, four_len, four_len]
    have s2 : A.size + C.size ≤ 9223372036854775807 := by omega
    have s3 : D.size + s.size ≤ 9223372036854775807 := by omega
    have q2 := sumOfBoth_any A s (by omega) (by omega)
    have q3 := numberText_any c (by rw [hc]; exact crc_lt _)
    rw [← hA] at q1
    rw [← hC] at q3
    have e2 : crc (A.data.toList ++ s.data.toList) = c := by rw [hA, hc]
    rw [e2] at q2
    rw [← hF]
    clear hA hc hC hD hF z1 z2 z3 e e2 hl
    go_enter Tryz.func116, Tryz.ntmps116
    go_wp2_with (first
      | (go_at_call 157; have d2 := d1; refine (q3 _).mono ?_; rintro e w2 ⟨rfl, b2⟩)
      | (go_at_call 158; refine (q2 _ (by exact hT.below b1)).mono ?_; rintro e w' ⟨rfl, rfl⟩; have d1 : True := trivial)
      | (go_at_call 157; refine (q1 _).mono ?_; rintro e w1 ⟨rfl, b1⟩))
    go_ret2
    exact ⟨rfl, b1.trans (b2.mono b1.size)⟩

end Go.Proofs.YtodnnhidljfilaaGreatDoor
/-
  The contracts of package frame's First and All as they landed: they answer as the document's plain functions. The conditions: the table of 16 numbers holds what its initialiser lays ('Tab'), and sizes.
-/
namespace Go.Proofs.YtodnnhidljfilaaGreatDoor
open Go.RowKit

theorem Tab.drewN {w : World} (h : Tab w) (m : Nat) : Tab (w.drewN m) := h.below (below_drewN (Below.refl _ _) m)

set_option maxHeartbeats 800000 in
set_option maxRecDepth 100000 in
theorem first_any (s : ByteArray) (hs : s.size ≤ 1099511627776) (w : World) (hT : Tab w) :
    Calls Tryz.prog 147 #[.string s] w fun e w' => e = .returned (.tuple #[.string (firstT s).1, .int .i64 (firstT s).2.1, .int .i64 (firstT s).2.2]) ∧ Below w.heap.size w w' := by
  have hl := Lib.size_eq s
  unfold firstT firstOf
  rw [← hl]
  by_cases h8 : s.size < 8
  · rw [if_pos h8]
    have h8' : (s.size : Int) < 8 := by omega
    clear hl
    go_enter Tryz.func147, Tryz.ntmps147
    go_wp2
    go_ret3
    exact ⟨rfl, Below.refl _ _⟩
  · rw [if_neg h8]
    have h8' : (8 : Int) ≤ (s.size : Int) := by omega
    have d4 : (s.extract 0 4).data.toList = s.data.toList.take 4 := by rw [Lib.extract_data]; simp
    have d5 : (s.extract 4 8).data.toList = (s.data.toList.drop 4).take 4 := Lib.extract_data s 4 8
    have d8 : (s.extract 8 s.size).data.toList = s.data.toList.drop 8 := Lib.extract_to_end s 8
    obtain ⟨X4, he4⟩ : ∃ X4, s.extract 0 4 = X4 := ⟨_, rfl⟩
    obtain ⟨X5, he5⟩ : ∃ X5, s.extract 4 8 = X5 := ⟨_, rfl⟩
    obtain ⟨X8, he8⟩ : ∃ X8, s.extract 8 s.size = X8 := ⟨_, rfl⟩
    rw [he4] at d4
    rw [he5] at d5
    rw [he8] at d8
    have z4 : 4 ≤ X4.size := by rw [Lib.size_eq, d4]; simp; omega
    have z4' : X4.size ≤ 4 := by rw [Lib.size_eq, d4]; simp; omega
    have z5 : 4 ≤ X5.size := by rw [Lib.size_eq, d5]; simp; omega
    have z8 : X8.size + 8 = s.size := by rw [Lib.size_eq, d8, List.length_drop, ← hl]; omega
    have q1 := fnumber_any X4 z4
    have x1 : num4 X4.data.toList = num4 s.data.toList := by rw [d4]; unfold num4; simp
    rw [x1] at q1
    obtain ⟨n, hn⟩ : ∃ n, n = num4 s.data.toList := ⟨_, rfl⟩
    have hnl := num4_lt s.data.toList
    rw [← hn] at q1 hnl ⊢
    by_cases hbig : 524288 < n
    · rw [if_pos hbig]
      have hbig' : (524288 : Int) < (n : Int) := by omega
      clear hn hl d4 d5 d8 x1
      go_enter Tryz.func147, Tryz.ntmps147
      go_wp2
      go_quiet (fail)
      go_wp2_with (go_at_call 182; refine (q1 _).mono ?_; rintro e w' ⟨rfl, rfl⟩)
      go_ret3
      exact ⟨rfl, below_drewN (Below.refl _ _) _⟩
    · rw [if_neg hbig]
      have hbig' : (n : Int) ≤ 524288 := by omega
      by_cases hend : s.size - 8 < n
      · rw [if_pos hend]
        have hend' : (X8.size : Int) < (n : Int) := by omega
        clear hn hl d4 d5 d8 x1
        go_enter Tryz.func147, Tryz.ntmps147
        go_wp2
        go_quiet (fail)
        go_wp2_with (go_at_call 182; refine (q1 _).mono ?_; rintro e w' ⟨rfl, rfl⟩)
        go_ret3
        exact ⟨rfl, below_drewN (Below.refl _ _) _⟩
      · rw [if_neg hend]
        have hend' : (n : Int) ≤ (X8.size : Int) := by omega
        have dt : (X8.extract 0 n).data.toList = (s.data.toList.drop 8).take n := by rw [Lib.extract_data, d8]; simp
        obtain ⟨X, heX⟩ : ∃ X, X8.extract 0 n = X := ⟨_, rfl⟩
        rw [heX] at dt
        have zX : X.size ≤ n := by rw [Lib.size_eq, dt, List.length_take]; omega
        have q2 := fnumber_any X5 z5
        have x2 : num4 X5.data.toList = num4 (s.data.toList.drop 4) := by rw [d5]; unfold num4; simp
        have q3 := sumOfBoth_any X4 X (by omega) (by omega)
        have q4 := sclone_any X (by omega)
        rw [x2] at q2
        rw [d4, dt] at q3
        have X1 : Hid (X = ⟨((s.data.toList.drop 8).take n).toArray⟩) := by
          show X = _
          rw [← dt, Lib.mk_data]
        obtain ⟨c, hc⟩ : ∃ c, c = crc (s.data.toList.take 4 ++ (s.data.toList.drop 8).take n) := ⟨_, rfl⟩
        obtain ⟨m, hm⟩ : ∃ m, m = num4 (s.data.toList.drop 4) := ⟨_, rfl⟩
        rw [← hc] at q3 ⊢
        rw [← hm] at q2 ⊢
        clear hn hl d4 d5 d8 x1 x2 dt hc hm
        by_cases hcm : c = m
        · have hcm' : ((m : Int) != (c : Int)) = false := by simp; omega
          rw [if_neg (by simpa using hcm)]
          clear hcm
          go_enter Tryz.func147, Tryz.ntmps147
          go_wp2
          go_quiet (fail)
          go_wp2_with (first
            | (go_at_call 53; refine (q4 _).mono ?_; rintro e w4 ⟨rfl, b4⟩)
            | (go_at_call 158; refine (q3 _ (by exact hT.drewN _)).mono ?_; rintro e w' ⟨rfl, rfl⟩)
            | (go_at_call 182; have d2 := d1; refine (q2 _).mono ?_; rintro e w' ⟨rfl, rfl⟩)
            | (go_at_call 182; refine (q1 _).mono ?_; rintro e w' ⟨rfl, rfl⟩; have d1 : True := trivial))
          go_ret3
          rw [← X1.out]
          exact ⟨rfl, (below_drewN (Below.refl _ w) _).trans b4⟩
        · have hcm' : ((m : Int) != (c : Int)) = true := by simp; omega
          rw [if_pos hcm]
          clear hcm
          go_enter Tryz.func147, Tryz.ntmps147
          go_wp2
          go_quiet (fail)
          go_wp2_with (first
            | (go_at_call 158; refine (q3 _ (by exact hT.drewN _)).mono ?_; rintro e w' ⟨rfl, rfl⟩)
            | (go_at_call 182; have d2 := d1; refine (q2 _).mono ?_; rintro e w' ⟨rfl, rfl⟩)
            | (go_at_call 182; refine (q1 _).mono ?_; rintro e w' ⟨rfl, rfl⟩; have d1 : True := trivial))
          go_ret3
          exact ⟨rfl, below_drewN (Below.refl _ w) _⟩

end Go.Proofs.YtodnnhidljfilaaGreatDoor
