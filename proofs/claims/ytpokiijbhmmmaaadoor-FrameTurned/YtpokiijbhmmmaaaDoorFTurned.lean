/-
  FrameTurned, for every text and every place: a frame of whose text one bit is turned is none; the call answers true. From what package frame answers ('FrameOk'); no other condition.
-/
import Derived.Test.YtpokiijbhmmmaaaDoorFAwake
namespace Go.Proofs.YtpokiijbhmmmaaaDoor.frameTurned
open Go.RowKit

/-- A frame of whose text one byte is another: its sum is another one. -/
theorem turned {t : List UInt8} {q : Nat} {x : UInt8} (hq : q < t.length) (ht : t.length ≤ 524288) (hx : t[q] ≠ x) : (firstOf ((frameOf t).set (8 + q) x)).2.2 = 3 := by
  have e : (frameOf t).set (8 + q) x = four t.length ++ (four (crc (four t.length ++ t)) ++ t.set q x) := by
    unfold frameOf
    rw [List.set_append_right _ _ (by rw [four_len]; omega), List.set_append_right _ _ (by rw [four_len, four_len]; omega), four_len, four_len, show 8 + q - 4 - 4 = q by omega]
  have hl : ((frameOf t).set (8 + q) x).length = t.length + 8 := by rw [List.length_set, frameOf_len]
  have hn : num4 ((frameOf t).set (8 + q) x) = t.length := by rw [e]; exact num4_four (by omega) _
  have h8 : ((frameOf t).set (8 + q) x).drop 8 = t.set q x := by
    rw [e]
    unfold four
    simp
  have h4 : num4 (((frameOf t).set (8 + q) x).drop 4) = crc (four t.length ++ t) := by
    rw [e, List.drop_left' (four_len _)]
    exact num4_four (crc_lt _) _
  have ht4 : ((frameOf t).set (8 + q) x).take 4 = four t.length := by rw [e, List.take_left' (four_len _)]
  have hcut : t = t.take q ++ t[q] :: t.drop (q + 1) := by
    rw [← List.drop_eq_getElem_cons hq, List.take_append_drop]
  have hset : t.set q x = t.take q ++ x :: t.drop (q + 1) := by rw [List.set_eq_take_append_cons_drop, if_pos hq]
  have hne : crc (four t.length ++ t.set q x) ≠ crc (four t.length ++ t) := by
    rw [hset]
    conv => rhs; rw [hcut]
    rw [← List.append_assoc, ← List.append_assoc]
    have hlen : (t.take q ++ t[q] :: t.drop (q + 1)).length = t.length := by rw [← hcut]
    rw [hlen]
    exact crc_parts _ _ (fun h => hx h.symm)
  unfold firstOf
  rw [hl, hn, h8, h4, ht4, List.take_of_length_le (by rw [List.length_set]; exact Nat.le_refl _), if_neg (by omega), if_neg (by omega), if_neg (by omega), if_pos hne]

theorem frame_at (t : List UInt8) (q : Nat) : (frameOf t)[8 + q]? = t[q]? := by
  unfold frameOf
  rw [List.getElem?_append_right (by rw [four_len]; omega), List.getElem?_append_right (by rw [four_len, four_len]; omega), four_len, four_len, show 8 + q - 4 - 4 = q by omega]

theorem bytesRow_list (f : ByteArray) (cap : Nat) : (bytesRow f cap).toList = Lib.byteCells f.data.toList ++ List.replicate (cap - f.size) (.int .u8 0) := by
  simp [bytesRow, Lib.byteCells]

theorem xor_ne {c y : Nat} (h : y ≠ 0) : c ^^^ y ≠ c := by
  intro e
  have := congrArg (c ^^^ ·) e
  simp only [← Nat.xor_assoc, Nat.xor_self, Nat.zero_xor] at this
  exact h this

set_option maxHeartbeats 800000 in
set_option maxRecDepth 100000 in
theorem walk (hF : FrameOk) (s : ByteArray) (bit : Int) (_hb1 : -9223372036854775808 ≤ bit) (_hb2 : bit ≤ 9223372036854775807) (hs : s.size ≤ 9223372036854775807) (w : World) (t0 : Tab w) :
    Calls Tryd.prog 6 #[.string s, .int .i64 bit] w fun e w' => e = .returned (.bool true) ∧ Below w.heap.size w w' := by
  have qa := awake_any hF
  by_cases h0 : s.size = 0
  · have h0' : ((s.size : Int) == 0) = true := by simp [h0]
    clear h0
    go_enter Tryd.func6, Tryd.ntmps6
    go_wp2_with (go_at_call 7; refine (qa _ (by exact t0)).mono ?_; rintro e w1 ⟨rfl, b1⟩)
    go_ret
    exact ⟨rfl, b1⟩
  · have h0' : ((s.size : Int) == 0) = false := by rw [beq_eq_false_iff_ne]; omega
    by_cases hbig : 10000 < s.size
    · have hb' : (10000 : Int) < (s.size : Int) := by omega
      go_enter Tryd.func6, Tryd.ntmps6
      go_wp2_with (go_at_call 7; refine (qa _ (by exact t0)).mono ?_; rintro e w1 ⟨rfl, b1⟩)
      go_ret
      exact ⟨rfl, b1⟩
    · have hb' : (s.size : Int) ≤ 10000 := by omega
      have q1 := fun w (hT : Tab w) => hF.wrap s w (by omega) hT
      have ew : wrapOf s = (⟨(frameOf s.data.toList).toArray⟩, 0) := by unfold wrapOf; rw [if_neg (by omega)]
      rw [ew] at q1
      obtain ⟨f, hf⟩ : ∃ f : ByteArray, f = ⟨(frameOf s.data.toList).toArray⟩ := ⟨_, rfl⟩
      have hfs : f.size = s.size + 8 := by rw [hf, size_list, frameOf_len, ← Lib.size_eq]
      rw [← hf] at q1
      have q1' : ∀ w, Tab w → Calls Tryd.prog 8 #[.string s] w fun e w' => e = .returned (.tuple #[.string f, .int .i64 0]) ∧ Below w.heap.size w w' := q1
      have HF' : Hid (f = ⟨(frameOf s.data.toList).toArray⟩) := hf
      clear q1 ew hf
      obtain ⟨M, hM⟩ : ∃ M, bit.tmod (8 * (s.size : Int)) = M := ⟨_, rfl⟩
      have hMb : -(8 * (s.size : Int)) < M ∧ M < 8 * (s.size : Int) := by
        rw [← hM]
        exact ⟨Int.lt_tmod_of_pos bit (by omega), Int.tmod_lt_of_pos bit (by omega)⟩
      obtain ⟨hM1, hM2⟩ := hMb
      obtain ⟨P, hP⟩ : ∃ P : Nat, (M + 8 * (s.size : Int)) % (8 * (s.size : Int)) = (P : Int) := ⟨((M + 8 * (s.size : Int)) % (8 * (s.size : Int))).toNat, by have := Int.emod_nonneg (M + 8 * (s.size : Int)) (b := 8 * (s.size : Int)) (by omega); omega⟩
      have hPl : P < 8 * s.size := by have := Int.emod_lt_of_pos (M + 8 * (s.size : Int)) (b := 8 * (s.size : Int)) (by omega); omega
      have hi : 8 + P / 8 < f.size := by omega
      obtain ⟨c, hc⟩ : ∃ c, f[8 + P / 8].toNat = c := ⟨_, rfl⟩
      have hc256 : c < 256 := by rw [← hc]; exact byte_lt _
      have hcv := fun W => run_bytes_of_string (P := Tryd.prog) W 9 40 5 f Tryd.underlying9 Tryd.underlying40 Tryd.underlying5
      have hrow : ∀ (W : World) (cap : Nat), (W.alloc (.cells (bytesRow f cap) 5 ((bytesRow f cap).size, (bytesRow f cap).size + 1))).heap[W.heap.size]? = some (.cells (bytesRow f cap) 5 ((bytesRow f cap).size, (bytesRow f cap).size + 1)) := fun W cap => heap_alloc_new W _
      have hsize : ∀ cap, f.size ≤ (bytesRow f cap).size := fun cap => by
        rw [← Array.length_toList, bytesRow_list, List.length_append, Lib.byteCells_length, ← Lib.size_eq]
        omega
      have hfst : ∀ (W : World) cap, (W.alloc (.cells (bytesRow f cap) 5 ((bytesRow f cap).size, (bytesRow f cap).size + 1))).cell? ⟨W.heap.size, 8 + P / 8, none⟩ = some (.int .u8 c) := fun W cap => by
        have hcell := Lib.cells_of_row (hrow W cap) f.size (8 + P / 8) (.int .u8 c) (by
          rw [bytesRow_list, List.take_left' (by rw [Lib.byteCells_length, ← Lib.size_eq])]
          simp only [Lib.byteCells, List.getElem?_map, Lib.data_getElem? f _ hi, Option.map_some, hc])
        rw [Lib.addr_add, Nat.zero_add] at hcell
        exact hcell
      have hfz : ∀ (W : World) cap, (W.alloc (.cells (bytesRow f cap) 5 ((bytesRow f cap).size, (bytesRow f cap).size + 1))).frozen? ⟨W.heap.size, 8 + P / 8, none⟩ = false := fun W cap => by
        have := hsize cap
        unfold World.frozen?
        rw [hrow W cap]
        simp
        omega
      obtain ⟨d, hd⟩ : ∃ d, d = c ^^^ 2 ^ (P % 8) := ⟨_, rfl⟩
      have hpow : 2 ^ (P % 8) ≤ 128 := Nat.pow_le_pow_right (n := 2) (by omega) (show P % 8 ≤ 7 by omega)
      have hpos : 2 ^ (P % 8) ≠ 0 := by have := Nat.two_pow_pos (P % 8); omega
      have hd256 : d < 256 := by rw [hd]; exact Nat.xor_lt_two_pow (n := 8) (by omega) (by omega)
      have hdc : d ≠ c := by rw [hd]; exact xor_ne hpos
      have hx : bits .xor .u8 (c : Int) (2 ^ (P % 8) % 256) = (d : Int) := by
        have := u8_xor_nat c (2 ^ (P % 8)) hc256 (by omega)
        rw [← hd] at this
        rw [← this]
        have e : (2 : Int) ^ (P % 8) = ((2 ^ (P % 8) : Nat) : Int) := by simp
        rw [e]
        congr 1
        generalize 2 ^ (P % 8) = Y at hpow hpos
        omega
      obtain ⟨g, hg⟩ : ∃ g, g = f.data.toList.set (8 + P / 8) (UInt8.ofNat d) := ⟨_, rfl⟩
      have hgl : g.length = s.size + 8 := by rw [hg, List.length_set, ← Lib.size_eq, hfs]
      have hback : ∀ (W : World) (cap : Nat), (convert 40 9 (.slice (some ⟨W.heap.size, 0, none⟩) (s.size + 8) cap)).run Tryd.prog
          ((W.alloc (.cells (bytesRow f cap) 5 ((bytesRow f cap).size, (bytesRow f cap).size + 1))).setCell ⟨W.heap.size, 8 + P / 8, none⟩ (.int .u8 (d : Int))).drew = .ok (.string ⟨g.toArray⟩)
          ((W.alloc (.cells (bytesRow f cap) 5 ((bytesRow f cap).size, (bytesRow f cap).size + 1))).setCell ⟨W.heap.size, 8 + P / 8, none⟩ (.int .u8 (d : Int))).drew := fun W cap => by
        rw [← hgl]
        refine run_convert_bytes_back _ 40 9 5 ⟨W.heap.size, 0, none⟩ cap g Tryd.underlying40 Tryd.underlying5 Tryd.underlying9 ?_
        have hrow2 : (((W.alloc (.cells (bytesRow f cap) 5 ((bytesRow f cap).size, (bytesRow f cap).size + 1))).setCell ⟨W.heap.size, 8 + P / 8, none⟩ (.int .u8 (d : Int))).drew).heap[W.heap.size]? = some (.cells ((bytesRow f cap).setIfInBounds (8 + P / 8) (.int .u8 (d : Int))) 5 ((bytesRow f cap).size, (bytesRow f cap).size + 1)) :=
          Lib.heap_setCell_same (i := 8 + P / 8) (hrow W cap) (.int .u8 (d : Int))
        refine Lib.bytes_of_row hrow2 ?_
        have hfl : f.data.toList.length = f.size := (Lib.size_eq f).symm
        rw [Array.toList_setIfInBounds, bytesRow_list, List.set_append_left _ _ (by rw [Lib.byteCells_length, hfl]; exact hi), List.take_left' (by rw [List.length_set, Lib.byteCells_length, hgl, hfl, hfs]), hg]
        simp only [Lib.byteCells, List.map_set]
        rw [ofNat_toNat hd256]
      have hq : P / 8 < s.data.toList.length := by rw [← Lib.size_eq]; omega
      have hfirst : (firstOf g).2.2 = 3 := by
        rw [hg, HF'.out]
        refine turned hq (by rw [← Lib.size_eq]; omega) ?_
        intro he
        have h1 := Lib.data_getElem? f (8 + P / 8) hi
        have h2 : f.data.toList = frameOf s.data.toList := by rw [HF'.out]
        rw [h2, frame_at, List.getElem?_eq_getElem hq, he] at h1
        have h3 := congrArg UInt8.toNat (Option.some.inj h1)
        rw [ofNat_toNat hd256, hc] at h3
        exact hdc h3
      have q2 : ∀ w, Tab w → Calls Tryd.prog 12 #[.string ⟨g.toArray⟩] w fun e w' => ∃ (t : ByteArray) (n : Nat), e = .returned (.tuple #[.string t, .int .i64 n, .int .i64 3]) ∧ Below w.heap.size w w' := fun w hT =>
        (hF.first ⟨g.toArray⟩ w (by rw [size_list]; omega) hT).mono fun e w' ⟨he, hb⟩ => ⟨(firstT ⟨g.toArray⟩).1, (firstT ⟨g.toArray⟩).2.1, by rw [he, show (firstT ⟨g.toArray⟩).2.2 = 3 from hfirst]; rfl, hb⟩
      clear hF hd hpow hpos hrow hsize hg hgl hq hfirst HF' hdc hd256
      go_enter Tryd.func6, Tryd.ntmps6
      go_wp2_with (first
        | (go_at_call 7; refine (qa _ (by exact t2)).mono ?_; rintro e w3 ⟨rfl, b3⟩)
        | (go_at_call 12; refine (q2 _ (by exact t0.below (((b1.alloc b1.size _).setCell (p := ⟨w1.heap.size, 8 + P / 8, none⟩) b1.size _).drew))).mono ?_; rintro e w2 ⟨t2', n2, rfl, b2⟩; have t2 := Tab.below (by exact t0.below (((b1.alloc b1.size _).setCell (p := ⟨w1.heap.size, 8 + P / 8, none⟩) b1.size _).drew)) b2)
        | (go_at_call 8; refine (q1' _ (by exact t0)).mono ?_; rintro e w1 ⟨rfl, b1⟩))
      go_ret
      have b2' := bm (w1 := ((w1.alloc (.cells (bytesRow f (grownCap w1 (s.size + 8) 0 5)) 5 ((bytesRow f (grownCap w1 (s.size + 8) 0 5)).size, (bytesRow f (grownCap w1 (s.size + 8) 0 5)).size + 1))).setCell ⟨w1.heap.size, 8 + P / 8, none⟩ (.int .u8 (d : Int))).drew)
        (((b1.alloc b1.size _).setCell (p := ⟨w1.heap.size, 8 + P / 8, none⟩) b1.size _).drew) b2
      exact ⟨rfl, bm b2' b3⟩
end Go.Proofs.YtpokiijbhmmmaaaDoor.frameTurned
