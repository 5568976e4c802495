/-
  Parts of the proof, laid together: PxReplA, PxReplB, PxReplC, PxReplD, PxReplE, PxReplF, PxReplG. The conditions stand at each part.
-/
import Derived.Lib.AppendZerosOnto
import Derived.Lib.Overlaps
import Derived.Test.YtmlgoecdefeapaaPPack5
import Derived.Test.YtmlgoecdefeapaaPPxWith
/-
  Package slices at rows of slots: ahead of Replace: appends and copies of rows under two names of one type, reslicings, an empty copy, an empty clear. No condition.
-/
namespace Go.Proofs.Ytmlgoecdefeapaa
open Go.RowKit

section
variable {P : Program} {w : World}
/-- An append asks of its second type only whether it is a number. -/
theorem app_types {t x e e2 : TypeId} {i : TypeInfo} (ht : P.underlying t = some (.slice e)) (hx : P.underlying x = some (.slice e2)) (hi : P.info? e = some i) (ty : TypeId) (a : Option Addr) (n c : Nat) (u : Value) : (Builtin.append_ #[t, x] ty #[.slice a n c, u]).run P w = (Builtin.append_ #[t, t] ty #[.slice a n c, u]).run P w := by
  simp [Builtin.append_, run_underlying ht, run_underlying hx, sizeOf, typeInfo, hi]
theorem copy_none {dT sT e : TypeId} {i : TypeInfo} (ht : P.underlying dT = some (.slice e)) (hi : P.info? e = some i) (ty : TypeId) (a : Option Addr) (n c : Nat) : (Builtin.copy_ #[dT, sT] ty #[.slice a n c, .slice none 0 0]).run P w = .ok (goInt 0) w := by
  cases a <;> simp [Builtin.copy_, run_underlying ht, Builtin.lenOf, sizeOf, typeInfo, hi, Builtin.firstCells, storeCells]
theorem clear_none {t e : TypeId} (ht : P.underlying t = some (.slice e)) (ty : TypeId) (a : Option Addr) (c : Nat) : (Builtin.clear_ #[t] ty #[.slice a 0 c]).run P w = .ok (.tuple #[]) w := by
  cases a <;> simp [Builtin.clear_, run_underlying ht]
end
theorem cell_of {y y' : World} {b o : Nat} {u : Value} (h : y.cell? ⟨b, o, none⟩ = some u) (hk : y'.heap[b]? = y.heap[b]?) : y'.cell? ⟨b, o, none⟩ = some u := by
  simp only [World.cell?] at h ⊢
  rw [hk]
  exact h
/-- A row of rows from a place on, up to a place. -/
theorem ro_from (g n c i : Nat) (hi : i ≤ n) (hc : i < c) (w' : World) : (Instr.sliceAt 61 (.slice (some ⟨g, 0, none⟩) n c) (some (.int .i64 (i : Int))) none none).run Try.prog w' = .ok (.slice (some ⟨g, i * 2, none⟩) (n - i) (c - i)) w' := by
  have he : Try.prog.elem 61 = 59 := by kernel_rfl
  have hu : Try.prog.underlying 61 = some (.slice (Try.prog.elem 61)) := by rw [he]; exact Try.underlying61
  rw [run_sliceAt_slice _ _ _ _ _ _ hu, run_slice_l _ _ _ _ _ hu _ _ (by omega) (by omega), he]
  have hsz : (sizeOf 59).run Try.prog w' = .ok 2 w' := Try.sizeOf59 w'
  rw [hsz]
  have hne : ¬ c = i := by omega
  simp [Result.andThen_ok, sliced, hne, Addr.add_lit]
theorem ro_rest (g n c : Nat) (hn : n ≤ c) (h0 : 0 < n) : ∃ ad : Addr, ∀ w' : World, (Instr.sliceAt 61 (.slice (some ⟨g, 0, none⟩) n c) (some (.int .i64 (n : Int))) none none).run Try.prog w' = .ok (.slice (some ad) 0 (c - n)) w' := by
  by_cases hc : n < c
  · exact ⟨⟨g, n * 2, none⟩, fun w' => by have := ro_from g n c n (Nat.le_refl _) hc w'; rw [Nat.sub_self] at this; exact this⟩
  · obtain rfl : c = n := by omega
    refine ⟨⟨g, 0, none⟩, fun w' => ?_⟩
    have he : Try.prog.elem 61 = 59 := by kernel_rfl
    have hu : Try.prog.underlying 61 = some (.slice (Try.prog.elem 61)) := by rw [he]; exact Try.underlying61
    rw [run_sliceAt_slice _ _ _ _ _ _ hu, run_slice_l _ _ _ _ _ hu _ _ (by omega) (by omega), he]
    have hsz : (sizeOf 59).run Try.prog w' = .ok 2 w' := Try.sizeOf59 w'
    rw [hsz]
    simp [Result.andThen_ok, sliced]
theorem ro_to (g n c i : Nat) (hc : i ≤ c) (h0 : 0 < c) (w' : World) : (Instr.sliceAt 61 (.slice (some ⟨g, 0, none⟩) n c) none (some (.int .i64 (i : Int))) none).run Try.prog w' = .ok (.slice (some ⟨g, 0, none⟩) i c) w' := by
  have he : Try.prog.elem 61 = 59 := by kernel_rfl
  have hu : Try.prog.underlying 61 = some (.slice (Try.prog.elem 61)) := by rw [he]; exact Try.underlying61
  rw [run_sliceAt_slice _ _ _ _ _ _ hu, run_slice_h _ _ _ _ _ hu _ _ (by omega) (by omega), he]
  have hsz : (sizeOf 59).run Try.prog w' = .ok 2 w' := Try.sizeOf59 w'
  rw [hsz]
  have hne : ¬ c = 0 := by omega
  simp [Result.andThen_ok, sliced, hne, Addr.add_lit]
theorem ro_mid (g n c i m : Nat) (him : i < m) (hm : m ≤ c) (w' : World) : (Instr.sliceAt 61 (.slice (some ⟨g, 0, none⟩) n c) (some (.int .i64 (i : Int))) (some (.int .i64 (m : Int))) none).run Try.prog w' = .ok (.slice (some ⟨g, i * 2, none⟩) (m - i) (c - i)) w' := by
  have he : Try.prog.elem 61 = 59 := by kernel_rfl
  have hu : Try.prog.underlying 61 = some (.slice (Try.prog.elem 61)) := by rw [he]; exact Try.underlying61
  rw [run_sliceAt_slice _ _ _ _ _ _ hu, run_slice_lh _ _ _ _ _ hu _ _ _ _ (by omega) (by omega) (by omega), he]
  have hsz : (sizeOf 59).run Try.prog w' = .ok 2 w' := Try.sizeOf59 w'
  rw [hsz]
  have hne : ¬ c = i := by omega
  simp [Result.andThen_ok, sliced, hne, Addr.add_lit]
abbrev zeroRo : Value := .agg #[.int .i64 0, .int .i64 0]
theorem zeroRo_one (n : Nat) : ∀ u ∈ (Builtin.zeroCells zeroRo.cells n).toList, u.oneCell' = true := by
  intro u hu
  simp only [Builtin.zeroCells, Value.cells] at hu
  simp only [List.mem_map, Array.toList_map, Array.toList_range] at hu
  obtain ⟨i, _, rfl⟩ := hu
  have h2 : i % 2 < 2 := Nat.mod_lt _ (by decide)
  show ((#[.int .i64 0, .int .i64 0] : Array Value)[i % 2]!).oneCell' = true
  generalize i % 2 = r at h2
  match r, h2 with
  | 0, _ | 1, _ => rfl
/-- A row put in the place of another one, as cells. -/
theorem rowL_repl (l left : List (Int × Int)) (k : Nat) (hk : k < l.length) : rowL roC (l.take k ++ (left ++ l.drop (k + 1))) = (rowL roC l).take (k * 2) ++ (rowL roC left ++ (rowL roC l).drop ((k + 1) * 2)) := by
  rw [rowL_append, rowL_append, rowL_drop roC_len]
  congr 1
  have e : rowL roC l = rowL roC (l.take k) ++ rowL roC (l.drop k) := by rw [← rowL_append, List.take_append_drop]
  have hl : (rowL roC (l.take k)).length = k * 2 := by rw [rowL_length roC_len, List.length_take, Nat.min_eq_left (by omega)]
  rw [e, List.take_append_of_le_length (by omega)]
  exact (List.take_of_length_le (by omega)).symm
/-- What a replacement leaves. -/
theorem roPost_of {w w' : World} {base : Nat} {v v' : Value} {l : List (Int × Int)} (ho : OwnRo w' base v' l) (hg : w.grownBy w' v.ownBlock) (hl : v'.ownBlock = v.ownBlock ∨ ∃ g, v'.ownBlock = some g ∧ w.heap.size ≤ g) : RoPost w base v l (.returned v') w' := by
  refine ⟨v', rfl, ho, ⟨hg.os, hg.tape, hg.output, hg.size⟩, fun g e => ?_, fun b hb hn => hg.block b hb (fun e => hn e.symm)⟩
  rcases hl with h | ⟨g', h, h2⟩
  · exact Or.inl (by rw [← h]; exact e)
  · rw [h] at e
    have := Option.some.inj e
    exact Or.inr (by omega)
end Go.Proofs.Ytmlgoecdefeapaa
/-
  Package slices at rows of slots: the last row replaced by none, one or two. The condition: fewer than 2^29 rows.
-/
namespace Go.Proofs.Ytmlgoecdefeapaa
open Go.RowKit

theorem roAt {w : World} {base g n c : Nat} {l : List (Int × Int)} (ho : OwnRo w base (.slice (some ⟨g, 0, none⟩) n c) l) (hn : n = l.length) : ∃ cur : List Value, w.heap[g]? = some (.cells cur.toArray 59 (0, 0)) ∧ base ≤ g ∧ n ≤ c ∧ c ≤ maxLen ∧ cur.length = c * 2 ∧ cur.take (n * 2) = rowL roC l := by
  rcases ho.2 with ⟨e, _⟩ | ⟨g', cap, cur, e, h1, h2, h3, h4, h5, h6⟩
  · cases e
  · injection e with e1 e2 e3
    injection e1 with e1
    injection e1 with e1
    subst e1 e3 hn
    exact ⟨cur.toList, by rw [Array.toArray_toList]; exact h2, h1, h3, h4, by rw [Array.length_toList]; exact h5, h6⟩
theorem three_at {α : Type} (A X B : List α) (j : Nat) : (A ++ (X ++ B))[j]? = if j < A.length then A[j]? else if j < A.length + X.length then X[j - A.length]? else B[j - (A.length + X.length)]? := by
  by_cases h1 : j < A.length
  · rw [if_pos h1, List.getElem?_append_left h1]
  · rw [if_neg h1, List.getElem?_append_right (by omega)]
    by_cases h2 : j < A.length + X.length
    · rw [if_pos h2, List.getElem?_append_left (by omega)]
    · rw [if_neg h2, List.getElem?_append_right (by omega)]
      congr 1
      omega
/-- The cells of a row in whose place others were put. -/
theorem repl_row {G R X : List Value} {a b t : Nat} (hb : b ≤ R.length) (hab : a ≤ b) (ht : t = a + (X.length + (R.length - b))) (h1 : ∀ j, j < a → G[j]? = R[j]?) (h2 : ∀ j, j < X.length → G[a + j]? = X[j]?) (h3 : ∀ j, j < R.length - b → G[a + X.length + j]? = R[b + j]?) : G.take t = R.take a ++ (X ++ R.drop b) := by
  apply List.ext_getElem?
  intro j
  rw [List.getElem?_take, three_at, List.length_take, Nat.min_eq_left (by omega)]
  by_cases c1 : j < a
  · rw [if_pos (by omega), if_pos c1, h1 j c1, List.getElem?_take, if_pos c1]
  · rw [if_neg c1]
    by_cases c2 : j < a + X.length
    · rw [if_pos (by omega), if_pos c2]
      have := h2 (j - a) (by omega)
      rw [show a + (j - a) = j by omega] at this
      exact this
    · rw [if_neg c2, List.getElem?_drop]
      by_cases c3 : j < t
      · rw [if_pos c3]
        have := h3 (j - (a + X.length)) (by omega)
        rw [show a + X.length + (j - (a + X.length)) = j by omega] at this
        exact this
      · rw [if_neg c3, List.getElem?_eq_none (by omega)]
theorem take_get {G R : List Value} {m : Nat} (h : G.take m = R) {j : Nat} (hj : j < m) : G[j]? = R[j]? := by
  rw [← h, List.getElem?_take, if_pos hj]
theorem repl_len (l left : List (Int × Int)) (k : Nat) (hk : k < l.length) : (l.take k ++ (left ++ l.drop (k + 1))).length = k + (left.length + (l.length - (k + 1))) := by
  rw [List.length_append, List.length_append, List.length_take, List.length_drop, Nat.min_eq_left (by omega)]
section
variable {w : World} {base g n c k k1 : Nat} {l : List (Int × Int)}
set_option maxHeartbeats 6400000 in
set_option maxRecDepth 100000 in
/-- The last one, by nothing. -/
theorem prepl_end0 (ho : OwnRo w base (.slice (some ⟨g, 0, none⟩) n c) l) (hn : n = l.length) (hk : k + 1 = n) (hl : n ≤ 536870912) :
    Calls Try.prog 44 #[.slice (some ⟨g, 0, none⟩) n c, .int .i64 (k : Int), .int .i64 (n : Int), .slice none 0 0] w (RoPost w base (.slice (some ⟨g, 0, none⟩) n c) (l.take k ++ ([] ++ l.drop (k + 1)))) := by
  obtain ⟨M, hM⟩ : ∃ M, M = l.take k ++ ([] ++ l.drop (k + 1)) := ⟨_, rfl⟩
  obtain ⟨cur, hb, hbg, hnc, hcm, hcl, htk⟩ := roAt ho hn
  obtain ⟨i0, hi0, hz0, hzs, hzb⟩ := info_parts infoRo
  have s1 := ro_mid g n c k n (by omega) (by omega)
  have s2 := ro_to g n c k (by omega) (by omega)
  have s3 := ro_from g n c k (by omega) (by omega)
  have q1 : ((k : Int) == (n : Int)) = false := by simp; omega
  have q2 : ¬ ((k : Int) = (n : Int)) := by omega
  have q3 : decide ((k : Int) < (n : Int)) = true := decide_eq_true (by omega)
  have q3' : decide (k < n) = true := decide_eq_true (by omega)
  have q4 : k < n := by omega
  have hof : w.ownsRow base 59 2 (.slice (some ⟨g, 0, none⟩) k c) k ((rowL roC l).take (k * 2)) := by
    have ho' : w.ownsRow base 59 2 (.slice (some ⟨g, 0, none⟩) n c) n (rowL roC l) := by rw [hn] at ho ⊢; exact ho
    exact own_front ho' k (by omega)
  have hap : ∀ ty, (Builtin.append_ #[61, 60] ty #[.slice (some ⟨g, 0, none⟩) k c, .slice none 0 0]).run Try.prog w = .ok (.slice (some ⟨g, 0, none⟩) k c) w := fun ty => by
    rw [app_types Try.underlying61 Try.underlying60 hi0]
    exact run_append_owned_none (P := Try.prog) (w := w) base 61 ty 59 i0 2 Try.underlying61 hi0 _ k _ hof
  have HB : Hid _ := hb
  have HL : Hid (cur.length = c * 2 ∧ base ≤ g ∧ n ≤ c ∧ c ≤ maxLen ∧ k + 1 = n ∧ n = l.length ∧ cur.take (n * 2) = rowL roC l ∧ M = l.take k ++ ([] ++ l.drop (k + 1))) := ⟨hcl, hbg, hnc, hcm, hk, hn, htk, hM⟩
  rw [← hM]
  clear ho hb hbg hnc hcm hcl htk hof hn hk hM
  go_enter Try.func44, Try.ntmps44
  go_wp2_with (first
    | (refine wpList_clearK rfl (.tmp 43) 61 rfl 59 _ g (k * 2) (n - k) (c - k) cur 59 rfl Try.underlying61 (by rw [hi0]; simp [hz0]) (by omega) HB.out (by have := HL.out; show k * 2 + (n - k) * 2 ≤ _; omega) (zeroRo_one _) ?_; intro w3 h3 g3; have H3 : Hid _ := h3; have G3 : Hid _ := g3; clear h3 g3)
    | (at_builtin; refine Lib.wpList_append_run _ rfl _ _ _ _ rfl _ _ rfl rfl _ _ (hap _) ?_))
  go_ret
  obtain ⟨hcl, hbg, hnc, hcm, hk, hn, htk, hM⟩ := HL.out
  have zl : (Builtin.zeroCells zeroRo.cells (n - k)).toList.length = (n - k) * 2 := by simp [Builtin.zeroCells, Value.cells]
  have hlen : M.length = k := by rw [hM, repl_len l [] k (by omega)]; simp; omega
  have hR : (rowL roC l).length = n * 2 := by rw [rowL_length roC_len, hn]
  refine roPost_of ⟨rowL_length roC_len _, Or.inr ⟨g, c, _, by rw [hlen]; rfl, hbg, H3.out, by rw [hlen]; omega, hcm, by rw [List.size_toArray, splice_len _ _ _ (by rw [zl]; omega), hcl], ?_⟩⟩ G3.out (Or.inl rfl)
  rw [hlen, hM, rowL_repl l [] k (by omega)]
  refine repl_row (by omega) (by omega) (by rw [hR, show (rowL roC ([] : List (Int × Int))).length = 0 from rfl]; omega) (fun j hj => ?_) (fun j hj => by simp [rowL] at hj) (fun j hj => by omega)
  rw [splice_at _ _ _ (by rw [zl]; omega), if_pos hj]
  exact take_get htk (by omega)
set_option maxHeartbeats 6400000 in
set_option maxRecDepth 100000 in
/-- The last one, by some. -/
theorem prepl_end (ho : OwnRo w base (.slice (some ⟨g, 0, none⟩) n c) l) (hb0 : base ≤ w.heap.size) (hn : n = l.length) (hk : k + 1 = n) (hl : n ≤ 536870912) {left : List (Int × Int)} {ad : Addr} {d lc : Nat} (hd : d = left.length) (hd1 : 1 ≤ d) (hd2 : d ≤ 2) (hx : ∀ j u, (rowL roC left)[j]? = some u → w.cell? (ad.add j) = some u) :
    Calls Try.prog 44 #[.slice (some ⟨g, 0, none⟩) n c, .int .i64 (k : Int), .int .i64 (n : Int), .slice (some ad) d lc] w (RoPost w base (.slice (some ⟨g, 0, none⟩) n c) (l.take k ++ (left ++ l.drop (k + 1)))) := by
  obtain ⟨M, hM⟩ : ∃ M, M = l.take k ++ (left ++ l.drop (k + 1)) := ⟨_, rfl⟩
  obtain ⟨cur, hb, hbg, hnc, hcm, hcl, htk⟩ := roAt ho hn
  obtain ⟨i0, hi0, hz0, hzs, hzb⟩ := info_parts infoRo
  have s1 := ro_mid g n c k n (by omega) (by omega)
  have s2 := ro_to g n c k (by omega) (by omega)
  have q1 : ((k : Int) == (n : Int)) = false := by simp; omega
  have q2 : ¬ ((k : Int) = (n : Int)) := by omega
  have hof : w.ownsRow base 59 2 (.slice (some ⟨g, 0, none⟩) k c) k ((rowL roC l).take (k * 2)) := by
    have ho' : w.ownsRow base 59 2 (.slice (some ⟨g, 0, none⟩) n c) n (rowL roC l) := by rw [hn] at ho ⊢; exact ho
    exact own_front ho' k (by omega)
  have hXl : (rowL roC left).length = d * 2 := by rw [rowL_length roC_len, hd]
  obtain ⟨v', w', hr, h5, h6, _, h8⟩ := run_append_own_at (P := Try.prog) w base 61 61 59 i0 _ 2 16 Try.underlying61 hi0 hz0 hzs hzb rfl (by decide) _ k _ hof ad d lc (rowL roC left) hXl hx (rowL_one_cell roC_one left) (by unfold maxLen; omega) (by omega) hb0
  obtain ⟨p6, n6, q6, e6⟩ := own_form h5
  subst e6
  have n6e : k + d = n6 := by
    rcases h5.2 with ⟨e, h0⟩ | ⟨g', cap, cur', e, _⟩
    · omega
    · injection e with _ e _
      exact e.symm
  have hap : ∀ ty, (Builtin.append_ #[61, 60] ty #[.slice (some ⟨g, 0, none⟩) k c, .slice (some ad) d lc]).run Try.prog w = .ok (.slice p6 n6 q6) w' := fun ty => by
    rw [app_types Try.underlying61 Try.underlying60 hi0]
    exact hr
  have q3 : decide ((n6 : Int) < (n : Int)) = false := decide_eq_false (by omega)
  have q3' : decide (n6 < n) = false := decide_eq_false (by omega)
  have HP : Hid (RoPost w base (.slice (some ⟨g, 0, none⟩) n c) M (.returned (.slice p6 n6 q6)) w') := by
    have hR : (rowL roC l).length = n * 2 := by rw [rowL_length roC_len, hn]
    have eM : rowL roC M = (rowL roC l).take (k * 2) ++ rowL roC left := by
      rw [hM, rowL_repl l left k (by omega), List.drop_of_length_le (by omega), List.append_nil]
    have hlen : M.length = k + d := by rw [hM, repl_len l left k (by omega)]; omega
    refine roPost_of (v' := .slice p6 n6 q6) ?_ h6 (h8.imp id (fun h => ⟨_, h, Nat.le_refl _⟩))
    show w'.ownsRow base 59 2 _ M.length (rowL roC M)
    rw [hlen, eM]
    exact h5
  rw [← hM]
  clear ho hb hbg hnc hcm hcl htk hof hn hk hM hr h5 h6 h8 hx hXl hd n6e
  go_enter Try.func44, Try.ntmps44
  go_wp2_with (at_builtin; refine Lib.wpList_append_run _ rfl _ _ _ _ rfl _ _ rfl rfl _ _ (hap _) ?_)
  go_ret
  exact HP.out
end
end Go.Proofs.Ytmlgoecdefeapaa
/-
  Package slices at rows of slots: a row in the midst replaced by none. The condition: fewer than 2^29 rows.
-/
namespace Go.Proofs.Ytmlgoecdefeapaa
open Go.RowKit

section
variable {w : World} {base g n c k k1 : Nat} {l : List (Int × Int)}
set_option maxHeartbeats 6400000 in
set_option maxRecDepth 100000 in
/-- One in the midst, by 0. -/
theorem prepl_fit0 (ho : OwnRo w base (.slice (some ⟨g, 0, none⟩) n c) l) (hn : n = l.length) (hk : k + 1 = k1) (hk1 : k1 < n) (hl : n ≤ 536870912) :
    Calls Try.prog 44 #[.slice (some ⟨g, 0, none⟩) n c, .int .i64 (k : Int), .int .i64 (k1 : Int), .slice none 0 0] w (RoPost w base (.slice (some ⟨g, 0, none⟩) n c) (l.take k ++ ([] ++ l.drop (k + 1)))) := by
  obtain ⟨M, hM⟩ : ∃ M, M = l.take k ++ ([] ++ l.drop (k + 1)) := ⟨_, rfl⟩
  obtain ⟨cur, hb, hbg, hnc, hcm, hcl, htk⟩ := roAt ho hn
  obtain ⟨i0, hi0, hz0, hzs, hzb⟩ := info_parts infoRo
  obtain ⟨R, hR⟩ : ∃ R, R = rowL roC l := ⟨_, rfl⟩
  have hRl : R.length = n * 2 := by rw [hR, rowL_length roC_len, hn]
  rw [← hR] at htk
  obtain ⟨q, hq⟩ : ∃ q, q = n - k1 := ⟨_, rfl⟩
  obtain ⟨cq, hcq⟩ : ∃ cq, cq = c - k1 := ⟨_, rfl⟩
  obtain ⟨tot, ht⟩ : ∃ tot, tot = k + q := ⟨_, rfl⟩
  have a2 : (k : Int) + (q : Int) = (tot : Int) := by omega
  have w0 : IntKind.i64.wrap (k : Int) = (k : Int) := by rw [IntKind.wrap_i64]; omega
  have w2 : IntKind.i64.wrap (tot : Int) = (tot : Int) := by rw [IntKind.wrap_i64]; omega
  have s1 := ro_mid g n c k k1 (by omega) (by omega)
  have s2 := ro_to g n c k (by omega) (by omega)
  have s3 : ∀ w', (Instr.sliceAt 61 (.slice (some ⟨g, 0, none⟩) n c) (some (.int .i64 (k1 : Int))) none none).run Try.prog w' = .ok (.slice (some ⟨g, k1 * 2, none⟩) q cq) w' := by rw [hq, hcq]; exact ro_from g n c k1 (by omega) (by omega)
  have s4 := ro_to g n c tot (by omega) (by omega)
  have s5 := ro_from g tot c k (by omega) (by omega)
  have s6 := ro_from g tot c k (by omega) (by omega)
  have q1 : ((k : Int) == (k1 : Int)) = false := by simp; omega
  have q2 : ¬ ((k : Int) = (k1 : Int)) := by omega
  have q3 : ((k1 : Int) == (n : Int)) = false := by simp; omega
  have q4 : ¬ ((k1 : Int) = (n : Int)) := by omega
  have q5 : decide ((c : Int) < (tot : Int)) = false := decide_eq_false (by omega)
  have q5' : decide (c < tot) = false := decide_eq_false (by omega)
  have q6 : decide ((k : Int) ≤ (k1 : Int)) = true := decide_eq_true (by omega)
  have q6' : decide (k ≤ k1) = true := decide_eq_true (by omega)
  have hz : (Try.prog.info? 59).map (·.size) = some 2 := by kernel_rfl
  have mixed : Try.prog.follows Departure.mixedOrders = true := by kernel_rfl
  have hdl : (R.drop (k1 * 2)).length = q * 2 := by rw [List.length_drop, hRl]; omega
  have hcell : ∀ j u, R[j]? = some u → w.cell? ⟨g, j, none⟩ = some u := fun j u hu => by
    have h1 : j < n * 2 := by rw [← hRl]; exact (List.getElem?_eq_some_iff.1 hu).1
    have ho' : OwnRo w base (.slice (some ⟨g, 0, none⟩) l.length c) l := by rw [← hn]; exact ho
    rw [World.ownsRow.cellAt ho' j (by rw [← hn]; exact h1), ← hR]
    exact hu
  have H1 : Hid (∀ u ∈ R.drop (k1 * 2), u.oneCell' = true) := fun u hu => rowL_one_cell roC_one l u (by rw [← hR]; exact List.mem_of_mem_drop hu)
  have hcp : ∀ (w' : World) ty, (Builtin.copy_ #[61, 60] ty #[.slice (some ⟨g, k * 2, none⟩) (tot - k) (c - k), .slice none 0 0]).run Try.prog w' = .ok (goInt 0) w' := fun w' ty => copy_none Try.underlying61 hi0 ty _ _ _
  have s7 := ro_from g n c tot (by omega) (by omega)
  have HS : Hid (∀ (y : World), y.heap[g]? = w.heap[g]? → ∀ j u, (R.drop (k1 * 2))[j]? = some u → y.cell? ((⟨g, k1 * 2, none⟩ : Addr).add j) = some u) := fun y hy j u hu => by
    rw [List.getElem?_drop] at hu
    rw [Addr.add_lit]
    have := hcell _ u hu
    simp only [World.cell?] at this ⊢
    rw [hy]
    exact this
  have HB : Hid (w.drew.drew.heap[g]? = some (.cells cur.toArray 59 (0, 0))) := hb
  obtain ⟨W1, hW1⟩ : ∃ W1, W1 = w.drew.drew.setRow g (splice cur (k * 2) (R.drop (k1 * 2))).toArray := ⟨_, rfl⟩
  have HW : Hid (w.drew.drew.setRow g (splice cur (k * 2) (R.drop (k1 * 2))).toArray = W1) := hW1.symm
  have HG : Hid (W1.heap[g]? = some (.cells (splice cur (k * 2) (R.drop (k1 * 2))).toArray 59 (0, 0)) ∧ w.grownBy W1 (some g)) := by
    rw [hW1]
    have := splice_grown (w := w.drew.drew) (o := k * 2) (cs := R.drop (k1 * 2)) HB.out
    exact ⟨this.1, ⟨this.2.os, this.2.tape, this.2.output, this.2.size, this.2.block⟩⟩
  have HL : Hid ((R.drop (k1 * 2)).length = q * 2 ∧ cur.length = c * 2 ∧ base ≤ g ∧ n ≤ c ∧ c ≤ maxLen ∧ k + 1 = k1 ∧ k1 < n ∧ n = l.length ∧ cur.take (n * 2) = R ∧ R = rowL roC l ∧ R.length = n * 2 ∧ M = l.take k ++ ([] ++ l.drop (k + 1)) ∧ q = n - k1 ∧ tot = k + q) := ⟨hdl, hcl, hbg, hnc, hcm, hk, hk1, hn, htk, hR, hRl, hM, hq, ht⟩
  rw [← hM]
  clear ho hb hbg hnc hcm hcl htk hn hk hM hW1 hR hRl hdl hcell hq hcq ht hk1
  go_enter Try.func44, Try.ntmps44
  go_upto_region 9 with fail
  refine wp_region_held_drew (S := (fun _ : World => True)) (by kernel_rfl) ?_ (fun hHeld0 => ?_)
  · trivial
  refine tk0 (.slice (some ⟨g, 0, none⟩) n c) (by kernel_rfl) (by kernel_rfl) (by kernel_rfl) (fun _ _ _ h => h) rfl (fun w hSw => by (try dsimp only at hSw); go_simp) trivial ?_
  try simp only [Act.put, List.setIfInBounds_toArray, List.set_cons_zero, List.set_cons_succ]
  refine tk1 (.int .i64 (k : Int)) (by kernel_rfl) (by kernel_rfl) (by kernel_rfl) (fun _ _ _ h => h) rfl (fun w hSw => by (try dsimp only at hSw); go_simp) trivial ?_
  try simp only [Act.put, List.setIfInBounds_toArray, List.set_cons_zero, List.set_cons_succ]
  refine tk2 (.slice (some ⟨g, 0, none⟩) k c) (by kernel_rfl) (by kernel_rfl) (by kernel_rfl) (fun _ _ _ h => h) rfl (fun w hSw => by (try dsimp only at hSw); go_simp) trivial ?_
  try simp only [Act.put, List.setIfInBounds_toArray, List.set_cons_zero, List.set_cons_succ]
  refine tk3 (.int .i64 (k : Int)) (by kernel_rfl) (by kernel_rfl) (by kernel_rfl) (fun _ _ _ h => h) rfl (fun w hSw => by (try dsimp only at hSw); go_simp) trivial ?_
  try simp only [Act.put, List.setIfInBounds_toArray, List.set_cons_zero, List.set_cons_succ]
  refine tk4 (.slice none 0 0) (by kernel_rfl) (by kernel_rfl) (by kernel_rfl) (fun _ _ _ h => h) rfl (fun w hSw => by (try dsimp only at hSw); go_simp) trivial ?_
  try simp only [Act.put, List.setIfInBounds_toArray, List.set_cons_zero, List.set_cons_succ]
  refine tk5 (.int .i64 0) (by kernel_rfl) (by kernel_rfl) (by kernel_rfl) (fun _ _ _ h => h) rfl (fun w hSw => by (try dsimp only at hSw); go_simp) trivial ?_
  try simp only [Act.put, List.setIfInBounds_toArray, List.set_cons_zero, List.set_cons_succ]
  refine tk6 (.int .i64 (k : Int)) (by kernel_rfl) (by kernel_rfl) (by kernel_rfl) (fun _ _ _ h => h) rfl (fun w hSw => by (try dsimp only at hSw); go_simp) trivial ?_
  try simp only [Act.put, List.setIfInBounds_toArray, List.set_cons_zero, List.set_cons_succ]
  refine tk7 (.slice (some ⟨g, 0, none⟩) n c) (by kernel_rfl) (by kernel_rfl) (by kernel_rfl) (fun _ _ _ h => h) rfl (fun w hSw => by (try dsimp only at hSw); go_simp) trivial ?_
  try simp only [Act.put, List.setIfInBounds_toArray, List.set_cons_zero, List.set_cons_succ]
  refine tk8 (.int .i64 (k1 : Int)) (by kernel_rfl) (by kernel_rfl) (by kernel_rfl) (fun _ _ _ h => h) rfl (fun w hSw => by (try dsimp only at hSw); go_simp) trivial ?_
  try simp only [Act.put, List.setIfInBounds_toArray, List.set_cons_zero, List.set_cons_succ]
  refine tk9 (.slice (some ⟨g, k1 * 2, none⟩) q cq) (by kernel_rfl) (by kernel_rfl) (by kernel_rfl) (fun _ _ _ h => h) rfl (fun w hSw => by (try dsimp only at hSw); go_simp) trivial ?_
  try simp only [Act.put, List.setIfInBounds_toArray, List.set_cons_zero, List.set_cons_succ]
  refine tk10 (.int .i64 (q : Int)) (by kernel_rfl) (by kernel_rfl) (by kernel_rfl) (fun _ _ _ h => h) rfl (fun w hSw => by (try dsimp only at hSw); go_simp) trivial ?_
  try simp only [Act.put, List.setIfInBounds_toArray, List.set_cons_zero, List.set_cons_succ]
  refine tk11 (.int .i64 (tot : Int)) (by kernel_rfl) (by kernel_rfl) (by kernel_rfl) (fun _ _ _ h => h) rfl (fun w hSw => by (try dsimp only at hSw); go_simp) trivial ?_
  try simp only [Act.put, List.setIfInBounds_toArray, List.set_cons_zero, List.set_cons_succ]
  refine tk12 (.int .i64 (tot : Int)) (by kernel_rfl) (by kernel_rfl) (by kernel_rfl) (fun _ _ _ h => h) rfl (fun w hSw => by (try dsimp only at hSw); go_simp) trivial ?_
  try simp only [Act.put, List.setIfInBounds_toArray, List.set_cons_zero, List.set_cons_succ]
  refine wpAnyH_done (by kernel_rfl) ?_ _
  skip
  go_upto_region 17 with fail
  go_wp2_with (refine wpList_plain rfl (fun _ hK => wp_copyK (.tmp 95) (.tmp 96) 61 60 rfl _ _ rfl rfl (hcp _ _) (hK _ _ ?_)))
  go_region_law_o (refine step_copyK rfl (.tmp 103) (.tmp 106) 61 61 rfl 59 2 g (k * 2) (tot - k) (c - k) ⟨g, k1 * 2, none⟩ q cq q (R.drop (k1 * 2)) cur 59 (by simp [Act.eval, Act.put]) (by simp [Act.eval, Act.put]) Try.underlying61 hz (by have := HL.out; exact (Nat.min_eq_left (by omega)).symm) HL.out.1 HB.out (HS.out _ rfl) (by have := HL.out; omega) H1.out ?_)
  rw [HW.out]
  go_wp2_with (refine wpList_clearK rfl (.tmp 110) 61 rfl 59 _ g (tot * 2) (n - tot) (c - tot) (splice cur (k * 2) (R.drop (k1 * 2))) 59 rfl Try.underlying61 (by rw [hi0]; simp [hz0]) (by have := HL.out; omega) HG.out.1 (by have := HL.out; rw [splice_len _ _ _ (by omega)]; show tot * 2 + (n - tot) * 2 ≤ _; omega) (zeroRo_one _) ?_; intro w3 h3 g3; have H3 : Hid _ := h3; have G3 : Hid _ := g3; clear h3 g3)
  go_ret
  obtain ⟨hdl, hcl, hbg, hnc, hcm, hk, hk1, hn, htk, hR, hRl, hM, hq, ht⟩ := HL.out
  have zl : (Builtin.zeroCells zeroRo.cells (n - tot)).toList.length = (n - tot) * 2 := by simp [Builtin.zeroCells, Value.cells]
  have l1 : (splice cur (k * 2) (R.drop (k1 * 2))).length = c * 2 := by rw [splice_len _ _ _ (by omega)]; exact hcl
  have hlen : M.length = tot := by rw [hM, repl_len l [] k (by omega)]; simp; omega
  have g1 := HG.out.2
  have g2 := G3.out
  refine roPost_of ⟨rowL_length roC_len _, Or.inr ⟨g, c, _, by rw [hlen]; rfl, hbg, H3.out, by rw [hlen]; omega, hcm, by rw [List.size_toArray, splice_len _ _ _ (by rw [zl, l1]; omega), l1], ?_⟩⟩ ⟨g2.os.trans g1.os, g2.tape.trans g1.tape, g2.output.trans g1.output, Nat.le_trans g1.size g2.size, fun b hb hne => (g2.block b (Nat.lt_of_lt_of_le hb g1.size) hne).trans (g1.block b hb hne)⟩ (Or.inl rfl)
  rw [hlen, hM, rowL_repl l [] k (by omega), ← hR]
  refine repl_row (by omega) (by omega) (by rw [hRl, show (rowL roC ([] : List (Int × Int))).length = 0 from rfl]; omega) (fun j hj => ?_) (fun j hj => by simp [rowL] at hj) (fun j hj => ?_)
  · rw [splice_at _ _ _ (by rw [zl, l1]; omega), if_pos (by omega), splice_at _ _ _ (by omega), if_pos hj]
    exact take_get htk (by omega)
  · rw [show (rowL roC ([] : List (Int × Int))).length = 0 from rfl, Nat.add_zero, splice_at _ _ _ (by rw [zl, l1]; omega), if_pos (by omega), splice_at _ _ _ (by omega), if_neg (by omega), if_pos (by omega), List.getElem?_drop, show k * 2 + j - k * 2 = j by omega, show k1 = k + 1 by omega]
end
end Go.Proofs.Ytmlgoecdefeapaa
/-
  Package slices at rows of slots: a row in the midst replaced by one. The condition: fewer than 2^29 rows.
-/
namespace Go.Proofs.Ytmlgoecdefeapaa
open Go.RowKit

section
variable {w : World} {base g n c k k1 : Nat} {l : List (Int × Int)}
set_option maxHeartbeats 6400000 in
set_option maxRecDepth 100000 in
/-- One in the midst, by 1. -/
theorem prepl_fit1 (ho : OwnRo w base (.slice (some ⟨g, 0, none⟩) n c) l) (hn : n = l.length) (hk : k + 1 = k1) (hk1 : k1 < n) (hl : n ≤ 536870912) {left : List (Int × Int)} {ad : Addr} {lc : Nat} (hd : left.length = 1) (hx : ∀ j u, (rowL roC left)[j]? = some u → w.cell? (ad.add j) = some u) :
    Calls Try.prog 44 #[.slice (some ⟨g, 0, none⟩) n c, .int .i64 (k : Int), .int .i64 (k1 : Int), .slice (some ad) 1 lc] w (RoPost w base (.slice (some ⟨g, 0, none⟩) n c) (l.take k ++ (left ++ l.drop (k + 1)))) := by
  obtain ⟨M, hM⟩ : ∃ M, M = l.take k ++ (left ++ l.drop (k + 1)) := ⟨_, rfl⟩
  obtain ⟨cur, hb, hbg, hnc, hcm, hcl, htk⟩ := roAt ho hn
  obtain ⟨i0, hi0, hz0, hzs, hzb⟩ := info_parts infoRo
  obtain ⟨R, hR⟩ : ∃ R, R = rowL roC l := ⟨_, rfl⟩
  have hRl : R.length = n * 2 := by rw [hR, rowL_length roC_len, hn]
  rw [← hR] at htk
  obtain ⟨q, hq⟩ : ∃ q, q = n - k1 := ⟨_, rfl⟩
  obtain ⟨cq, hcq⟩ : ∃ cq, cq = c - k1 := ⟨_, rfl⟩
  obtain ⟨tot, ht⟩ : ∃ tot, tot = n := ⟨_, rfl⟩
  have a1 : (k : Int) + 1 = (k1 : Int) := by omega
  have a2 : (k1 : Int) + (q : Int) = (tot : Int) := by omega
  have w1 : IntKind.i64.wrap (k1 : Int) = (k1 : Int) := by rw [IntKind.wrap_i64]; omega
  have w0 : IntKind.i64.wrap (k : Int) = (k : Int) := by rw [IntKind.wrap_i64]; omega
  have w2 : IntKind.i64.wrap (tot : Int) = (tot : Int) := by rw [IntKind.wrap_i64]; omega
  have s1 := ro_mid g n c k k1 (by omega) (by omega)
  have s2 := ro_to g n c k (by omega) (by omega)
  have s3 : ∀ w', (Instr.sliceAt 61 (.slice (some ⟨g, 0, none⟩) n c) (some (.int .i64 (k1 : Int))) none none).run Try.prog w' = .ok (.slice (some ⟨g, k1 * 2, none⟩) q cq) w' := by rw [hq, hcq]; exact ro_from g n c k1 (by omega) (by omega)
  have s4 := ro_to g n c tot (by omega) (by omega)
  have s5 := ro_from g tot c k (by omega) (by omega)
  have s6 := ro_from g tot c k1 (by omega) (by omega)
  have q1 : ((k : Int) == (k1 : Int)) = false := by simp; omega
  have q2 : ¬ ((k : Int) = (k1 : Int)) := by omega
  have q3 : ((k1 : Int) == (n : Int)) = false := by simp; omega
  have q4 : ¬ ((k1 : Int) = (n : Int)) := by omega
  have q5 : decide ((c : Int) < (tot : Int)) = false := decide_eq_false (by omega)
  have q5' : decide (c < tot) = false := decide_eq_false (by omega)
  have q6 : decide ((k1 : Int) ≤ (k1 : Int)) = true := decide_eq_true (by omega)
  have q6' : decide (k1 ≤ k1) = true := decide_eq_true (by omega)
  have hz : (Try.prog.info? 59).map (·.size) = some 2 := by kernel_rfl
  have mixed : Try.prog.follows Departure.mixedOrders = true := by kernel_rfl
  have hdl : (R.drop (k1 * 2)).length = q * 2 := by rw [List.length_drop, hRl]; omega
  have hcell : ∀ j u, R[j]? = some u → w.cell? ⟨g, j, none⟩ = some u := fun j u hu => by
    have h1 : j < n * 2 := by rw [← hRl]; exact (List.getElem?_eq_some_iff.1 hu).1
    have ho' : OwnRo w base (.slice (some ⟨g, 0, none⟩) l.length c) l := by rw [← hn]; exact ho
    rw [World.ownsRow.cellAt ho' j (by rw [← hn]; exact h1), ← hR]
    exact hu
  have H1 : Hid (∀ u ∈ R.drop (k1 * 2), u.oneCell' = true) := fun u hu => rowL_one_cell roC_one l u (by rw [← hR]; exact List.mem_of_mem_drop hu)
  have hXl : (rowL roC left).length = 2 := by rw [rowL_length roC_len, hd]
  obtain ⟨X, hX⟩ : ∃ X, X = rowL roC left := ⟨_, rfl⟩
  rw [← hX] at hXl hx
  have HX : Hid (∀ y : World, y.heap[ad.block]? = w.heap[ad.block]? → ∀ j u, X[j]? = some u → y.cell? (ad.add j) = some u) := fun y hy j u hu => by
    have := hx j u hu
    simp only [World.cell?] at this ⊢
    have hbk : (ad.add j).block = ad.block := addr_add_block ad j
    rw [hbk] at this ⊢
    rw [hy]
    exact this
  have HX1 : Hid (∀ u ∈ X, u.oneCell' = true) := fun u hu => rowL_one_cell roC_one left u (by rw [← hX]; exact hu)
  obtain ⟨ad2, cz, s7⟩ : ∃ (ad2 : Addr) (cz : Nat), ∀ w', (Instr.sliceAt 61 (.slice (some ⟨g, 0, none⟩) n c) (some (.int .i64 (tot : Int))) none none).run Try.prog w' = .ok (.slice (some ad2) 0 cz) w' := by
    subst ht
    obtain ⟨ad2, h2⟩ := ro_rest g tot c (by omega) (by omega)
    exact ⟨ad2, _, h2⟩
  have hc0 : ∀ (w' : World) ty, (Builtin.clear_ #[61] ty #[.slice (some ad2) 0 cz]).run Try.prog w' = .ok (.tuple #[]) w' := fun w' ty => clear_none Try.underlying61 ty _ _
  have HB : Hid (w.drew.heap[g]? = some (.cells cur.toArray 59 (0, 0))) := hb
  have HS : Hid (∀ y : World, y.heap[g]? = some (.cells (splice cur (k * 2) X).toArray 59 (0, 0)) → ∀ j u, (R.drop (k1 * 2))[j]? = some u → y.cell? ((⟨g, k1 * 2, none⟩ : Addr).add j) = some u) := fun y hy j u hu => by
    rw [Addr.add_lit]
    have hlt := (List.getElem?_eq_some_iff.1 hu).1
    rw [List.getElem?_drop, ← take_get htk (by omega)] at hu
    simp only [World.cell?, hy]
    have := splice_at cur (k * 2) X (by omega) (k1 * 2 + j)
    rw [if_neg (by omega), if_neg (by omega), hu] at this
    simpa using this
  have HL : Hid ((R.drop (k1 * 2)).length = q * 2 ∧ cur.length = c * 2 ∧ base ≤ g ∧ n ≤ c ∧ c ≤ maxLen ∧ k + 1 = k1 ∧ k1 < n ∧ n = l.length ∧ cur.take (n * 2) = R ∧ R = rowL roC l ∧ R.length = n * 2 ∧ M = l.take k ++ (left ++ l.drop (k + 1)) ∧ q = n - k1 ∧ tot = n ∧ X.length = 2 ∧ X = rowL roC left ∧ left.length = 1) := ⟨hdl, hcl, hbg, hnc, hcm, hk, hk1, hn, htk, hR, hRl, hM, hq, ht, hXl, hX, hd⟩
  rw [← hM]
  clear ho hb hbg hnc hcm hcl htk hn hk hM hR hRl hdl hcell hq hcq ht hk1 hX hXl hx hd
  go_enter Try.func44, Try.ntmps44
  go_upto_region 9 with fail
  refine wp_region_held_drew (S := (fun _ : World => True)) (by kernel_rfl) ?_ (fun hHeld0 => ?_)
  · trivial
  refine tk0 (.slice (some ⟨g, 0, none⟩) n c) (by kernel_rfl) (by kernel_rfl) (by kernel_rfl) (fun _ _ _ h => h) rfl (fun w hSw => by (try dsimp only at hSw); go_simp) trivial ?_
  try simp only [Act.put, List.setIfInBounds_toArray, List.set_cons_zero, List.set_cons_succ]
  refine tk1 (.int .i64 (k : Int)) (by kernel_rfl) (by kernel_rfl) (by kernel_rfl) (fun _ _ _ h => h) rfl (fun w hSw => by (try dsimp only at hSw); go_simp) trivial ?_
  try simp only [Act.put, List.setIfInBounds_toArray, List.set_cons_zero, List.set_cons_succ]
  refine tk2 (.slice (some ⟨g, 0, none⟩) k c) (by kernel_rfl) (by kernel_rfl) (by kernel_rfl) (fun _ _ _ h => h) rfl (fun w hSw => by (try dsimp only at hSw); go_simp) trivial ?_
  try simp only [Act.put, List.setIfInBounds_toArray, List.set_cons_zero, List.set_cons_succ]
  refine tk3 (.int .i64 (k : Int)) (by kernel_rfl) (by kernel_rfl) (by kernel_rfl) (fun _ _ _ h => h) rfl (fun w hSw => by (try dsimp only at hSw); go_simp) trivial ?_
  try simp only [Act.put, List.setIfInBounds_toArray, List.set_cons_zero, List.set_cons_succ]
  refine tk4 (.slice (some ad) 1 lc) (by kernel_rfl) (by kernel_rfl) (by kernel_rfl) (fun _ _ _ h => h) rfl (fun w hSw => by (try dsimp only at hSw); go_simp) trivial ?_
  try simp only [Act.put, List.setIfInBounds_toArray, List.set_cons_zero, List.set_cons_succ]
  refine tk5 (.int .i64 1) (by kernel_rfl) (by kernel_rfl) (by kernel_rfl) (fun _ _ _ h => h) rfl (fun w hSw => by (try dsimp only at hSw); go_simp) trivial ?_
  try simp only [Act.put, List.setIfInBounds_toArray, List.set_cons_zero, List.set_cons_succ]
  refine tk6 (.int .i64 (k1 : Int)) (by kernel_rfl) (by kernel_rfl) (by kernel_rfl) (fun _ _ _ h => h) rfl (fun w hSw => by (try dsimp only at hSw); go_simp) trivial ?_
  try simp only [Act.put, List.setIfInBounds_toArray, List.set_cons_zero, List.set_cons_succ]
  refine tk7 (.slice (some ⟨g, 0, none⟩) n c) (by kernel_rfl) (by kernel_rfl) (by kernel_rfl) (fun _ _ _ h => h) rfl (fun w hSw => by (try dsimp only at hSw); go_simp) trivial ?_
  try simp only [Act.put, List.setIfInBounds_toArray, List.set_cons_zero, List.set_cons_succ]
  refine tk8 (.int .i64 (k1 : Int)) (by kernel_rfl) (by kernel_rfl) (by kernel_rfl) (fun _ _ _ h => h) rfl (fun w hSw => by (try dsimp only at hSw); go_simp) trivial ?_
  try simp only [Act.put, List.setIfInBounds_toArray, List.set_cons_zero, List.set_cons_succ]
  refine tk9 (.slice (some ⟨g, k1 * 2, none⟩) q cq) (by kernel_rfl) (by kernel_rfl) (by kernel_rfl) (fun _ _ _ h => h) rfl (fun w hSw => by (try dsimp only at hSw); go_simp) trivial ?_
  try simp only [Act.put, List.setIfInBounds_toArray, List.set_cons_zero, List.set_cons_succ]
  refine tk10 (.int .i64 (q : Int)) (by kernel_rfl) (by kernel_rfl) (by kernel_rfl) (fun _ _ _ h => h) rfl (fun w hSw => by (try dsimp only at hSw); go_simp) trivial ?_
  try simp only [Act.put, List.setIfInBounds_toArray, List.set_cons_zero, List.set_cons_succ]
  refine tk11 (.int .i64 (tot : Int)) (by kernel_rfl) (by kernel_rfl) (by kernel_rfl) (fun _ _ _ h => h) rfl (fun w hSw => by (try dsimp only at hSw); go_simp) trivial ?_
  try simp only [Act.put, List.setIfInBounds_toArray, List.set_cons_zero, List.set_cons_succ]
  refine tk12 (.int .i64 (tot : Int)) (by kernel_rfl) (by kernel_rfl) (by kernel_rfl) (fun _ _ _ h => h) rfl (fun w hSw => by (try dsimp only at hSw); go_simp) trivial ?_
  try simp only [Act.put, List.setIfInBounds_toArray, List.set_cons_zero, List.set_cons_succ]
  refine wpAnyH_done (by kernel_rfl) ?_ _
  skip
  go_upto_region 17 with fail
  go_upto_region 18 with (refine wpList_copyK rfl (.tmp 95) (.tmp 96) 61 60 rfl 59 2 g (k * 2) (tot - k) (c - k) ad 1 lc 1 X cur 59 rfl rfl Try.underlying61 hz (by have := HL.out; exact (Nat.min_eq_left (by omega)).symm) (by have := HL.out; omega) HB.out (HX.out _ rfl) (by have := HL.out; omega) HX1.out ?_; intro w3 h3 g3; have H3 : Hid _ := h3; have G3 : Hid _ := g3; clear h3 g3)
  go_region_law_o (refine step_copyK rfl (.tmp 103) (.tmp 106) 61 61 rfl 59 2 g (k1 * 2) (tot - k1) (c - k1) ⟨g, k1 * 2, none⟩ q cq q (R.drop (k1 * 2)) (splice cur (k * 2) X) 59 (by simp [Act.eval, Act.put]) (by simp [Act.eval, Act.put]) Try.underlying61 hz (by have := HL.out; exact (Nat.min_eq_left (by omega)).symm) HL.out.1 H3.out (HS.out _ H3.out) (by have := HL.out; rw [splice_len _ _ _ (by omega)]; omega) H1.out ?_)
  go_wp2_with (refine wpList_plain rfl (fun _ hK => wp_clearK (.tmp 110) 61 rfl _ rfl (hc0 _ _) (hK _ _ ?_)))
  go_ret
  obtain ⟨hdl, hcl, hbg, hnc, hcm, hk, hk1, hn, htk, hR, hRl, hM, hq, ht, hXl, hX, hd⟩ := HL.out
  have l1 : (splice cur (k * 2) X).length = c * 2 := by rw [splice_len _ _ _ (by omega)]; exact hcl
  have hlen : M.length = tot := by rw [hM, repl_len l left k (by omega)]; omega
  have g1 := G3.out
  have g5 := splice_grown (w := w3.drew) (o := k1 * 2) (cs := R.drop (k1 * 2)) H3.out
  have g2 := g5.2
  refine roPost_of ⟨rowL_length roC_len _, Or.inr ⟨g, c, _, by rw [hlen]; rfl, hbg, g5.1, by rw [hlen]; omega, hcm, by rw [List.size_toArray, splice_len _ _ _ (by rw [l1]; omega), l1], ?_⟩⟩ ⟨g2.os.trans g1.os, g2.tape.trans g1.tape, g2.output.trans g1.output, Nat.le_trans g1.size g2.size, fun b hb hne => (g2.block b (Nat.lt_of_lt_of_le hb g1.size) hne).trans (g1.block b hb hne)⟩ (Or.inl rfl)
  rw [hlen, hM, rowL_repl l left k (by omega), ← hR, ← hX]
  refine repl_row (by omega) (by omega) (by omega) (fun j hj => ?_) (fun j hj => ?_) (fun j hj => ?_)
  · rw [splice_at _ _ _ (by rw [l1]; omega), if_pos (by omega), splice_at _ _ _ (by omega), if_pos hj]
    exact take_get htk (by omega)
  · rw [splice_at _ _ _ (by rw [l1]; omega), if_pos (by omega), splice_at _ _ _ (by omega), if_neg (by omega), if_pos (by omega), show k * 2 + j - k * 2 = j by omega]
  · rw [splice_at _ _ _ (by rw [l1]; omega), if_neg (by omega), if_pos (by omega), List.getElem?_drop, show k1 * 2 + (k * 2 + X.length + j - k1 * 2) = (k + 1) * 2 + j by omega]
end
end Go.Proofs.Ytmlgoecdefeapaa
/-
  Package slices at rows of slots: a row in the midst replaced by two, in place. The condition: fewer than 2^29 rows.
-/
namespace Go.Proofs.Ytmlgoecdefeapaa
open Go.RowKit

section
variable {w : World} {base g n c k k1 : Nat} {l : List (Int × Int)}
set_option maxHeartbeats 6400000 in
set_option maxRecDepth 100000 in
/-- One in the midst, by 2. -/
theorem prepl_room (ho : OwnRo w base (.slice (some ⟨g, 0, none⟩) n c) l) (hn : n = l.length) (hk : k + 1 = k1) (hk1 : k1 < n) (hl : n ≤ 536870912) {left : List (Int × Int)} {ad : Addr} {lc : Nat} (hd : left.length = 2) (hx : ∀ j u, (rowL roC left)[j]? = some u → w.cell? (ad.add j) = some u) (hne : ad.block ≠ g) (hc : n + 1 ≤ c) {vt : TypeId} {vs : Nat} (hsh : w.shape? ad.block = some (vt, vs)) (hvs : vs ≠ 0) :
    Calls Try.prog 44 #[.slice (some ⟨g, 0, none⟩) n c, .int .i64 (k : Int), .int .i64 (k1 : Int), .slice (some ad) 2 lc] w (RoPost w base (.slice (some ⟨g, 0, none⟩) n c) (l.take k ++ (left ++ l.drop (k + 1)))) := by
  obtain ⟨M, hM⟩ : ∃ M, M = l.take k ++ (left ++ l.drop (k + 1)) := ⟨_, rfl⟩
  obtain ⟨cur, hb, hbg, hnc, hcm, hcl, htk⟩ := roAt ho hn
  obtain ⟨i0, hi0, hz0, hzs, hzb⟩ := info_parts infoRo
  obtain ⟨R, hR⟩ : ∃ R, R = rowL roC l := ⟨_, rfl⟩
  have hRl : R.length = n * 2 := by rw [hR, rowL_length roC_len, hn]
  rw [← hR] at htk
  obtain ⟨q, hq⟩ : ∃ q, q = n - k1 := ⟨_, rfl⟩
  obtain ⟨cq, hcq⟩ : ∃ cq, cq = c - k1 := ⟨_, rfl⟩
  obtain ⟨k2, hk2⟩ : ∃ k2, k2 = k + 2 := ⟨_, rfl⟩
  obtain ⟨tot, ht⟩ : ∃ tot, tot = n + 1 := ⟨_, rfl⟩
  have a1 : (k : Int) + 2 = (k2 : Int) := by omega
  have a2 : (k2 : Int) + (q : Int) = (tot : Int) := by omega
  have w1 : IntKind.i64.wrap (k2 : Int) = (k2 : Int) := by rw [IntKind.wrap_i64]; omega
  have w0 : IntKind.i64.wrap (k : Int) = (k : Int) := by rw [IntKind.wrap_i64]; omega
  have w2 : IntKind.i64.wrap (tot : Int) = (tot : Int) := by rw [IntKind.wrap_i64]; omega
  have s1 := ro_mid g n c k k1 (by omega) (by omega)
  have s2 := ro_to g n c k (by omega) (by omega)
  have s3 : ∀ w', (Instr.sliceAt 61 (.slice (some ⟨g, 0, none⟩) n c) (some (.int .i64 (k1 : Int))) none none).run Try.prog w' = .ok (.slice (some ⟨g, k1 * 2, none⟩) q cq) w' := by rw [hq, hcq]; exact ro_from g n c k1 (by omega) (by omega)
  have s4 := ro_to g n c tot (by omega) (by omega)
  have s5 := ro_from g tot c k (by omega) (by omega)
  have s6 := ro_from g tot c k2 (by omega) (by omega)
  have q1 : ((k : Int) == (k1 : Int)) = false := by simp; omega
  have q2 : ¬ ((k : Int) = (k1 : Int)) := by omega
  have q3 : ((k1 : Int) == (n : Int)) = false := by simp; omega
  have q4 : ¬ ((k1 : Int) = (n : Int)) := by omega
  have q5 : decide ((c : Int) < (tot : Int)) = false := decide_eq_false (by omega)
  have q5' : decide (c < tot) = false := decide_eq_false (by omega)
  have q6 : decide ((k2 : Int) ≤ (k1 : Int)) = false := decide_eq_false (by omega)
  have q6' : decide (k2 ≤ k1) = false := decide_eq_false (by omega)
  have hz : (Try.prog.info? 59).map (·.size) = some 2 := by kernel_rfl
  have mixed : Try.prog.follows Departure.mixedOrders = true := by kernel_rfl
  have hdl : (R.drop (k1 * 2)).length = q * 2 := by rw [List.length_drop, hRl]; omega
  have hcell : ∀ j u, R[j]? = some u → w.cell? ⟨g, j, none⟩ = some u := fun j u hu => by
    have h1 : j < n * 2 := by rw [← hRl]; exact (List.getElem?_eq_some_iff.1 hu).1
    have ho' : OwnRo w base (.slice (some ⟨g, 0, none⟩) l.length c) l := by rw [← hn]; exact ho
    rw [World.ownsRow.cellAt ho' j (by rw [← hn]; exact h1), ← hR]
    exact hu
  have H1 : Hid (∀ u ∈ R.drop (k1 * 2), u.oneCell' = true) := fun u hu => rowL_one_cell roC_one l u (by rw [← hR]; exact List.mem_of_mem_drop hu)
  have hXl : (rowL roC left).length = 4 := by rw [rowL_length roC_len, hd]
  obtain ⟨X, hX⟩ : ∃ X, X = rowL roC left := ⟨_, rfl⟩
  rw [← hX] at hXl hx
  have HX : Hid (∀ y : World, y.heap[ad.block]? = w.heap[ad.block]? → ∀ j u, X[j]? = some u → y.cell? (ad.add j) = some u) := fun y hy j u hu => by
    have := hx j u hu
    simp only [World.cell?] at this ⊢
    have hbk : (ad.add j).block = ad.block := addr_add_block ad j
    rw [hbk] at this ⊢
    rw [hy]
    exact this
  have HX1 : Hid (∀ u ∈ X, u.oneCell' = true) := fun u hu => rowL_one_cell roC_one left u (by rw [← hX]; exact hu)
  have hov : (callFunc 51 #[.slice (some ⟨g, k2 * 2, none⟩) (tot - k2) (c - k2), .slice (some ad) 2 lc]).run Try.prog w.drew = .ok (.value (.bool false)) w.drew := by
    have hbd : w.drew.heap[g]? = some (.cells cur.toArray 59 (0, 0)) := hb
    rw [run_callFunc_extern Try.func51 (by kernel_rfl) (by kernel_rfl) (by kernel_rfl) (e := Extern.SlicesOverlaps.overlaps #[60, 60] #[4]) (by kernel_rfl),
      Lib.run_overlaps_apart w.drew 60 4 59 Try.underlying60 2 Try.sizeOf59 ⟨g, k2 * 2, none⟩ ad _ _ 2 lc (fun e => hne e.symm) 59 vt (c * 2) vs (by simp [World.shape?, hbd, hcl]) hsh hvs (by simp [World.frozen?, hbd]) (by simp [World.frozen?, hbd])]
    rfl
  have HB : Hid (w.drew.drew.heap[g]? = some (.cells cur.toArray 59 (0, 0))) := hb
  have HS : Hid (∀ (y : World), y.heap[g]? = w.heap[g]? → ∀ j u, (R.drop (k1 * 2))[j]? = some u → y.cell? ((⟨g, k1 * 2, none⟩ : Addr).add j) = some u) := fun y hy j u hu => by
    rw [List.getElem?_drop] at hu
    rw [Addr.add_lit]
    have := hcell _ u hu
    simp only [World.cell?] at this ⊢
    rw [hy]
    exact this
  obtain ⟨W1, hW1⟩ : ∃ W1, W1 = w.drew.drew.setRow g (splice cur (k2 * 2) (R.drop (k1 * 2))).toArray := ⟨_, rfl⟩
  have HW : Hid (w.drew.drew.setRow g (splice cur (k2 * 2) (R.drop (k1 * 2))).toArray = W1) := hW1.symm
  have HG : Hid (W1.heap[g]? = some (.cells (splice cur (k2 * 2) (R.drop (k1 * 2))).toArray 59 (0, 0)) ∧ w.grownBy W1 (some g)) := by
    rw [hW1]
    have := splice_grown (w := w.drew.drew) (o := k2 * 2) (cs := R.drop (k1 * 2)) HB.out
    exact ⟨this.1, ⟨this.2.os, this.2.tape, this.2.output, this.2.size, this.2.block⟩⟩
  have HX2 : Hid (∀ j u, X[j]? = some u → W1.cell? (ad.add j) = some u) := HX.out W1 (HG.out.2.block ad.block (by
    unfold World.shape? at hsh
    exact Nat.lt_of_not_le fun h => by
      rw [Array.getElem?_eq_none h] at hsh
      cases hsh) (fun e => hne (Option.some.inj e)))
  have HL : Hid ((R.drop (k1 * 2)).length = q * 2 ∧ cur.length = c * 2 ∧ base ≤ g ∧ n + 1 ≤ c ∧ c ≤ maxLen ∧ k + 1 = k1 ∧ k1 < n ∧ n = l.length ∧ cur.take (n * 2) = R ∧ R = rowL roC l ∧ R.length = n * 2 ∧ M = l.take k ++ (left ++ l.drop (k + 1)) ∧ q = n - k1 ∧ tot = n + 1 ∧ X.length = 4 ∧ X = rowL roC left ∧ left.length = 2 ∧ k2 = k + 2) := ⟨hdl, hcl, hbg, hc, hcm, hk, hk1, hn, htk, hR, hRl, hM, hq, ht, hXl, hX, hd, hk2⟩
  rw [← hM]
  clear ho hb hbg hnc hcm hcl htk hn hk hM hW1 hR hRl hdl hcell hq hcq ht hk1 hX hXl hx hd hne hk2 hsh hvs hc
  go_enter Try.func44, Try.ntmps44
  go_upto_region 9 with fail
  refine wp_region_held_drew (S := (fun _ : World => True)) (by kernel_rfl) ?_ (fun hHeld0 => ?_)
  · trivial
  refine tk0 (.slice (some ⟨g, 0, none⟩) n c) (by kernel_rfl) (by kernel_rfl) (by kernel_rfl) (fun _ _ _ h => h) rfl (fun w hSw => by (try dsimp only at hSw); go_simp) trivial ?_
  try simp only [Act.put, List.setIfInBounds_toArray, List.set_cons_zero, List.set_cons_succ]
  refine tk1 (.int .i64 (k : Int)) (by kernel_rfl) (by kernel_rfl) (by kernel_rfl) (fun _ _ _ h => h) rfl (fun w hSw => by (try dsimp only at hSw); go_simp) trivial ?_
  try simp only [Act.put, List.setIfInBounds_toArray, List.set_cons_zero, List.set_cons_succ]
  refine tk2 (.slice (some ⟨g, 0, none⟩) k c) (by kernel_rfl) (by kernel_rfl) (by kernel_rfl) (fun _ _ _ h => h) rfl (fun w hSw => by (try dsimp only at hSw); go_simp) trivial ?_
  try simp only [Act.put, List.setIfInBounds_toArray, List.set_cons_zero, List.set_cons_succ]
  refine tk3 (.int .i64 (k : Int)) (by kernel_rfl) (by kernel_rfl) (by kernel_rfl) (fun _ _ _ h => h) rfl (fun w hSw => by (try dsimp only at hSw); go_simp) trivial ?_
  try simp only [Act.put, List.setIfInBounds_toArray, List.set_cons_zero, List.set_cons_succ]
  refine tk4 (.slice (some ad) 2 lc) (by kernel_rfl) (by kernel_rfl) (by kernel_rfl) (fun _ _ _ h => h) rfl (fun w hSw => by (try dsimp only at hSw); go_simp) trivial ?_
  try simp only [Act.put, List.setIfInBounds_toArray, List.set_cons_zero, List.set_cons_succ]
  refine tk5 (.int .i64 2) (by kernel_rfl) (by kernel_rfl) (by kernel_rfl) (fun _ _ _ h => h) rfl (fun w hSw => by (try dsimp only at hSw); go_simp) trivial ?_
  try simp only [Act.put, List.setIfInBounds_toArray, List.set_cons_zero, List.set_cons_succ]
  refine tk6 (.int .i64 (k2 : Int)) (by kernel_rfl) (by kernel_rfl) (by kernel_rfl) (fun _ _ _ h => h) rfl (fun w hSw => by (try dsimp only at hSw); go_simp) trivial ?_
  try simp only [Act.put, List.setIfInBounds_toArray, List.set_cons_zero, List.set_cons_succ]
  refine tk7 (.slice (some ⟨g, 0, none⟩) n c) (by kernel_rfl) (by kernel_rfl) (by kernel_rfl) (fun _ _ _ h => h) rfl (fun w hSw => by (try dsimp only at hSw); go_simp) trivial ?_
  try simp only [Act.put, List.setIfInBounds_toArray, List.set_cons_zero, List.set_cons_succ]
  refine tk8 (.int .i64 (k1 : Int)) (by kernel_rfl) (by kernel_rfl) (by kernel_rfl) (fun _ _ _ h => h) rfl (fun w hSw => by (try dsimp only at hSw); go_simp) trivial ?_
  try simp only [Act.put, List.setIfInBounds_toArray, List.set_cons_zero, List.set_cons_succ]
  refine tk9 (.slice (some ⟨g, k1 * 2, none⟩) q cq) (by kernel_rfl) (by kernel_rfl) (by kernel_rfl) (fun _ _ _ h => h) rfl (fun w hSw => by (try dsimp only at hSw); go_simp) trivial ?_
  try simp only [Act.put, List.setIfInBounds_toArray, List.set_cons_zero, List.set_cons_succ]
  refine tk10 (.int .i64 (q : Int)) (by kernel_rfl) (by kernel_rfl) (by kernel_rfl) (fun _ _ _ h => h) rfl (fun w hSw => by (try dsimp only at hSw); go_simp) trivial ?_
  try simp only [Act.put, List.setIfInBounds_toArray, List.set_cons_zero, List.set_cons_succ]
  refine tk11 (.int .i64 (tot : Int)) (by kernel_rfl) (by kernel_rfl) (by kernel_rfl) (fun _ _ _ h => h) rfl (fun w hSw => by (try dsimp only at hSw); go_simp) trivial ?_
  try simp only [Act.put, List.setIfInBounds_toArray, List.set_cons_zero, List.set_cons_succ]
  refine tk12 (.int .i64 (tot : Int)) (by kernel_rfl) (by kernel_rfl) (by kernel_rfl) (fun _ _ _ h => h) rfl (fun w hSw => by (try dsimp only at hSw); go_simp) trivial ?_
  try simp only [Act.put, List.setIfInBounds_toArray, List.set_cons_zero, List.set_cons_succ]
  refine wpAnyH_done (by kernel_rfl) ?_ _
  skip
  go_upto_region 21 with fail
  go_upto_region 22 with (simp only [hov])
  go_region_law_o (refine step_copyK rfl (.tmp 126) (.tmp 129) 61 61 rfl 59 2 g (k2 * 2) (tot - k2) (c - k2) ⟨g, k1 * 2, none⟩ q cq q (R.drop (k1 * 2)) cur 59 (by simp [Act.eval, Act.put]) (by simp [Act.eval, Act.put]) Try.underlying61 hz (by have := HL.out; exact (Nat.min_eq_left (by omega)).symm) HL.out.1 HB.out (HS.out _ rfl) (by have := HL.out; omega) H1.out ?_)
  rw [HW.out]
  go_wp2_with (refine wpList_copyK rfl (.tmp 133) (.tmp 134) 61 60 rfl 59 2 g (k * 2) (tot - k) (c - k) ad 2 lc 2 X (splice cur (k2 * 2) (R.drop (k1 * 2))) 59 rfl rfl Try.underlying61 hz (by have := HL.out; exact (Nat.min_eq_left (by omega)).symm) (by have := HL.out; omega) HG.out.1 HX2.out (by have := HL.out; rw [splice_len _ _ _ (by omega)]; omega) HX1.out ?_; intro w3 h3 g3; have H3 : Hid _ := h3; have G3 : Hid _ := g3; clear h3 g3)
  go_ret
  obtain ⟨hdl, hcl, hbg, hnc, hcm, hk, hk1, hn, htk, hR, hRl, hM, hq, ht, hXl, hX, hd, hk2⟩ := HL.out
  have l1 : (splice cur (k2 * 2) (R.drop (k1 * 2))).length = c * 2 := by rw [splice_len _ _ _ (by omega)]; exact hcl
  have hlen : M.length = tot := by rw [hM, repl_len l left k (by omega)]; omega
  have g1 := HG.out.2
  have g2 := G3.out
  refine roPost_of ⟨rowL_length roC_len _, Or.inr ⟨g, c, _, by rw [hlen]; rfl, hbg, H3.out, by rw [hlen]; omega, hcm, by rw [List.size_toArray, splice_len _ _ _ (by rw [l1]; omega), l1], ?_⟩⟩ ⟨g2.os.trans g1.os, g2.tape.trans g1.tape, g2.output.trans g1.output, Nat.le_trans g1.size g2.size, fun b hb hne => (g2.block b (Nat.lt_of_lt_of_le hb g1.size) hne).trans (g1.block b hb hne)⟩ (Or.inl rfl)
  rw [hlen, hM, rowL_repl l left k (by omega), ← hR, ← hX]
  refine repl_row (by omega) (by omega) (by omega) (fun j hj => ?_) (fun j hj => ?_) (fun j hj => ?_)
  · rw [splice_at _ _ _ (by rw [l1]; omega), if_pos hj, splice_at _ _ _ (by omega), if_pos (by omega)]
    exact take_get htk (by omega)
  · rw [splice_at _ _ _ (by rw [l1]; omega), if_neg (by omega), if_pos (by omega), show k * 2 + j - k * 2 = j by omega]
  · rw [splice_at _ _ _ (by rw [l1]; omega), if_neg (by omega), if_neg (by omega), splice_at _ _ _ (by omega), if_neg (by omega), if_pos (by omega), List.getElem?_drop, show k1 * 2 + (k * 2 + X.length + j - k2 * 2) = (k + 1) * 2 + j by omega]
end
end Go.Proofs.Ytmlgoecdefeapaa
/-
  Package slices at rows of slots: a row in the midst replaced by two, in a new row. The condition: fewer than 2^29 rows.
-/
namespace Go.Proofs.Ytmlgoecdefeapaa
open Go.RowKit

section
variable {w : World} {base g n c k k1 : Nat} {l : List (Int × Int)}
set_option maxHeartbeats 6400000 in
set_option maxRecDepth 100000 in
/-- One in the midst, by 2. -/
theorem prepl_grow (ho : OwnRo w base (.slice (some ⟨g, 0, none⟩) n c) l) (hn : n = l.length) (hk : k + 1 = k1) (hk1 : k1 < n) (hl : n ≤ 536870912) {left : List (Int × Int)} {ad : Addr} {lc : Nat} (hd : left.length = 2) (hx : ∀ j u, (rowL roC left)[j]? = some u → w.cell? (ad.add j) = some u) (hb0 : base ≤ w.heap.size) (hc : c < n + 1) (hab : ad.block < w.heap.size) :
    Calls Try.prog 44 #[.slice (some ⟨g, 0, none⟩) n c, .int .i64 (k : Int), .int .i64 (k1 : Int), .slice (some ad) 2 lc] w (RoPost w base (.slice (some ⟨g, 0, none⟩) n c) (l.take k ++ (left ++ l.drop (k + 1)))) := by
  obtain ⟨M, hM⟩ : ∃ M, M = l.take k ++ (left ++ l.drop (k + 1)) := ⟨_, rfl⟩
  obtain ⟨cur, hb, hbg, hnc, hcm, hcl, htk⟩ := roAt ho hn
  obtain ⟨i0, hi0, hz0, hzs, hzb⟩ := info_parts infoRo
  obtain ⟨R, hR⟩ : ∃ R, R = rowL roC l := ⟨_, rfl⟩
  have hRl : R.length = n * 2 := by rw [hR, rowL_length roC_len, hn]
  rw [← hR] at htk
  obtain ⟨q, hq⟩ : ∃ q, q = n - k1 := ⟨_, rfl⟩
  obtain ⟨cq, hcq⟩ : ∃ cq, cq = c - k1 := ⟨_, rfl⟩
  obtain ⟨k2, hk2⟩ : ∃ k2, k2 = k + 2 := ⟨_, rfl⟩
  obtain ⟨tot, ht⟩ : ∃ tot, tot = n + 1 := ⟨_, rfl⟩
  have a1 : (k : Int) + 2 = (k2 : Int) := by omega
  have a2 : (k2 : Int) + (q : Int) = (tot : Int) := by omega
  have w1 : IntKind.i64.wrap (k2 : Int) = (k2 : Int) := by rw [IntKind.wrap_i64]; omega
  have w0 : IntKind.i64.wrap (k : Int) = (k : Int) := by rw [IntKind.wrap_i64]; omega
  have w2 : IntKind.i64.wrap (tot : Int) = (tot : Int) := by rw [IntKind.wrap_i64]; omega
  have s1 := ro_mid g n c k k1 (by omega) (by omega)
  have s2 := ro_to g n c k (by omega) (by omega)
  have s3 : ∀ w', (Instr.sliceAt 61 (.slice (some ⟨g, 0, none⟩) n c) (some (.int .i64 (k1 : Int))) none none).run Try.prog w' = .ok (.slice (some ⟨g, k1 * 2, none⟩) q cq) w' := by rw [hq, hcq]; exact ro_from g n c k1 (by omega) (by omega)
  have q1 : ((k : Int) == (k1 : Int)) = false := by simp; omega
  have q2 : ¬ ((k : Int) = (k1 : Int)) := by omega
  have q3 : ((k1 : Int) == (n : Int)) = false := by simp; omega
  have q4 : ¬ ((k1 : Int) = (n : Int)) := by omega
  have q5 : decide ((c : Int) < (tot : Int)) = true := decide_eq_true (by omega)
  have q5' : decide (c < tot) = true := decide_eq_true (by omega)
  have hz : (Try.prog.info? 59).map (·.size) = some 2 := by kernel_rfl
  have mixed : Try.prog.follows Departure.mixedOrders = true := by kernel_rfl
  have hdl : (R.drop (k1 * 2)).length = q * 2 := by rw [List.length_drop, hRl]; omega
  have hcell : ∀ j u, R[j]? = some u → w.cell? ⟨g, j, none⟩ = some u := fun j u hu => by
    have h1 : j < n * 2 := by rw [← hRl]; exact (List.getElem?_eq_some_iff.1 hu).1
    have ho' : OwnRo w base (.slice (some ⟨g, 0, none⟩) l.length c) l := by rw [← hn]; exact ho
    rw [World.ownsRow.cellAt ho' j (by rw [← hn]; exact h1), ← hR]
    exact hu
  have H1 : Hid (∀ u ∈ R.drop (k1 * 2), u.oneCell' = true) := fun u hu => rowL_one_cell roC_one l u (by rw [← hR]; exact List.mem_of_mem_drop hu)
  have hXl : (rowL roC left).length = 4 := by rw [rowL_length roC_len, hd]
  obtain ⟨X, hX⟩ : ∃ X, X = rowL roC left := ⟨_, rfl⟩
  rw [← hX] at hXl hx
  have HX : Hid (∀ y : World, y.heap[ad.block]? = w.heap[ad.block]? → ∀ j u, X[j]? = some u → y.cell? (ad.add j) = some u) := fun y hy j u hu => by
    have := hx j u hu
    simp only [World.cell?] at this ⊢
    have hbk : (ad.add j).block = ad.block := addr_add_block ad j
    rw [hbk] at this ⊢
    rw [hy]
    exact this
  have HX1 : Hid (∀ u ∈ X, u.oneCell' = true) := fun u hu => rowL_one_cell roC_one left u (by rw [← hX]; exact hu)
  obtain ⟨wd, hwd⟩ : ∃ wd, wd = w.drew := ⟨_, rfl⟩
  have ewd : wd.heap = w.heap := by rw [hwd]; rfl
  have zwd : wd.heap.size = w.heap.size := by rw [ewd]
  have bwd : Below w.heap.size w wd := by rw [hwd]; exact undrew (Below.refl _ _)
  obtain ⟨nb, hnb⟩ : ∃ nb, nb = wd.heap.size := ⟨_, rfl⟩
  obtain ⟨z, hzz⟩ : ∃ z : Nat, (tot : Int) - (k : Int) = (z : Int) := ⟨tot - k, by omega⟩
  have wz : IntKind.i64.wrap (z : Int) = (z : Int) := by rw [IntKind.wrap_i64]; omega
  have hold : (Builtin.firstCells i0.size k (.slice (some ⟨g, 0, none⟩) k c)).run Try.prog wd.drew = .ok (R.take (k * 2)).toArray wd.drew := by
    rw [hzs]
    exact run_firstCells_some wd.drew 2 k ⟨g, 0, none⟩ k c (R.take (k * 2)) (by rw [List.length_take]; omega) (fun j v hj => by
      rw [Addr.add_lit, Nat.zero_add]
      rw [List.getElem?_take] at hj
      split at hj
      · exact cell_of (hcell j v hj) (show wd.heap[g]? = w.heap[g]? by rw [ewd])
      · cases hj)
  obtain ⟨G, hG⟩ : ∃ G, G = grownCap wd tot c 59 := ⟨_, rfl⟩
  obtain ⟨ROW, hROW⟩ : ∃ ROW : Array Value, ROW = (R.take (k * 2)).toArray ++ Builtin.zeroCells zeroRo.cells z ++ Builtin.zeroCells zeroRo.cells (G - tot) := ⟨_, rfl⟩
  have hrz : ∀ ty, (Builtin.append_ #[61, 3] ty #[.slice (some ⟨g, 0, none⟩) k c, .int .i64 (z : Int)]).run Try.prog wd = .ok (.slice (some ⟨wd.heap.size, 0, none⟩) tot G) (wd.drew.alloc (.cells ROW 59)) := fun ty => by
    have hiq : k + z = tot := by omega
    have h := Lib.run_append_grow_zeros wd 61 3 ty 59 i0 _ .i64 .i64 Try.underlying61 Try.underlying3 hi0 hz0 (some ⟨g, 0, none⟩) k c (R.take (k * 2)) hold z (by omega) (by omega) (by omega) (by omega) (by rw [hzb]; omega) (by rw [hzb, hiq]; exact growslice_fits (by omega) (by omega))
    rw [hiq, ← hG] at h
    rw [hROW]
    exact h
  have hGn : tot ≤ G := by rw [hG]; exact grownCap_ge wd _ _ _
  have hGm : G ≤ maxLen := by rw [hG]; exact grownCap_le_maxLen wd tot c 59 (by unfold maxLen; omega)
  have hG63 : G ≤ 9223372036854775807 := by have := hGm; unfold maxLen at this; omega
  have hRs : ROW.toList.length = G * 2 := by
    rw [Array.length_toList, hROW]
    simp [Builtin.zeroCells, Value.cells]
    omega
  have hRt : ROW.toList.take (k * 2) = R.take (k * 2) := by
    rw [hROW]
    simp only [Array.toList_append, List.append_assoc]
    have : (R.take (k * 2)).length = k * 2 := by rw [List.length_take]; omega
    rw [List.take_append_of_le_length (by omega), List.take_of_length_le (by omega)]
  obtain ⟨W1, hW1⟩ : ∃ W1, W1 = wd.drew.alloc (.cells ROW 59) := ⟨_, rfl⟩
  rw [← hW1, ← hnb] at hrz
  have b1 : Below wd.heap.size wd W1 := by rw [hW1]; exact undrew ((Below.refl _ wd.drew).alloc (Nat.le_refl _) _)
  have HB1 : Hid (W1.heap[nb]? = some (.cells ROW.toList.toArray 59 (0, 0))) := by show _ = _; rw [hnb, hW1, Array.toArray_toList]; exact heap_alloc_new wd.drew _
  have gl := lt_of_block hb
  have HX2 : Hid (∀ j u, X[j]? = some u → W1.cell? (ad.add j) = some u) := HX.out W1 ((b1.block ad.block (by omega)).trans (by rw [ewd]))
  have HB : Hid (Below wd.heap.size wd W1 ∧ nb = wd.heap.size ∧ W1.heap.size = wd.heap.size + 1 ∧ Below w.heap.size w wd ∧ wd.heap.size = w.heap.size) := ⟨b1, hnb, by rw [hW1]; simp, bwd, zwd⟩
  have s4 := ro_from nb tot G k (by omega) (by omega)
  have s5 := ro_from nb tot G k2 (by omega) (by omega)
  have HS : Hid (∀ y, Below wd.heap.size wd y → ∀ j u, (R.drop (k1 * 2))[j]? = some u → y.cell? ((⟨g, k1 * 2, none⟩ : Addr).add j) = some u) := fun y b j u hu => by
    rw [List.getElem?_drop] at hu
    rw [Addr.add_lit]
    have h1 := hcell _ u hu
    have h2 := b.block g (by omega)
    simp only [World.cell?] at h1 ⊢
    rw [h2, ewd]
    exact h1
  have HL : Hid ((R.drop (k1 * 2)).length = q * 2 ∧ ROW.toList.length = G * 2 ∧ k + 1 = k1 ∧ k1 < n ∧ n = l.length ∧ ROW.toList.take (k * 2) = R.take (k * 2) ∧ R = rowL roC l ∧ R.length = n * 2 ∧ M = l.take k ++ (left ++ l.drop (k + 1)) ∧ q = n - k1 ∧ tot = n + 1 ∧ X.length = 4 ∧ X = rowL roC left ∧ left.length = 2 ∧ k2 = k + 2 ∧ tot ≤ G ∧ G ≤ maxLen ∧ base ≤ w.heap.size) := ⟨hdl, hRs, hk, hk1, hn, hRt, hR, hRl, hM, hq, ht, hXl, hX, hd, hk2, hGn, hGm, hb0⟩
  have HWD : Hid (w.drew = wd) := hwd.symm
  rw [← hM]
  clear hW1 ho hb hcl htk hR hRl hdl hn hnc hbg hcm hx hcell hold hG hROW hGm hRs hRt b1 hb0 hwd ewd zwd bwd hnb hk hk1 hM hq hcq ht hX hXl hd hk2 hc hab gl
  go_enter Try.func44, Try.ntmps44
  go_upto_region 9 with fail
  refine wp_region_held_drew (S := (fun _ : World => True)) (by kernel_rfl) ?_ (fun hHeld0 => ?_)
  · trivial
  refine tk0 (.slice (some ⟨g, 0, none⟩) n c) (by kernel_rfl) (by kernel_rfl) (by kernel_rfl) (fun _ _ _ h => h) rfl (fun w hSw => by (try dsimp only at hSw); go_simp) trivial ?_
  try simp only [Act.put, List.setIfInBounds_toArray, List.set_cons_zero, List.set_cons_succ]
  refine tk1 (.int .i64 (k : Int)) (by kernel_rfl) (by kernel_rfl) (by kernel_rfl) (fun _ _ _ h => h) rfl (fun w hSw => by (try dsimp only at hSw); go_simp) trivial ?_
  try simp only [Act.put, List.setIfInBounds_toArray, List.set_cons_zero, List.set_cons_succ]
  refine tk2 (.slice (some ⟨g, 0, none⟩) k c) (by kernel_rfl) (by kernel_rfl) (by kernel_rfl) (fun _ _ _ h => h) rfl (fun w hSw => by (try dsimp only at hSw); go_simp) trivial ?_
  try simp only [Act.put, List.setIfInBounds_toArray, List.set_cons_zero, List.set_cons_succ]
  refine tk3 (.int .i64 (k : Int)) (by kernel_rfl) (by kernel_rfl) (by kernel_rfl) (fun _ _ _ h => h) rfl (fun w hSw => by (try dsimp only at hSw); go_simp) trivial ?_
  try simp only [Act.put, List.setIfInBounds_toArray, List.set_cons_zero, List.set_cons_succ]
  refine tk4 (.slice (some ad) 2 lc) (by kernel_rfl) (by kernel_rfl) (by kernel_rfl) (fun _ _ _ h => h) rfl (fun w hSw => by (try dsimp only at hSw); go_simp) trivial ?_
  try simp only [Act.put, List.setIfInBounds_toArray, List.set_cons_zero, List.set_cons_succ]
  refine tk5 (.int .i64 2) (by kernel_rfl) (by kernel_rfl) (by kernel_rfl) (fun _ _ _ h => h) rfl (fun w hSw => by (try dsimp only at hSw); go_simp) trivial ?_
  try simp only [Act.put, List.setIfInBounds_toArray, List.set_cons_zero, List.set_cons_succ]
  refine tk6 (.int .i64 (k2 : Int)) (by kernel_rfl) (by kernel_rfl) (by kernel_rfl) (fun _ _ _ h => h) rfl (fun w hSw => by (try dsimp only at hSw); go_simp) trivial ?_
  try simp only [Act.put, List.setIfInBounds_toArray, List.set_cons_zero, List.set_cons_succ]
  refine tk7 (.slice (some ⟨g, 0, none⟩) n c) (by kernel_rfl) (by kernel_rfl) (by kernel_rfl) (fun _ _ _ h => h) rfl (fun w hSw => by (try dsimp only at hSw); go_simp) trivial ?_
  try simp only [Act.put, List.setIfInBounds_toArray, List.set_cons_zero, List.set_cons_succ]
  refine tk8 (.int .i64 (k1 : Int)) (by kernel_rfl) (by kernel_rfl) (by kernel_rfl) (fun _ _ _ h => h) rfl (fun w hSw => by (try dsimp only at hSw); go_simp) trivial ?_
  try simp only [Act.put, List.setIfInBounds_toArray, List.set_cons_zero, List.set_cons_succ]
  refine tk9 (.slice (some ⟨g, k1 * 2, none⟩) q cq) (by kernel_rfl) (by kernel_rfl) (by kernel_rfl) (fun _ _ _ h => h) rfl (fun w hSw => by (try dsimp only at hSw); go_simp) trivial ?_
  try simp only [Act.put, List.setIfInBounds_toArray, List.set_cons_zero, List.set_cons_succ]
  refine tk10 (.int .i64 (q : Int)) (by kernel_rfl) (by kernel_rfl) (by kernel_rfl) (fun _ _ _ h => h) rfl (fun w hSw => by (try dsimp only at hSw); go_simp) trivial ?_
  try simp only [Act.put, List.setIfInBounds_toArray, List.set_cons_zero, List.set_cons_succ]
  refine tk11 (.int .i64 (tot : Int)) (by kernel_rfl) (by kernel_rfl) (by kernel_rfl) (fun _ _ _ h => h) rfl (fun w hSw => by (try dsimp only at hSw); go_simp) trivial ?_
  try simp only [Act.put, List.setIfInBounds_toArray, List.set_cons_zero, List.set_cons_succ]
  refine tk12 (.int .i64 (tot : Int)) (by kernel_rfl) (by kernel_rfl) (by kernel_rfl) (fun _ _ _ h => h) rfl (fun w hSw => by (try dsimp only at hSw); go_simp) trivial ?_
  try simp only [Act.put, List.setIfInBounds_toArray, List.set_cons_zero, List.set_cons_succ]
  refine wpAnyH_done (by kernel_rfl) ?_ _
  skip
  rw [HWD.out]
  go_upto_region 13 with (first
    | (refine wpList_copyK rfl (.tmp 70) (.tmp 71) 61 60 rfl 59 2 nb (k * 2) (tot - k) (G - k) ad 2 lc 2 X ROW.toList 59 rfl rfl Try.underlying61 hz (by have := HL.out; exact (Nat.min_eq_left (by omega)).symm) (by have := HL.out; omega) HB1.out HX2.out (by have := HL.out; omega) HX1.out ?_; intro w3 h3 g3; have H3 : Hid _ := h3; have G3 : Hid _ := g3; clear h3 g3)
    | (at_builtin; refine Lib.wpList_append_run _ rfl _ _ _ _ rfl _ _ rfl rfl _ _ (hrz _) ?_))
  have b3 : Below wd.heap.size wd w3 := HB.out.1.grown G3.out HB.out.1.size (fun k hk => by have := Option.some.inj hk; have := HB.out.2.1; omega)
  have B3 : Hid (Below wd.heap.size wd w3.drew) := ⟨b3.os, b3.tape, b3.output, b3.size, b3.block⟩
  clear b3
  go_region_law_o (refine step_copyK rfl (.tmp 78) (.tmp 81) 61 61 rfl 59 2 nb (k2 * 2) (tot - k2) (G - k2) ⟨g, k1 * 2, none⟩ q cq q (R.drop (k1 * 2)) (splice ROW.toList (k * 2) X) 59 (by simp [Act.eval, Act.put]) (by simp [Act.eval, Act.put]) Try.underlying61 hz (by have := HL.out; exact (Nat.min_eq_left (by omega)).symm) HL.out.1 H3.out (HS.out _ B3.out) (by have := HL.out; rw [splice_len _ _ _ (by omega)]; omega) H1.out ?_)
  go_wp2
  go_ret
  obtain ⟨hdl, hRs, hk, hk1, hn, hRt, hR, hRl, hM, hq, ht, hXl, hX, hd, hk2, hGn, hGm, hb0⟩ := HL.out
  obtain ⟨b1, hnb, zW1, bwd, zwd⟩ := HB.out
  have hlen : M.length = tot := by rw [hM, repl_len l left k (by omega)]; omega
  have l1 : (splice ROW.toList (k * 2) X).length = G * 2 := by rw [splice_len _ _ _ (by omega)]; omega
  have hg5 := splice_grown (w := w3.drew) (o := k2 * 2) (cs := R.drop (k1 * 2)) H3.out
  have b5 : Below wd.heap.size wd (w3.drew.setRow nb (splice (splice ROW.toList (k * 2) X) (k2 * 2) (R.drop (k1 * 2))).toArray) := B3.out.grown hg5.2 B3.out.size (fun k hk => by have := Option.some.inj hk; omega)
  have b6 := bmm bwd bwd.size b5
  refine roPost_of ⟨rowL_length roC_len _, Or.inr ⟨nb, G, _, by rw [hlen]; rfl, by omega, hg5.1, by rw [hlen]; omega, hGm, by rw [List.size_toArray, splice_len _ _ _ (by rw [l1]; omega), l1], ?_⟩⟩ ⟨b6.os, b6.tape, b6.output, b6.size, fun b hb _ => b6.block b hb⟩ (Or.inr ⟨nb, rfl, by omega⟩)
  rw [hlen, hM, rowL_repl l left k (by omega), ← hR, ← hX]
  refine repl_row (by omega) (by omega) (by omega) (fun j hj => ?_) (fun j hj => ?_) (fun j hj => ?_)
  · rw [splice_at _ _ _ (by rw [l1]; omega), if_pos (by omega), splice_at _ _ _ (by omega), if_pos hj]
    have := take_get hRt hj
    rw [List.getElem?_take, if_pos hj] at this
    exact this
  · rw [splice_at _ _ _ (by rw [l1]; omega), if_pos (by omega), splice_at _ _ _ (by omega), if_neg (by omega), if_pos (by omega), show k * 2 + j - k * 2 = j by omega]
  · rw [splice_at _ _ _ (by rw [l1]; omega), if_neg (by omega), if_pos (by omega), List.getElem?_drop, show k1 * 2 + (k * 2 + X.length + j - k2 * 2) = (k + 1) * 2 + j by omega]
end
end Go.Proofs.Ytmlgoecdefeapaa
/-
  Package slices at rows of slots: Replace whole, for one row by at most two. The condition: fewer than 2^29 rows.
-/
namespace Go.Proofs.Ytmlgoecdefeapaa
open Go.RowKit

/-- What is put in: nothing, or a row of its own in another block. -/
structure LeftAt (w : World) (base : Nat) (v lv : Value) (left : List (Int × Int)) : Prop where
  own : w.ownsRow base 59 2 lv left.length (rowL roC left)
  apart : ∀ b, lv.ownBlock = some b → v.ownBlock ≠ some b
  nil : left = [] → lv = .slice none 0 0
theorem prepl_any {w : World} {base base' k k1 : Nat} {v lv : Value} {l left : List (Int × Int)} (ho : OwnRo w base v l) (hb0 : base ≤ w.heap.size) (hk : k < l.length) (hk1 : k + 1 = k1) (hl : l.length ≤ 536870912) (hd : left.length ≤ 2) (hL : LeftAt w base' v lv left) :
    Calls Try.prog 44 #[v, .int .i64 (k : Int), .int .i64 (k1 : Int), lv] w (RoPost w base v (l.take k ++ (left ++ l.drop (k + 1)))) := by
  obtain ⟨n, hn⟩ : ∃ n, n = l.length := ⟨_, rfl⟩
  obtain ⟨g, c, ev⟩ : ∃ g c, v = .slice (some ⟨g, 0, none⟩) n c := by
    rcases ho.2 with ⟨e, h0⟩ | ⟨g, cap, cur, e, _⟩
    · omega
    · exact ⟨g, cap, by rw [e, hn]⟩
  subst ev
  rcases hL.own.2 with ⟨e, h0⟩ | ⟨b, lc, cur, e, h1, h2, h3, h4, h5, h6⟩
  · have el : left = [] := List.eq_nil_of_length_eq_zero h0
    subst el e
    by_cases hkn : k1 = n
    · subst hkn
      exact prepl_end0 ho hn hk1 (by omega)
    · exact prepl_fit0 ho hn hk1 (by omega) (by omega)
  · have hx : ∀ j u, (rowL roC left)[j]? = some u → w.cell? ((⟨b, 0, none⟩ : Addr).add j) = some u := fun j u hu => by
      have hj := (List.getElem?_eq_some_iff.1 hu).1
      rw [rowL_length roC_len] at hj
      rw [Addr.add_lit, Nat.zero_add]
      have ho' := hL.own
      rw [e] at ho'
      rw [World.ownsRow.cellAt ho' j hj]
      exact hu
    have hbg : b ≠ g := fun e2 => hL.apart b (by rw [e]; rfl) (by rw [e2]; rfl)
    have h0' : left.length = 0 → False := fun h0 => by
      have := hL.nil (List.eq_nil_of_length_eq_zero h0)
      rw [e] at this
      cases this
    subst e
    by_cases h0 : left.length = 0
    · exact absurd h0 h0'
    · by_cases hkn : k1 = n
      · subst hkn
        exact prepl_end ho hb0 hn hk1 (by omega) rfl (by omega) hd hx
      · by_cases h1' : left.length = 1
        · rw [h1']
          exact prepl_fit1 ho hn hk1 (by omega) (by omega) h1' hx
        · have h2' : left.length = 2 := by omega
          rw [h2'] at h3 ⊢
          by_cases hc : n + 1 ≤ c
          · exact prepl_room ho hn hk1 (by omega) (by omega) h2' hx hbg hc (vt := 59) (vs := cur.size) (by simp [World.shape?, h2]) (by omega)
          · exact prepl_grow ho hn hk1 (by omega) (by omega) h2' hx hb0 (by omega) (lt_of_block h2)
end Go.Proofs.Ytmlgoecdefeapaa
