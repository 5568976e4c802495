/-
  Parts of the proof, laid together: MxRef, MxMem, MxDrop, MxPut, RwMem. The conditions stand at each part.
-/
import Derived.Laws.AppendOwnNone
import Derived.Test.YtmfadmhbkgemmaaQPackA
import Derived.Test.YtmfadmhbkgemmaaQPack5
/-
  Rows of numbers read: is a number among some, are two rows one (package latchkeyref08). The condition: the rows lie in memory as their reading says.
-/
namespace Go.Proofs.Ytmfadmhbkgemmaa
open Go.RowKit

theorem undrB2 {w w' : World} {B : Nat} (k : Below B w w') : Below B w w'.drew := ⟨k.os, k.tape, k.output, k.size, k.block⟩
def hasB (l : List Int) (n : Int) : Bool := decide (n ∈ l)
set_option maxHeartbeats 3200000 in
set_option maxRecDepth 100000 in
theorem has_any (w : World) (v : Value) (l : List Int) (n : Int) (hv : IntsAt w v l) : Calls Try.prog 39 #[v, .int .i64 n] w fun e w' => e = .returned (.bool (hasB l n)) ∧ w' = w := by
  obtain ⟨a, cap, rfl, _, hx⟩ := hv.ex
  have HX : Hid _ := hx
  have hmx : l.length ≤ 9223372036854775807 := hv.mx
  clear hx hv
  go_enter Try.func39, Try.ntmps39
  go_wp2
  go_loop [5] (fun i => ∃ k : Nat, k ≤ l.length ∧ i = .int .i64 k ∧ Hid (∀ j (hj : j < l.length), j < k → l[j] ≠ n)) (fun i => l.length - (intOf i).toNat)
  case atStart => exact ⟨0, Nat.zero_le _, rfl, fun j hj h0 => absurd h0 (Nat.not_lt_zero _)⟩
  case round =>
    obtain ⟨k, hk, rfl, HN⟩ := hrel
    by_cases hkl : k < l.length
    · rcases HX.out with h0 | ⟨bk, off, rfl, hbk, hxx⟩
      · omega
      have z0 := hxx k hkl
      have q0 : decide ((k : Int) < (l.length : Int)) = true := decide_eq_true (by omega)
      clear hxx
      by_cases he : l[k] = n
      · have HC : Hid (hasB l n = true) := by
          show decide _ = _
          rw [decide_eq_true_eq, ← he]
          exact List.getElem_mem hkl
        have q1 : (l[k] == n) = true := beq_iff_eq.2 he
        clear he HN
        generalize l[k] = X at *
        go_wp2
        go_ret
        exact ⟨by rw [HC.out]; rfl, rfl⟩
      · have q1 : (l[k] == n) = false := beq_eq_false_iff_ne.2 he
        have HN2 : Hid (∀ j (hj : j < l.length), j < k + 1 → l[j] ≠ n) := fun j hj h0 => by
          by_cases e : j = k
          · subst e
            exact he
          · exact HN.out j hj (by omega)
        clear he HN
        generalize l[k] = X at *
        go_wp2
        go_round
        case rel => exact ⟨k + 1, hkl, by go_num, HN2⟩
        case measure => simp [intOf]; omega
    · have q0 : decide ((k : Int) < (l.length : Int)) = false := decide_eq_false (by omega)
      have HC : Hid (hasB l n = false) := by
        show decide _ = _
        rw [decide_eq_false_iff_not]
        intro hm
        obtain ⟨j, hj, e⟩ := List.getElem_of_mem hm
        exact HN.out j hj (by omega) e
      clear HN
      go_wp2
      go_ret
      exact ⟨by rw [HC.out]; rfl, rfl⟩
end Go.Proofs.Ytmfadmhbkgemmaa
/-
  The document's mutex in memory (package latchkeyref08): who holds it, who waits; a new one, locked, unlocked. No condition.
-/
namespace Go.Proofs.Ytmfadmhbkgemmaa
open Go.RowKit

/-- A row of numbers in the thing's own blocks. -/
structure OwnInts (w : World) (S : Nat → Prop) (D : Nat) (v : Value) (l : List Int) : Prop where
  at' : IntsAt w v l
  own : ∀ a bk off n cap, 0 < n → v = .slice a n cap → a = some ⟨bk, off, none⟩ → S bk ∧ bk ≠ D
  mx : l.length ≤ 65536
  nn : ∀ n cap, v = .slice none n cap → n = 0 ∧ cap = 0
theorem OwnInts.keep {w w' : World} {S : Nat → Prop} {D : Nat} {v : Value} {l : List Int} (h : OwnInts w S D v l) (hs : w.heap.size ≤ w'.heap.size) (hk : ∀ b, S b → b ≠ D → w'.heap[b]? = w.heap[b]?) : OwnInts w' S D v l := by
  refine ⟨?_, h.own, h.mx, h.nn⟩
  obtain ⟨a, cap, hv, hc, he⟩ := h.at'.ex
  refine ⟨⟨a, cap, hv, hc, ?_⟩, h.at'.lo, h.at'.mx⟩
  rcases he with h0 | ⟨bk, off, ha, hb, hx⟩
  · exact Or.inl h0
  · by_cases h0 : l.length = 0
    · exact Or.inl h0
    have hS := h.own a bk off _ cap (by omega) hv ha
    exact Or.inr ⟨bk, off, ha, Nat.lt_of_lt_of_le hb hs, fun j hj => (World.cell?_of_block (hk bk hS.1 hS.2)).trans (hx j hj)⟩
theorem OwnInts.grow {w : World} {S S' : Nat → Prop} {D : Nat} {v : Value} {l : List Int} (h : OwnInts w S D v l) (hs : ∀ b, S b → S' b) : OwnInts w S' D v l := ⟨h.at', fun a bk off n cap h0 e1 e2 => ⟨hs _ (h.own a bk off n cap h0 e1 e2).1, (h.own a bk off n cap h0 e1 e2).2⟩, h.mx, h.nn⟩
theorem OwnInts.form {w : World} {S : Nat → Prop} {D : Nat} {v : Value} {l : List Int} (h : OwnInts w S D v l) : ∃ a cap, v = .slice a l.length cap := by
  obtain ⟨a, cap, e, _⟩ := h.at'.ex
  exact ⟨a, cap, e⟩
/-- A row that was made behind a world. -/
theorem OwnInts.new {w' : World} {base D : Nat} {v : Value} {l : List Int} (h : w'.ownsRow base 3 1 v l.length (intL l)) (hD : D < base) (hlo : ∀ x ∈ l, -9223372036854775808 ≤ x ∧ x ≤ 9223372036854775807) (hl : l.length ≤ 65536) : OwnInts w' (fun b => base ≤ b ∧ b < w'.heap.size) D v l := by
  refine ⟨⟨?_, hlo, by unfold maxLen; omega⟩, ?_, hl, ?_⟩
  · rcases h.2 with ⟨rfl, h0⟩ | ⟨g, cap, cur, rfl, _, hg, hc, _, _, _⟩
    · exact ⟨none, 0, by rw [h0], by omega, Or.inl h0⟩
    · refine ⟨_, _, rfl, hc, Or.inr ⟨g, 0, rfl, lt_of_block hg, fun j hj => ?_⟩⟩
      have := World.ownsRow.cellAt h j (by omega)
      rw [Nat.zero_add, this]
      unfold intL
      rw [List.getElem?_map, List.getElem?_eq_getElem hj]
      rfl
  · intro a bk off n cap _ e1 e2
    subst e1 e2
    have := h.lt bk rfl
    exact ⟨this, by omega⟩
  · intro n cap e
    subst e
    rcases h.2 with ⟨e, _⟩ | ⟨g, cap', cur, e, _⟩
    · simp only [Value.slice.injEq] at e
      exact e.2
    · simp only [Value.slice.injEq] at e
      cases e.1
theorem OwnInts.news {w : World} {S : Nat → Prop} {D n cap : Nat} {x : Addr} {l : List Int} (h : OwnInts w S D (.slice (some x) n cap) l) : ∀ j u, (intL l)[j]? = some u → w.cell? (x.add j) = some u := by
  intro j u hu
  unfold intL at hu
  rw [List.getElem?_map] at hu
  obtain ⟨y, hy, rfl⟩ := Option.map_eq_some_iff.1 hu
  obtain ⟨hj, rfl⟩ := List.getElem?_eq_some_iff.1 hy
  obtain ⟨a, c, e, _, h0 | ⟨bk, off, ha, _, hx⟩⟩ := h.at'.ex
  · omega
  · simp only [Value.slice.injEq] at e
    rw [← e.1] at ha
    cases ha
    rw [Addr.add_mid]
    exact hx j hj
section
variable {w w' : World} {base D : Nat} {S S' : Nat → Prop} {l l' : List Int} {who who' : Int}
end
end Go.Proofs.Ytmfadmhbkgemmaa
/-
  A number out of some (package latchkeyref08): the others, in a row of their own. The conditions: the row lies in memory as its reading says, and is no longer than 65536.
-/
namespace Go.Proofs.Ytmfadmhbkgemmaa
open Go.RowKit

def dropL (l : List Int) (n : Int) : List Int := l.filter fun x => !(x == n)
theorem dropL_le (l : List Int) (n : Int) : (dropL l n).length ≤ l.length := List.length_filter_le _ _
theorem dropL_take (l : List Int) (n : Int) (k : Nat) (hk : k < l.length) : dropL (l.take (k + 1)) n = if l[k] = n then dropL (l.take k) n else dropL (l.take k) n ++ [l[k]] := by
  unfold dropL
  rw [List.take_succ_eq_append_getElem hk, List.filter_append]
  by_cases h : l[k] = n
  · rw [if_pos h]
    simp [h]
  · rw [if_neg h]
    simp [h]
set_option maxHeartbeats 3200000 in
set_option maxRecDepth 100000 in
theorem drop_any (w : World) (v : Value) (l : List Int) (n : Int) (hv : IntsAt w v l) (hl : l.length ≤ 65536) : Calls Try.prog 40 #[v, .int .i64 n] w fun e w' => ∃ u, e = .returned u ∧ w'.ownsRow w.heap.size 3 1 u (dropL l n).length (intL (dropL l n)) ∧ Below w.heap.size w w' := by
  obtain ⟨i0, hi, hz0, hz1, hz2⟩ := info_parts infoI
  obtain ⟨a, cap, rfl, _, hx⟩ := hv.ex
  have HX : Hid _ := hx
  clear hx hv
  go_enter Try.func40, Try.ntmps40
  go_wp2
  go_loopw [5, 6] (fun u i wr => ∃ k : Nat, k ≤ l.length ∧ i = .int .i64 k ∧ wr.ownsRow w.heap.size 3 1 u (dropL (l.take k) n).length (intL (dropL (l.take k) n)) ∧ Below w.heap.size w wr) (fun _ i _ => l.length - (intOf i).toNat)
  case atStart => exact ⟨0, Nat.zero_le _, rfl, World.ownsRow_nil _ _ _ _, Below.refl _ _⟩
  case round =>
    obtain ⟨k, hk, rfl, hown, bel⟩ := hrel
    obtain ⟨pu, nu, cu, rfl⟩ := own_form hown
    by_cases hkl : k < l.length
    · rcases HX.out with h0 | ⟨bk, off, rfl, hbk, hxx⟩
      · omega
      have z0 := (bel.cell (p := ⟨bk, off + k, none⟩) (by exact hbk)).trans (hxx k hkl)
      have q0 : decide ((k : Int) < (l.length : Int)) = true := decide_eq_true (by omega)
      have q5 : decide ((0 : Int) ≤ (k : Int)) = true := decide_eq_true (by omega)
      have HD : Hid _ := dropL_take l n k hkl
      have hdl : (dropL (l.take k) n).length ≤ 65536 := by
        have h1 := dropL_le (l.take k) n
        have h2 := List.length_take_le k l
        omega
      have hbs := bel.size
      clear hxx
      by_cases he : l[k] = n
      · have q1 : (l[k] == n) = true := beq_iff_eq.2 he
        have HD2 : Hid (dropL (l.take (k + 1)) n = dropL (l.take k) n) := by
          have := HD.out
          rw [if_pos he] at this
          exact this
        clear he HD
        generalize l[k] = X at *
        generalize hdd : dropL (l.take k) n = dd at *
        clear hdd
        go_wp2
        go_roundw
        case rel => exact ⟨k + 1, hkl, by go_num, by rw [HD2.out]; exact hown, bel⟩
        case measure => simp [intOf]; omega
      · have q1 : (l[k] == n) = false := beq_eq_false_iff_ne.2 he
        have HD2 : Hid (dropL (l.take (k + 1)) n = dropL (l.take k) n ++ [l[k]]) := by
          have := HD.out
          rw [if_neg he] at this
          exact this
        clear he HD
        generalize l[k] = X at *
        generalize hdd : dropL (l.take k) n = dd at *
        clear hdd
        go_wp2_with (at_builtin; refine wpList_append_own _ rfl (.tmp 19) (.tmp 24) 41 rfl w.heap.size 3 i0 _ 1 8 Try.underlying41 hi hz0 hz1 hz2 rfl (by decide) (.slice pu nu cu) dd.length _ rfl (hown.alloc _) ⟨wr.heap.size, 0, none⟩ 1 1 [.int .i64 X] rfl rfl (World.news_of_block (cs := #[.int .i64 X]) (t := 3) (fr := (0, 0)) (heap_alloc_new wr _)) (by simp [Value.oneCell']) (by unfold maxLen; omega) (by omega) (by simp; omega) ?_; intro v4 w4 hrow4 hg4 _)
        have b4 : Below w.heap.size w w4 := (bel.alloc bel.size _).grown hg4 (by simp; omega) (fun q hq => (hown.lt q hq).1)
        go_roundw
        case rel => exact ⟨k + 1, hkl, by go_num, by
          rw [HD2.out]
          have e4 : intL (dd ++ [X]) = intL dd ++ [.int .i64 X] := by unfold intL; simp
          rw [e4, List.length_append]
          exact hrow4, b4⟩
        case measure => simp [intOf]; omega
    · have hke : k = l.length := by omega
      subst hke
      rw [List.take_length] at hown
      have q0 : decide ((l.length : Int) < (l.length : Int)) = false := decide_eq_false (by omega)
      have HO : Hid _ := hown
      clear hown
      go_wp2
      go_ret
      exact ⟨_, rfl, HO.out, bel⟩
end Go.Proofs.Ytmfadmhbkgemmaa
/-
  A number where it belongs (package latchkeyref08): the row with it, in a row of its own. The conditions: the row lies in memory as its reading says, and is shorter than 65536.
-/
namespace Go.Proofs.Ytmfadmhbkgemmaa
open Go.RowKit

def putL (l : List Int) (n : Int) : List Int := l.takeWhile (fun x => decide (x < n)) ++ n :: l.dropWhile (fun x => decide (x < n))
theorem put_at (n : Int) : ∀ (l : List Int) (k : Nat), k ≤ l.length → (∀ j (hj : j < l.length), j < k → l[j] < n) → (∀ (hk : k < l.length), ¬ l[k] < n) → putL l n = l.take k ++ n :: l.drop k
  | [], k, _, _, _ => by simp [putL]
  | x :: l, 0, _, _, h2 => by
    have h3 : ¬ x < n := h2 (by simp)
    simp [putL, h3]
  | x :: l, k + 1, h0, h1, h2 => by
    have h3 : x < n := h1 0 (by simp) (by omega)
    have ih := put_at n l k (by simpa using h0) (fun j hj hjk => h1 (j + 1) (by simp; omega) (by omega)) (fun hk => h2 (by simp; omega))
    unfold putL at ih ⊢
    simp only [List.takeWhile_cons, List.dropWhile_cons, decide_eq_true h3, if_true, List.cons_append, List.take_succ_cons, List.drop_succ_cons, ih]
theorem add_block (x : Addr) (j : Nat) : (x.add j).block = x.block := by
  unfold Addr.add
  split <;> rfl
/-- A row of numbers to be read from some place on: nil, or at an address. -/
def IntsIn (w : World) (v : Value) (l : List Int) : Prop := (v = .slice none 0 0 ∧ l = []) ∨ ∃ (x : Addr) (cap : Nat), v = .slice (some x) l.length cap ∧ l.length ≤ cap ∧ (l.length = 0 ∨ x.block < w.heap.size) ∧ ∀ j u, (intL l)[j]? = some u → w.cell? (x.add j) = some u
theorem IntsIn.fresh {w w' : World} {v : Value} {l : List Int} {B : Nat} (h : IntsIn w v l) (k : Below B w w') (hB : w.heap.size ≤ B) : IntsIn w' v l := by
  rcases h with h | ⟨x, cap, e, h1, h2, h3⟩
  · exact Or.inl h
  · refine Or.inr ⟨x, cap, e, h1, h2.imp id (fun h => Nat.lt_of_lt_of_le h k.size), fun j u hu => ?_⟩
    have hj : j < l.length := by
      have := (List.getElem?_eq_some_iff.1 hu).1
      rw [intL_length] at this
      exact this
    refine (k.cell (p := x.add j) ?_).trans (h3 j u hu)
    rw [add_block]
    omega
theorem OwnInts.inn {w : World} {S : Nat → Prop} {D : Nat} {v : Value} {l : List Int} (h : OwnInts w S D v l) : IntsIn w v l := by
  obtain ⟨a, cap, e, h1, h2⟩ := h.at'.ex
  cases a with
  | none =>
    obtain ⟨e1, e2⟩ := h.nn _ _ e
    rw [e1, e2] at e
    exact Or.inl ⟨e, List.eq_nil_of_length_eq_zero e1⟩
  | some x =>
    subst e
    refine Or.inr ⟨x, cap, rfl, h1, ?_, h.news⟩
    rcases h2 with h2 | ⟨bk, off, e2, h3, _⟩
    · exact Or.inl h2
    · cases e2
      exact Or.inr h3
/-- The row from a place on. -/
theorem slice_from {w : World} {v : Value} {l : List Int} (h : IntsIn w v l) (k : Nat) (hk : k ≤ l.length) : ∃ u, (∀ w', (Instr.sliceAt 41 v (some (.int .i64 (k : Int))) none none).run Try.prog w' = .ok u w') ∧ IntsIn w u (l.drop k) := by
  obtain ⟨i0, hi, _, hz1, _⟩ := info_parts infoI
  have hu := Try.underlying41
  have he : Try.prog.elem 41 = 3 := by kernel_rfl
  have hu2 : Try.prog.underlying 41 = some (.slice (Try.prog.elem 41)) := by rw [he]; exact hu
  have hsz : ∀ w, (sizeOf 3).run Try.prog w = .ok 1 w := fun w => by simp [sizeOf, typeInfo, hi, hz1]
  rcases h with ⟨rfl, rfl⟩ | ⟨x, c, rfl, hc, hb, hcells⟩
  · have hk0 : k = 0 := by simpa using hk
    subst hk0
    refine ⟨.slice none 0 0, fun w' => ?_, Or.inl ⟨rfl, rfl⟩⟩
    rw [run_sliceAt_slice _ _ _ _ _ _ hu2, run_slice_l _ _ _ _ _ hu2 _ _ (by omega) (by omega), he, hsz]
    simp [Result.andThen_ok, sliced]
  · refine ⟨.slice (some (if c = k then x else x.add k)) (l.length - k) (c - k), fun w' => ?_, Or.inr ⟨_, c - k, by rw [List.length_drop], by rw [List.length_drop]; omega, ?_, fun j u hj => ?_⟩⟩
    · rw [run_sliceAt_slice _ _ _ _ _ _ hu2, run_slice_l _ _ _ _ _ hu2 _ _ (by omega) (by omega), he, hsz]
      simp only [Result.andThen_ok, sliced, Int.toNat_natCast]
      by_cases hck : c = k
      · rw [if_pos hck, if_pos hck]
      · rw [if_neg hck, if_neg hck]
        simp
    · rw [List.length_drop]
      rcases hb with hb | hb
      · exact Or.inl (by omega)
      · refine Or.inr ?_
        split
        · exact hb
        · rw [add_block]
          exact hb
    · have e : (intL l)[k + j]? = some u := by
        unfold intL at hj ⊢
        rw [List.map_drop, List.getElem?_drop] at hj
        exact hj
      have hlt : k + j < l.length := by
        have := (List.getElem?_eq_some_iff.1 e).1
        rw [intL_length] at this
        exact this
      rw [if_neg (by omega), Deep.add_add]
      exact hcells (k + j) u e
/-- A row behind one's own. -/
theorem wp_app_in {o : Oper} {a : Act} {w : World} {K : Act → World → Prop} {Q : Exit → Act → World → Prop} (s x : Operand) (ho : o.op = .call { callee := .builtin .append, args := #[s, x], argTypes := #[41, 41] }) {base n : Nat} {v u : Value} {l : List Int} {xs : List Value} (hs : a.eval s = v) (hx : a.eval x = u) (hown : w.ownsRow base 3 1 v n xs) (hu : IntsIn w u l) (hb : base ≤ w.heap.size) (hn : n + l.length ≤ 1048576)
    (h : ∀ u' w', w'.ownsRow base 3 1 u' (n + l.length) (xs ++ intL l) → Below base w w' → K (a.put o.dst u') w') : o.wp Try.prog a w K Q := by
  obtain ⟨i0, hi, hz0, hz1, hz2⟩ := info_parts infoI
  rcases hu with ⟨rfl, rfl⟩ | ⟨x0, cap, rfl, h2, _, h5⟩
  · have hrun := run_append_owned_none (P := Try.prog) (w := w) base 41 o.type 3 i0 1 Try.underlying41 hi v n xs hown
    have h' := h v w (by simpa [intL] using hown) (Below.refl _ _)
    unfold Oper.wp
    simp [execOp, ho, resolve, invoke, builtin, hx, hs, hrun, Result.andThen]
    exact h'
  · refine wp_append_own w s x 41 ho base 3 i0 _ 1 8 Try.underlying41 hi hz0 hz1 hz2 rfl (by omega) v n xs hs hown x0 l.length cap (intL l) hx (by rw [intL_length]; omega) h5 (one_intL l) (by unfold maxLen; omega) (by omega) hb ?_
    intro u' w' ho' hg _
    exact h u' w' ho' ((Below.refl _ w).grown hg hb (fun k hk => (hown.lt k hk).1))
theorem undrO {w : World} {o : Obj} {base size n : Nat} {e : TypeId} {v : Value} {xs : List Value} (h : w.ownsRow base e size v n xs) : (w.drew.alloc o).ownsRow base e size v n xs := World.ownsRow.alloc (w := w.drew) ⟨h.1, h.2⟩ o
set_option maxHeartbeats 6400000 in
set_option maxRecDepth 100000 in
theorem put_any (w : World) (S : Nat → Prop) (D : Nat) (v : Value) (l : List Int) (n : Int) (hv : OwnInts w S D v l) (hl : l.length < 65536) : Calls Try.prog 55 #[v, .int .i64 n] w fun e w' => ∃ u, e = .returned u ∧ w'.ownsRow w.heap.size 3 1 u (putL l n).length (intL (putL l n)) ∧ Below w.heap.size w w' := by
  obtain ⟨i0, hi, hz0, hz1, hz2⟩ := info_parts infoI
  obtain ⟨a, cap, rfl, hlc, hx⟩ := hv.at'.ex
  have HV : Hid _ := hv
  have HX : Hid _ := hx
  clear hx hv
  go_enter Try.func55, Try.ntmps55
  go_wp2
  go_loopw [5, 6] (fun u i wr => ∃ k : Nat, k ≤ l.length ∧ i = .int .i64 k ∧ wr.ownsRow w.heap.size 3 1 u k (intL (l.take k)) ∧ Hid (∀ j (hj : j < l.length), j < k → l[j] < n) ∧ Below w.heap.size w wr) (fun _ i _ => l.length - (intOf i).toNat)
  case atStart => exact ⟨0, Nat.zero_le _, rfl, World.ownsRow_nil _ _ _ _, fun j _ h0 => absurd h0 (Nat.not_lt_zero _), Below.refl _ _⟩
  case round =>
    obtain ⟨k, hk, rfl, hown, HN, bel⟩ := hrel
    obtain ⟨pu, nu, cu, rfl⟩ := own_form hown
    have hbs := bel.size
    by_cases hkl : k < l.length
    · rcases HX.out with h0 | ⟨bk, off, rfl, hbk, hxx⟩
      · omega
      have z0 := (bel.cell (p := ⟨bk, off + k, none⟩) (by exact hbk)).trans (hxx k hkl)
      have q0 : decide ((k : Int) < (l.length : Int)) = true := decide_eq_true (by omega)
      clear hxx
      by_cases he : l[k] < n
      · have q1 : decide (l[k] < n) = true := decide_eq_true he
        have HN2 : Hid (∀ j (hj : j < l.length), j < k + 1 → l[j] < n) := fun j hj h0 => by
          by_cases e : j = k
          · subst e
            exact he
          · exact HN.out j hj (by omega)
        have HB : Hid (intL (l.take (k + 1)) = intL (l.take k) ++ [.int .i64 l[k]]) := by
          show _ = _
          rw [List.take_succ_eq_append_getElem hkl]
          unfold intL
          rw [List.map_append]
          rfl
        clear he HN
        generalize l[k] = X at *
        go_wp2_with (at_builtin; refine wpList_append_own _ rfl (.tmp 19) (.tmp 24) 41 rfl w.heap.size 3 i0 _ 1 8 Try.underlying41 hi hz0 hz1 hz2 rfl (by decide) (.slice pu nu cu) k _ rfl (hown.alloc _) ⟨wr.heap.size, 0, none⟩ 1 1 [.int .i64 X] rfl rfl (World.news_of_block (cs := #[.int .i64 X]) (t := 3) (fr := (0, 0)) (heap_alloc_new wr _)) (by simp [Value.oneCell']) (by unfold maxLen; omega) (by omega) (by simp; omega) ?_; intro v4 w4 hrow4 hg4 _)
        have b4 : Below w.heap.size w w4 := (bel.alloc bel.size _).grown hg4 (by simp; omega) (fun q hq => (hown.lt q hq).1)
        go_roundw
        case rel => exact ⟨k + 1, hkl, by go_num, by rw [HB.out]; exact hrow4, HN2, b4⟩
        case measure => simp [intOf]; omega
      · have q1 : decide (l[k] < n) = false := decide_eq_false he
        have HP : Hid (putL l n = l.take k ++ n :: l.drop k) := put_at n l k hk HN.out (fun _ => he)
        obtain ⟨fv, hsl, hfv⟩ := slice_from HV.out.inn k hk
        have HC : Hid (IntsIn w fv (l.drop k)) := hfv
        clear he HN hfv
        generalize l[k] = X at *
        go_wp2
        refine wp_region_held_drew (S := (fun _ : World => True)) (by kernel_rfl) ?_ (fun hHeld0 => ?_)
        · trivial
        refine tk0 (.slice pu nu cu) (by kernel_rfl) (by kernel_rfl) (by kernel_rfl) (fun _ _ _ h => h) rfl (fun w hSw => by (try dsimp only at hSw); go_simp) trivial ?_
        try simp only [Act.put, List.setIfInBounds_toArray, List.set_cons_zero, List.set_cons_succ]
        refine tk1 (.int .i64 n) (by kernel_rfl) (by kernel_rfl) (by kernel_rfl) (fun _ _ _ h => h) rfl (fun w hSw => by (try dsimp only at hSw); go_simp) trivial ?_
        try simp only [Act.put, List.setIfInBounds_toArray, List.set_cons_zero, List.set_cons_succ]
        refine tk4 (.slice (some ⟨bk, off, none⟩) l.length cap) (by kernel_rfl) (by kernel_rfl) (by kernel_rfl) (fun _ _ _ h => h) rfl (fun w hSw => by (try dsimp only at hSw); go_simp) trivial ?_
        try simp only [Act.put, List.setIfInBounds_toArray, List.set_cons_zero, List.set_cons_succ]
        refine tk5 (.int .i64 (k : Int)) (by kernel_rfl) (by kernel_rfl) (by kernel_rfl) (fun _ _ _ h => h) rfl (fun w hSw => by (try dsimp only at hSw); go_simp) trivial ?_
        try simp only [Act.put, List.setIfInBounds_toArray, List.set_cons_zero, List.set_cons_succ]
        refine tk6 (fv) (by kernel_rfl) (by kernel_rfl) (by kernel_rfl) (fun _ _ _ h => h) rfl (fun w hSw => by (try dsimp only at hSw); go_simp) trivial ?_
        try simp only [Act.put, List.setIfInBounds_toArray, List.set_cons_zero, List.set_cons_succ]
        refine cl2 (by kernel_rfl) rfl (fun K hK => ?_)
        go_simp
        refine hK.out _ _ ?_ (fun hHeld => ?_)
        · trivial
        clear hK K
        try simp only [Act.put, List.setIfInBounds_toArray, List.set_cons_zero, List.set_cons_succ]
        refine cl3 (by kernel_rfl) rfl (fun K hK => ?_)
        refine wp_append_own _ (.tmp 28) (.tmp 30) 41 rfl w.heap.size 3 i0 _ 1 8 Try.underlying41 hi hz0 hz1 hz2 rfl (by omega) (.slice pu nu cu) k _ rfl (undrO hown) ⟨wr.heap.size, 0, none⟩ 1 1 [.int .i64 n] rfl rfl (World.news_of_block (cs := #[.int .i64 n]) (t := 3) (fr := (0, 0)) (heap_alloc_new wr.drew _)) (by simp [Value.oneCell']) (by unfold maxLen; omega) (by omega) (by simp; omega) ?_
        intro u3 w3 h3 g3 _
        have b3 : Below w.heap.size w w3 := ((undrB2 bel).alloc bel.size _).grown g3 (by simp; omega) (fun q hq => (hown.lt q hq).1)
        refine hK.out _ _ ?_ (fun hHeld => ?_)
        · trivial
        clear hK K
        try simp only [Act.put, List.setIfInBounds_toArray, List.set_cons_zero, List.set_cons_succ]
        refine cl7 (by kernel_rfl) rfl (fun K hK => ?_)
        refine wp_app_in (.tmp 31) (.tmp 34) rfl (base := w.heap.size) rfl rfl h3 (IntsIn.fresh HC.out b3 (Nat.le_refl _)) b3.size (by rw [List.length_drop]; omega) ?_
        intro u4 w4 h4 g4
        obtain ⟨p4, n4, q4, rfl⟩ := own_form h4
        have b4 : Below w.heap.size w w4 := b3.trans g4
        refine hK.out _ _ ?_ (fun hHeld => ?_)
        · trivial
        clear hK K
        try simp only [Act.put, List.setIfInBounds_toArray, List.set_cons_zero, List.set_cons_succ]
        refine tk8 (.slice p4 n4 q4) (by kernel_rfl) (by kernel_rfl) (by kernel_rfl) (fun _ _ _ h => h) rfl (fun w hSw => by (try dsimp only at hSw); go_simp) trivial ?_
        try simp only [Act.put, List.setIfInBounds_toArray, List.set_cons_zero, List.set_cons_succ]
        refine wpAnyH_done (by kernel_rfl) ?_ _
        go_wp2
        go_ret
        refine ⟨_, rfl, ?_, b4⟩
        rw [HP.out]
        have e4 : intL (l.take k ++ n :: l.drop k) = intL (l.take k) ++ [.int .i64 n] ++ intL (l.drop k) := by unfold intL; simp
        have e5 : (l.take k ++ n :: l.drop k).length = k + 1 + (l.drop k).length := by simp; omega
        rw [e4, e5]
        exact h4
    · have q0 : decide ((k : Int) < (l.length : Int)) = false := decide_eq_false (by omega)
      have HP : Hid (putL l n = l.take k ++ n :: l.drop k) := put_at n l k hk HN.out (fun h => absurd h hkl)
      clear HN
      obtain ⟨fv, hsl, hfv⟩ := slice_from HV.out.inn k hk
      have HC : Hid (IntsIn w fv (l.drop k)) := hfv
      clear hfv
      go_wp2
      refine wp_region_held_drew (S := (fun _ : World => True)) (by kernel_rfl) ?_ (fun hHeld0 => ?_)
      · trivial
      refine tk0 (.slice pu nu cu) (by kernel_rfl) (by kernel_rfl) (by kernel_rfl) (fun _ _ _ h => h) rfl (fun w hSw => by (try dsimp only at hSw); go_simp) trivial ?_
      try simp only [Act.put, List.setIfInBounds_toArray, List.set_cons_zero, List.set_cons_succ]
      refine tk1 (.int .i64 n) (by kernel_rfl) (by kernel_rfl) (by kernel_rfl) (fun _ _ _ h => h) rfl (fun w hSw => by (try dsimp only at hSw); go_simp) trivial ?_
      try simp only [Act.put, List.setIfInBounds_toArray, List.set_cons_zero, List.set_cons_succ]
      refine tk4 (.slice a l.length cap) (by kernel_rfl) (by kernel_rfl) (by kernel_rfl) (fun _ _ _ h => h) rfl (fun w hSw => by (try dsimp only at hSw); go_simp) trivial ?_
      try simp only [Act.put, List.setIfInBounds_toArray, List.set_cons_zero, List.set_cons_succ]
      refine tk5 (.int .i64 (k : Int)) (by kernel_rfl) (by kernel_rfl) (by kernel_rfl) (fun _ _ _ h => h) rfl (fun w hSw => by (try dsimp only at hSw); go_simp) trivial ?_
      try simp only [Act.put, List.setIfInBounds_toArray, List.set_cons_zero, List.set_cons_succ]
      refine tk6 (fv) (by kernel_rfl) (by kernel_rfl) (by kernel_rfl) (fun _ _ _ h => h) rfl (fun w hSw => by (try dsimp only at hSw); go_simp) trivial ?_
      try simp only [Act.put, List.setIfInBounds_toArray, List.set_cons_zero, List.set_cons_succ]
      refine cl2 (by kernel_rfl) rfl (fun K hK => ?_)
      go_simp
      refine hK.out _ _ ?_ (fun hHeld => ?_)
      · trivial
      clear hK K
      try simp only [Act.put, List.setIfInBounds_toArray, List.set_cons_zero, List.set_cons_succ]
      refine cl3 (by kernel_rfl) rfl (fun K hK => ?_)
      refine wp_append_own _ (.tmp 28) (.tmp 30) 41 rfl w.heap.size 3 i0 _ 1 8 Try.underlying41 hi hz0 hz1 hz2 rfl (by omega) (.slice pu nu cu) k _ rfl (undrO hown) ⟨wr.heap.size, 0, none⟩ 1 1 [.int .i64 n] rfl rfl (World.news_of_block (cs := #[.int .i64 n]) (t := 3) (fr := (0, 0)) (heap_alloc_new wr.drew _)) (by simp [Value.oneCell']) (by unfold maxLen; omega) (by omega) (by simp; omega) ?_
      intro u3 w3 h3 g3 _
      have b3 : Below w.heap.size w w3 := ((undrB2 bel).alloc bel.size _).grown g3 (by simp; omega) (fun q hq => (hown.lt q hq).1)
      refine hK.out _ _ ?_ (fun hHeld => ?_)
      · trivial
      clear hK K
      try simp only [Act.put, List.setIfInBounds_toArray, List.set_cons_zero, List.set_cons_succ]
      refine cl7 (by kernel_rfl) rfl (fun K hK => ?_)
      refine wp_app_in (.tmp 31) (.tmp 34) rfl (base := w.heap.size) rfl rfl h3 (IntsIn.fresh HC.out b3 (Nat.le_refl _)) b3.size (by rw [List.length_drop]; omega) ?_
      intro u4 w4 h4 g4
      obtain ⟨p4, n4, q4, rfl⟩ := own_form h4
      have b4 : Below w.heap.size w w4 := b3.trans g4
      refine hK.out _ _ ?_ (fun hHeld => ?_)
      · trivial
      clear hK K
      try simp only [Act.put, List.setIfInBounds_toArray, List.set_cons_zero, List.set_cons_succ]
      refine tk8 (.slice p4 n4 q4) (by kernel_rfl) (by kernel_rfl) (by kernel_rfl) (fun _ _ _ h => h) rfl (fun w hSw => by (try dsimp only at hSw); go_simp) trivial ?_
      try simp only [Act.put, List.setIfInBounds_toArray, List.set_cons_zero, List.set_cons_succ]
      refine wpAnyH_done (by kernel_rfl) ?_ _
      go_wp2
      go_ret
      refine ⟨_, rfl, ?_, b4⟩
      rw [HP.out]
      have e4 : intL (l.take k ++ n :: l.drop k) = intL (l.take k) ++ [.int .i64 n] ++ intL (l.drop k) := by unfold intL; simp
      have e5 : (l.take k ++ n :: l.drop k).length = k + 1 + (l.drop k).length := by simp; omega
      rw [e4, e5]
      exact h4
end Go.Proofs.Ytmfadmhbkgemmaa
/-
  The document's rwlock in memory (package latchkeyref08): who holds it, whether for writing, who waits; whether one may have it; given to one. The condition: fewer than 65536 hold it.
-/
namespace Go.Proofs.Ytmfadmhbkgemmaa
open Go.RowKit

/-- A task that waits: who, for reading, blocked. -/
abbrev Wt : Type := Int × Bool × Bool
def waitC (x : Wt) : List Value := [.int .i64 x.1, .bool x.2.1, .bool x.2.2]
theorem waitC_len (x : Wt) : (waitC x).length = 3 := rfl
theorem waitC_one (x : Wt) : ∀ u ∈ waitC x, u.oneCell' = true := fun u hu => by
  simp only [waitC, List.mem_cons, List.not_mem_nil, or_false] at hu
  rcases hu with rfl | rfl | rfl <;> rfl
theorem OwnRow.ints {w : World} {S : Nat → Prop} {D : Nat} {v : Value} {l : List Int} (h : OwnRow intC w S D v l) (hlo : ∀ x ∈ l, okI x) (hl : l.length ≤ 65536) : OwnInts w S D v l := by
  refine ⟨h.at'.ints hlo hl, fun a bk off n cap h0 e1 e2 => h.own bk off n cap h0 (by rw [e1, e2]), hl, fun n cap e => ?_⟩
  obtain ⟨a, cap', e', _, h2, _⟩ := h.at'.ex
  rw [e] at e'
  simp only [Value.slice.injEq] at e'
  obtain ⟨e1, e2, e3⟩ := e'
  have := h2 e1.symm
  omega
theorem putL_mem {l : List Int} {n x : Int} (h : x ∈ putL l n) : x = n ∨ x ∈ l := by
  unfold putL at h
  rw [List.mem_append, List.mem_cons] at h
  rcases h with h | h | h
  · exact Or.inr ((List.takeWhile_sublist _).subset h)
  · exact Or.inl h
  · exact Or.inr ((List.dropWhile_sublist _).subset h)
theorem putL_length (l : List Int) (n : Int) : (putL l n).length = l.length + 1 := by
  unfold putL
  have := congrArg List.length (List.takeWhile_append_dropWhile (p := fun x => decide (x < n)) (l := l))
  rw [List.length_append] at this
  rw [List.length_append, List.length_cons]
  omega
section
variable {w w' : World} {base D : Nat} {S S' : Nat → Prop} {L L' : List Int} {wt wt' : Bool} {q q' : List Wt}
end
end Go.Proofs.Ytmfadmhbkgemmaa
