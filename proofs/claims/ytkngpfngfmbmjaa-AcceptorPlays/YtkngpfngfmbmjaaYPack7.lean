/-
  Parts of the proof, laid together: AcRows, AcDel, AcIns, AcInsB. The conditions stand at each part.
-/
import Derived.Laws.CopyOwn
import Derived.Deep.RegionLaw
import Derived.Shelf.RegionOpenPlain
import Derived.Lib.AppendZerosOnto
import Derived.Lib.Overlaps
import Derived.Test.YtkngpfngfmbmjaaYPack6
/-
  Rows of structs in a block of one's own: a piece copied over another, pieces cleared, cut off at either end. No condition.
-/
namespace Go.Proofs.Ytkngpfngfmbmjaa
open Go.RowKit

section
variable {P : Program} {w : World}
/-- A piece of k cells each, copied over another one. -/
theorem run_copyK (dT sT ty elem : TypeId) (k g o dLen dCap : Nat) (ad : Addr) (sLen sCap n : Nat) (cs : List Value) (cur : List Value) (t : TypeId)
    (hu : P.underlying dT = some (.slice elem)) (hs : (P.info? elem).map (·.size) = some k) (hn : n = Nat.min sLen dLen) (hl : cs.length = n * k)
    (hg : w.heap[g]? = some (.cells cur.toArray t (0, 0))) (hsrc : ∀ j v, cs[j]? = some v → w.cell? (ad.add j) = some v) (hfit : o + cs.length ≤ cur.length) (h1 : ∀ v ∈ cs, v.oneCell' = true) :
    (Builtin.copy_ #[dT, sT] ty #[.slice (some ⟨g, o, none⟩) dLen dCap, .slice (some ad) sLen sCap]).run P w = .ok (goInt n) (w.setRow g (splice cur o cs).toArray) := by
  have hfc := run_firstCells_some (P := P) w k n ad sLen sCap cs hl hsrc
  have hst := run_storeCells_at P g o t cs 0 cur.toArray w hg (by simpa using hfit) h1
  simp only [Nat.add_zero, List.append_assoc] at hst
  cases hq : P.info? elem with
  | none => simp [hq] at hs
  | some i =>
    have hi : i.size = k := by simpa [hq] using hs
    simp [Builtin.copy_, run_underlying hu, Builtin.lenOf, sizeOf, typeInfo, hq, hi, ← hn, hfc, hst, splice]
theorem splice_grown {g o : Nat} {cs cur : List Value} {t : TypeId} (hg : w.heap[g]? = some (.cells cur.toArray t (0, 0))) : (w.setRow g (splice cur o cs).toArray).heap[g]? = some (.cells (splice cur o cs).toArray t (0, 0)) ∧ w.grownBy (w.setRow g (splice cur o cs).toArray) (some g) :=
  ⟨setRow_heap w g _ _ t _ hg, ⟨rfl, rfl, rfl, by simp [World.setRow], fun k _ hk => setRow_other w g k _ (fun e => hk (by rw [e]))⟩⟩
theorem wp_copyK {o : Oper} {a : Act} {K : Act → World → Prop} {Q : Exit → Act → World → Prop} (d s : Operand) (dT sT : TypeId) (ho : o.op = .call { callee := .builtin .copy, args := #[d, s], argTypes := #[dT, sT] })
    (v u : Value) (hd : a.eval d = v) (hs : a.eval s = u) {v' : Value} {w' : World} (hr : (Builtin.copy_ #[dT, sT] o.type #[v, u]).run P w = .ok v' w') (h : K (a.put o.dst v') w') : o.wp P a w K Q := by
  unfold Oper.wp execOp
  simp only [ho, resolve, invoke, builtin, Sem.run_bind, Sem.run_pure, Result.andThen_ok, List.map_toArray, List.map_cons, List.map_nil, hd, hs, hr]
  exact h
/-- In a walk. -/
theorem wpList_copyK {ops : Array Oper} {rest : List Oper} {o : Oper} {a : Act} {Q : Exit → Act → World → Prop} (hgd : o.guard = none) (d s : Operand) (dT sT : TypeId) (ho : o.op = .call { callee := .builtin .copy, args := #[d, s], argTypes := #[dT, sT] })
    (elem : TypeId) (k g off dLen dCap : Nat) (ad : Addr) (sLen sCap n : Nat) (cs cur : List Value) (t : TypeId) (hd : a.eval d = .slice (some ⟨g, off, none⟩) dLen dCap) (hs : a.eval s = .slice (some ad) sLen sCap)
    (hu : P.underlying dT = some (.slice elem)) (hz : (P.info? elem).map (·.size) = some k) (hn : n = Nat.min sLen dLen) (hl : cs.length = n * k)
    (hg : w.heap[g]? = some (.cells cur.toArray t (0, 0))) (hsrc : ∀ j v, cs[j]? = some v → w.cell? (ad.add j) = some v) (hfit : off + cs.length ≤ cur.length) (h1 : ∀ v ∈ cs, v.oneCell' = true)
    (h : ∀ w', w'.heap[g]? = some (.cells (splice cur off cs).toArray t (0, 0)) → w.grownBy w' (some g) → wpList P ops Q rest (a.put o.dst (goInt n)) w') : wpList P ops Q (o :: rest) a w :=
  wpList_plain hgd fun _ hK => wp_copyK d s dT sT ho _ _ hd hs (run_copyK dT sT _ elem k g off dLen dCap ad sLen sCap n cs cur t hu hz hn hl hg hsrc hfit h1) (hK _ _ (h _ (splice_grown hg).1 (splice_grown hg).2))
/-- .. and in a region that draws its order. -/
theorem step_copyK {ops : Array Oper} {o : Oper} {a : Act} {K : Act → World → Prop} {Q : Exit → Act → World → Prop} {E : Prop} (hgd : o.guard = none) (d s : Operand) (dT sT : TypeId) (ho : o.op = .call { callee := .builtin .copy, args := #[d, s], argTypes := #[dT, sT] })
    (elem : TypeId) (k g off dLen dCap : Nat) (ad : Addr) (sLen sCap n : Nat) (cs cur : List Value) (t : TypeId) (hd : a.eval d = .slice (some ⟨g, off, none⟩) dLen dCap) (hs : a.eval s = .slice (some ad) sLen sCap)
    (hu : P.underlying dT = some (.slice elem)) (hz : (P.info? elem).map (·.size) = some k) (hn : n = Nat.min sLen dLen) (hl : cs.length = n * k)
    (hg : w.heap[g]? = some (.cells cur.toArray t (0, 0))) (hsrc : ∀ j v, cs[j]? = some v → w.cell? (ad.add j) = some v) (hfit : off + cs.length ≤ cur.length) (h1 : ∀ v ∈ cs, v.oneCell' = true)
    (h : K (a.put o.dst (goInt n)) (w.setRow g (splice cur off cs).toArray)) : if Region.wanted o (yielded ops a.tmps) = true then Oper.wp P o a w K Q else E := by
  have hw : Region.wanted o (yielded ops a.tmps) = true := by simp [Region.wanted, hgd]
  rw [if_pos hw]
  exact wp_copyK d s dT sT ho _ _ hd hs (run_copyK dT sT _ elem k g off dLen dCap ad sLen sCap n cs cur t hu hz hn hl hg hsrc hfit h1) h
/-- Elements of k cells each, set to zero. -/
theorem run_clearK (t e ty : TypeId) (z : Value) (ht : P.underlying t = some (.slice e)) (hv : (P.info? e).map (·.zero) = some (some z)) (g o n c : Nat) (hn : 0 < n) (cur : List Value) (T : TypeId)
    (hg : w.heap[g]? = some (.cells cur.toArray T (0, 0))) (hfit : o + n * z.cells.size ≤ cur.length) (h1 : ∀ u ∈ (Builtin.zeroCells z.cells n).toList, u.oneCell' = true) :
    (Builtin.clear_ #[t] ty #[.slice (some ⟨g, o, none⟩) n c]).run P w = .ok (.tuple #[]) (w.setRow g (splice cur o (Builtin.zeroCells z.cells n).toList).toArray) := by
  have hst := run_storeCells_at P g o T (Builtin.zeroCells z.cells n).toList 0 cur.toArray w hg (by simpa [Builtin.zeroCells] using hfit) h1
  simp only [Nat.add_zero, List.append_assoc] at hst
  cases hq : P.info? e with
  | none => simp [hq] at hv
  | some i =>
    have hi : i.zero = some z := by simpa [hq] using hv
    obtain ⟨m, rfl⟩ : ∃ m, n = m + 1 := ⟨n - 1, by omega⟩
    simp [Builtin.clear_, run_underlying ht, zeroValue, typeInfo, hq, hi, hst, splice]
theorem wp_clearK {o : Oper} {a : Act} {K : Act → World → Prop} {Q : Exit → Act → World → Prop} (d : Operand) (dT : TypeId) (ho : o.op = .call { callee := .builtin .clear, args := #[d], argTypes := #[dT] })
    (v : Value) (hd : a.eval d = v) {v' : Value} {w' : World} (hr : (Builtin.clear_ #[dT] o.type #[v]).run P w = .ok v' w') (h : K (a.put o.dst v') w') : o.wp P a w K Q := by
  unfold Oper.wp execOp
  simp only [ho, resolve, invoke, builtin, Sem.run_bind, Sem.run_pure, Result.andThen_ok, List.map_toArray, List.map_cons, List.map_nil, hd, hr]
  exact h
theorem wpList_clearK {ops : Array Oper} {rest : List Oper} {o : Oper} {a : Act} {Q : Exit → Act → World → Prop} (hgd : o.guard = none) (d : Operand) (dT : TypeId) (ho : o.op = .call { callee := .builtin .clear, args := #[d], argTypes := #[dT] })
    (e : TypeId) (z : Value) (g off n c : Nat) (cur : List Value) (T : TypeId) (hd : a.eval d = .slice (some ⟨g, off, none⟩) n c) (ht : P.underlying dT = some (.slice e)) (hv : (P.info? e).map (·.zero) = some (some z)) (hn : 0 < n)
    (hg : w.heap[g]? = some (.cells cur.toArray T (0, 0))) (hfit : off + n * z.cells.size ≤ cur.length) (h1 : ∀ u ∈ (Builtin.zeroCells z.cells n).toList, u.oneCell' = true)
    (h : ∀ w', w'.heap[g]? = some (.cells (splice cur off (Builtin.zeroCells z.cells n).toList).toArray T (0, 0)) → w.grownBy w' (some g) → wpList P ops Q rest (a.put o.dst (.tuple #[])) w') : wpList P ops Q (o :: rest) a w :=
  wpList_plain hgd fun _ hK => wp_clearK d dT ho _ hd (run_clearK dT e _ z ht hv g off n c hn cur T hg hfit h1) (hK _ _ (h _ (splice_grown hg).1 (splice_grown hg).2))
end
/-- A row from a place on, up to a place. -/
theorem sl_from (g n c i : Nat) (hi : i ≤ n) (hc : i < c) (w' : World) : (Instr.sliceAt 22 (.slice (some ⟨g, 0, none⟩) n c) (some (.int .i64 (i : Int))) none none).run Try.prog w' = .ok (.slice (some ⟨g, i * 7, none⟩) (n - i) (c - i)) w' := by
  have he : Try.prog.elem 22 = 36 := by kernel_rfl
  have hu : Try.prog.underlying 22 = some (.slice (Try.prog.elem 22)) := by rw [he]; exact Try.underlying22
  rw [run_sliceAt_slice _ _ _ _ _ _ hu, run_slice_l _ _ _ _ _ hu _ _ (by omega) (by omega), he]
  have hsz : (sizeOf 36).run Try.prog w' = .ok 7 w' := Try.sizeOf36 w'
  rw [hsz]
  have hne : ¬ c = i := by omega
  simp [Result.andThen_ok, sliced, hne, Addr.add_lit]
theorem sl_to (g n c i : Nat) (hc : i ≤ c) (w' : World) : (Instr.sliceAt 22 (.slice (some ⟨g, 0, none⟩) n c) none (some (.int .i64 (i : Int))) none).run Try.prog w' = .ok (.slice (some ⟨g, 0, none⟩) i c) w' := by
  have he : Try.prog.elem 22 = 36 := by kernel_rfl
  have hu : Try.prog.underlying 22 = some (.slice (Try.prog.elem 22)) := by rw [he]; exact Try.underlying22
  rw [run_sliceAt_slice _ _ _ _ _ _ hu, run_slice_h _ _ _ _ _ hu _ _ (by omega) (by omega), he]
  have hsz : (sizeOf 36).run Try.prog w' = .ok 7 w' := Try.sizeOf36 w'
  rw [hsz]
  by_cases h0 : c = 0
  · subst h0
    obtain rfl : i = 0 := by omega
    simp [Result.andThen_ok, sliced]
  · simp [Result.andThen_ok, sliced, h0, Addr.add_lit]
end Go.Proofs.Ytkngpfngfmbmjaa
/-
  Package slices at entries: the first entries of a row deleted. No condition.
-/
namespace Go.Proofs.Ytkngpfngfmbmjaa
open Go.RowKit

section
variable {P : Program} {w : World}
theorem step_appRoom {ops : Array Oper} {o : Oper} {a : Act} {K : Act → World → Prop} {Q : Exit → Act → World → Prop} {E : Prop} (hgd : o.guard = none) (s x : Operand) (t : TypeId) (ho : o.op = .call { callee := .builtin .append, args := #[s, x], argTypes := #[t, t] })
    (e : TypeId) (i : TypeInfo) (k : Nat) (ht : P.underlying t = some (.slice e)) (hi : P.info? e = some i) (hk : i.size = k) (g n c : Nat) (hs : a.eval s = .slice (some ⟨g, 0, none⟩) n c) (ad : Addr) (m c2 : Nat) (hx : a.eval x = .slice (some ad) m c2) (news : List Value) (hl : news.length = m * k) (hnews : ∀ j u, news[j]? = some u → w.cell? (ad.add j) = some u) (h1 : ∀ u ∈ news, u.oneCell' = true)
    (cur : List Value) (hg : w.heap[g]? = some (.cells cur.toArray e (0, 0))) (hroom : n + m ≤ c) (o7 nm : Nat) (ho7 : n * k = o7) (hnm : n + m = nm) (hfit : o7 + news.length ≤ cur.length)
    (h : K (a.put o.dst (.slice (some ⟨g, 0, none⟩) nm c)) (w.setRow g (splice cur o7 news).toArray)) : if Region.wanted o (yielded ops a.tmps) = true then Oper.wp P o a w K Q else E := by
  subst hk ho7 hnm
  have hw : Region.wanted o (yielded ops a.tmps) = true := by simp [Region.wanted, hgd]
  rw [if_pos hw]
  have hrun : (Builtin.append_ #[t, t] o.type #[.slice (some ⟨g, 0, none⟩) n c, .slice (some ad) m c2]).run P w = .ok (.slice (some ⟨g, 0, none⟩) (n + m) c) (w.setRow g (splice cur (n * i.size) news).toArray) := by
    rw [run_append_room (P := P) w t o.type e i ht hi g n c cur.toArray hg ad m c2 news hl hnews h1 hroom (by simpa using hfit)]
    simp [splice]
  unfold Oper.wp execOp
  simp only [ho, resolve, invoke, builtin, Sem.run_bind, Sem.run_pure, Result.andThen_ok, List.map_toArray, List.map_cons, List.map_nil, hs, hx, hrun]
  exact h
end
theorem splice_len {α : Type} (L : List α) (o : Nat) (cs : List α) (h : o + cs.length ≤ L.length) : (splice L o cs).length = L.length := by
  unfold splice
  simp
  omega
theorem splice_at {α : Type} (L : List α) (o : Nat) (cs : List α) (h : o + cs.length ≤ L.length) (j : Nat) : (splice L o cs)[j]? = if j < o then L[j]? else if j < o + cs.length then cs[j - o]? else L[j]? := by
  have h2 : ∀ (A B : List α), (A ++ B)[j]? = if j < A.length then A[j]? else B[j - A.length]? := fun A B => by
    by_cases c : j < A.length
    · rw [if_pos c, List.getElem?_append_left c]
    · rw [if_neg c, List.getElem?_append_right (by omega)]
  unfold splice
  rw [h2, List.length_take, Nat.min_eq_left (by omega)]
  by_cases c1 : j < o
  · rw [if_pos c1, if_pos c1, List.getElem?_take, if_pos c1]
  · rw [if_neg c1, if_neg c1]
    by_cases c2 : j < o + cs.length
    · rw [if_pos c2, List.getElem?_append_left (by omega)]
    · rw [if_neg c2, List.getElem?_append_right (by omega), List.getElem?_drop]
      congr 1
      omega
/-- What it answers: the row without its first entries, in the same block. -/
structure DelPost (es : List En) (j : Nat) (base : Nat) (v : Value) (w : World) (e : Ending) (w' : World) : Prop where
  ex : ∃ v', e = .returned v' ∧ OwnEn w' base v' (es.drop j) ∧ w.grownBy w' v.ownBlock ∧ v'.ownBlock = v.ownBlock
theorem sl_mid (g n c i m : Nat) (him : i < m) (hm : m ≤ c) (w' : World) : (Instr.sliceAt 22 (.slice (some ⟨g, 0, none⟩) n c) (some (.int .i64 (i : Int))) (some (.int .i64 (m : Int))) none).run Try.prog w' = .ok (.slice (some ⟨g, i * 7, none⟩) (m - i) (c - i)) w' := by
  have he : Try.prog.elem 22 = 36 := by kernel_rfl
  have hu : Try.prog.underlying 22 = some (.slice (Try.prog.elem 22)) := by rw [he]; exact Try.underlying22
  rw [run_sliceAt_slice _ _ _ _ _ _ hu, run_slice_lh _ _ _ _ _ hu _ _ _ _ (by omega) (by omega) (by omega), he]
  have hsz : (sizeOf 36).run Try.prog w' = .ok 7 w' := Try.sizeOf36 w'
  rw [hsz]
  have hne : ¬ c = i := by omega
  simp [Result.andThen_ok, sliced, hne, Addr.add_lit]
/-- A row from a place on, where the place may be its end. -/
theorem sl_rest {w : World} {base g n c : Nat} {es : List En} (ho : OwnEn w base (.slice (some ⟨g, 0, none⟩) n c) es) (hn : n = es.length) (j : Nat) (hj : j ≤ n) : ∃ ad : Addr, (∀ w', (Instr.sliceAt 22 (.slice (some ⟨g, 0, none⟩) n c) (some (.int .i64 (j : Int))) none none).run Try.prog w' = .ok (.slice (some ad) (n - j) (c - j)) w') ∧ ∀ t u, (rowL enC (es.drop j))[t]? = some u → w.cell? (ad.add t) = some u := by
  subst hn
  have hlen : (rowL enC es).length = es.length * 7 := rowL_length enC_len es
  have hca : ∀ t u, (rowL enC (es.drop j))[t]? = some u → w.cell? ⟨g, j * 7 + t, none⟩ = some u := fun t u ht => by
    rw [rowL_drop enC_len, List.getElem?_drop] at ht
    have h1 : j * 7 + t < es.length * 7 := by rw [← hlen]; exact (List.getElem?_eq_some_iff.1 ht).1
    rw [World.ownsRow.cellAt ho (j * 7 + t) h1]
    exact ht
  by_cases hc : j < c
  · exact ⟨⟨g, j * 7, none⟩, fun w' => sl_from g es.length c j hj hc w', fun t u ht => by rw [Addr.add_lit]; exact hca t u ht⟩
  · have hcn : es.length ≤ c := by
      rcases ho.2 with ⟨e, _⟩ | ⟨g', cap, cur, e, _, _, h, _⟩
      · cases e
      · injection e with _ _ e3
        omega
    obtain rfl : j = es.length := by omega
    have hce : c = es.length := by omega
    refine ⟨⟨g, 0, none⟩, fun w' => ?_, fun t u ht => ?_⟩
    · have he : Try.prog.elem 22 = 36 := by kernel_rfl
      have hu : Try.prog.underlying 22 = some (.slice (Try.prog.elem 22)) := by rw [he]; exact Try.underlying22
      rw [run_sliceAt_slice _ _ _ _ _ _ hu, run_slice_l _ _ _ _ _ hu _ _ (by omega) (by omega), he]
      have hsz : (sizeOf 36).run Try.prog w' = .ok 7 w' := Try.sizeOf36 w'
      rw [hsz]
      simp [Result.andThen_ok, sliced, hce]
    · rw [List.drop_length] at ht
      simp [rowL] at ht
abbrev zeroE : Value := .agg #[.int .i64 0, .int .i64 0, .int .i64 0, .int .i64 0, .int .i64 0, .string ⟨#[]⟩, .int .i64 0]
theorem zeroE_one (n : Nat) : ∀ u ∈ (Builtin.zeroCells zeroE.cells n).toList, u.oneCell' = true := by
  intro u hu
  simp only [Builtin.zeroCells, Value.cells] at hu
  simp only [List.mem_map, Array.toList_map, Array.toList_range] at hu
  obtain ⟨i, _, rfl⟩ := hu
  have h7 : i % 7 < 7 := Nat.mod_lt _ (by decide)
  show ((#[.int .i64 0, .int .i64 0, .int .i64 0, .int .i64 0, .int .i64 0, .string ⟨#[]⟩, .int .i64 0] : Array Value)[i % 7]!).oneCell' = true
  generalize i % 7 = r at h7
  match r, h7 with
  | 0, _ | 1, _ | 2, _ | 3, _ | 4, _ | 5, _ | 6, _ => rfl
set_option maxHeartbeats 6400000 in
set_option maxRecDepth 100000 in
theorem pdel_any (w : World) (base : Nat) (v : Value) (es : List En) (j : Nat) (ho : OwnEn w base v es) (hj : j ≤ es.length) (hl : es.length ≤ 1099511627776) :
    Calls Try.prog 39 #[v, .int .i64 0, .int .i64 (j : Int)] w (DelPost es j base v w) := by
  rcases ho.2 with ⟨rfl, h0⟩ | ⟨g, c, cur, rfl, hbg, hb, hc, hm, hs, htk⟩
  · obtain rfl : es = [] := List.eq_nil_of_length_eq_zero h0
    obtain rfl : j = 0 := by simpa using hj
    have HO : Hid (OwnEn w base (.slice none 0 0) ([] : List En)) := ho
    clear ho hj
    go_enter Try.func39, Try.ntmps39
    go_wp2
    go_ret
    exact ⟨_, rfl, HO.out, grown_refl w _, rfl⟩
  · by_cases hj0 : j = 0
    · subst hj0
      have HO : Hid _ := ho
      have b1 : (es.length : Int) ≤ (c : Int) := by omega
      clear ho hj htk hb hbg hs hm
      go_enter Try.func39, Try.ntmps39
      go_wp2
      go_ret
      exact ⟨_, rfl, HO.out, grown_refl w _, rfl⟩
    · obtain ⟨n, hn⟩ : ∃ n, n = es.length := ⟨_, rfl⟩
      obtain ⟨m, hmn⟩ : ∃ m, n - j = m := ⟨_, rfl⟩
      rw [← hn] at ho hj hl hc htk ⊢
      obtain ⟨ad, hsl, hsrc⟩ := sl_rest (n := n) (by rw [hn] at ho ⊢; exact ho) hn j hj
      rw [hmn] at hsl
      have b1 : (n : Int) ≤ (c : Int) := by omega
      have b2 : (j : Int) ≤ (n : Int) := by omega
      have b3 : ¬ (0 : Int) = (j : Int) := by omega
      have b4 : ((0 : Int) == (j : Int)) = false := by simpa using b3
      have hto := sl_to g n c 0 (Nat.zero_le _)
      have hmi := sl_mid g m c m n (by omega) (by omega)
      obtain ⟨i0, hi0, hz0, hz1, hz2⟩ := info_parts infoEn
      have hnl : (rowL enC (es.drop j)).length = m * 7 := by rw [rowL_length enC_len, List.length_drop, ← hn, hmn]
      obtain ⟨news, hnews⟩ : ∃ news, news = rowL enC (es.drop j) := ⟨_, rfl⟩
      have h1 : ∀ u ∈ news, u.oneCell' = true := by rw [hnews]; exact rowL_one_cell enC_one _
      rw [← hnews] at hnl hsrc
      have hcl : cur.toList.length = c * 7 := by rw [Array.length_toList, hs]
      have HS : Hid (∀ t u, news[t]? = some u → w.drew.cell? (ad.add t) = some u) := hsrc
      have HB : Hid (w.drew.heap[g]? = some (.cells cur.toList.toArray 36 (0, 0))) := by show w.heap[g]? = _; rw [Array.toArray_toList]; exact hb
      have H1 : Hid _ := h1
      have HL : Hid (news.length = m * 7 ∧ cur.toList.length = c * 7 ∧ m < n ∧ n ≤ c ∧ n - m = j) := ⟨hnl, hcl, by omega, hc, by omega⟩
      have HN : Hid (news = rowL enC (es.drop j) ∧ base ≤ g ∧ (es.drop j).length = m ∧ c ≤ maxLen) := ⟨hnews, hbg, by rw [List.length_drop, ← hn, hmn], hm⟩
      obtain ⟨W1, hW1⟩ : ∃ W1, W1 = w.drew.setRow g (splice cur.toList 0 news).toArray := ⟨_, rfl⟩
      have HW : Hid (w.drew.setRow g (splice cur.toList 0 news).toArray = W1) := hW1.symm
      have HG : Hid (W1.heap[g]? = some (.cells (splice cur.toList 0 news).toArray 36 (0, 0)) ∧ w.grownBy W1 (some g)) := by
        rw [hW1]
        have := splice_grown (w := w.drew) (o := 0) (cs := news) HB.out
        exact ⟨this.1, ⟨this.2.os, this.2.tape, this.2.output, this.2.size, this.2.block⟩⟩
      clear hW1 hn hmn ho htk hb hs hsrc h1 hnews hnl hcl hbg hm hc
      go_enter Try.func39, Try.ntmps39
      have mixed : Try.prog.follows Departure.mixedOrders = true := by kernel_rfl
      go_wp2_with fail
      go_region_law_o (refine step_appRoom rfl (.tmp 22) (.tmp 25) 22 rfl 36 i0 7 Try.underlying22 hi0 hz1 g 0 c (by simp [Act.eval, Act.put]) ad m (c - j) (by simp [Act.eval, Act.put]) news HL.out.1 HS.out H1.out cur.toList HB.out (by have := HL.out; omega) 0 m rfl (Nat.zero_add _) (by have := HL.out; omega) ?_)
      rw [HW.out]
      go_wp2_with (refine wpList_clearK rfl (.tmp 31) 22 rfl 36 _ g (m * 7) (n - m) (c - m) (splice cur.toList 0 news) 36 rfl Try.underlying22 (by rw [hi0]; simp [hz0]) (by have := HL.out; omega) HG.out.1 (by have := HL.out; rw [splice_len _ _ _ (by omega)]; show m * 7 + (n - m) * 7 ≤ _; omega) (zeroE_one _) ?_; intro w3 h3 g3; have H3 : Hid _ := h3; have G3 : Hid _ := g3; clear h3 g3)
      go_ret
      have hL := HL.out
      have hN := HN.out
      have zl : (Builtin.zeroCells zeroE.cells (n - m)).toList.length = (n - m) * 7 := by simp [Builtin.zeroCells, Value.cells]
      have l1 : (splice cur.toList 0 news).length = c * 7 := by rw [splice_len _ _ _ (by omega)]; exact hL.2.1
      have l2 : (splice (splice cur.toList 0 news) (m * 7) (Builtin.zeroCells zeroE.cells (n - m)).toList).length = c * 7 := by rw [splice_len _ _ _ (by rw [zl, l1]; omega)]; exact l1
      refine ⟨_, rfl, ⟨rowL_length enC_len _, Or.inr ⟨g, c, _, by rw [hN.2.2.1]; rfl, hN.2.1, H3.out, by rw [hN.2.2.1]; omega, hN.2.2.2, by rw [List.size_toArray, l2], ?_⟩⟩, ?_, rfl⟩
      · rw [hN.2.2.1, ← hN.1]
        apply List.ext_getElem?
        intro t
        rw [List.getElem?_take]
        show (if t < m * 7 then (splice (splice cur.toList 0 news) (m * 7) (Builtin.zeroCells zeroE.cells (n - m)).toList)[t]? else none) = _
        by_cases ht : t < m * 7
        · rw [if_pos ht, splice_at _ _ _ (by rw [zl, l1]; omega), if_pos ht, splice_at _ _ _ (by omega), if_neg (Nat.not_lt_zero _), if_pos (by omega), Nat.sub_zero]
        · rw [if_neg ht, List.getElem?_eq_none (by omega)]
      · have g1 := HG.out.2
        have g2 := G3.out
        exact ⟨g2.os.trans g1.os, g2.tape.trans g1.tape, g2.output.trans g1.output, Nat.le_trans g1.size g2.size, fun b hb hne => (g2.block b (Nat.lt_of_lt_of_le hb g1.size) hne).trans (g1.block b hb hne)⟩
end Go.Proofs.Ytkngpfngfmbmjaa
/-
  Package slices at entries: an entry inserted into a row of one's own. The condition: at most 2^40 entries.
-/
namespace Go.Proofs.Ytkngpfngfmbmjaa
open Go.RowKit

theorem rowL_ins (es : List En) (x : En) (i : Nat) (hi : i ≤ es.length) : rowL enC (es.take i ++ x :: es.drop i) = (rowL enC es).take (i * 7) ++ (enC x ++ (rowL enC es).drop (i * 7)) := by
  have h1 : rowL enC (es.take i) = (rowL enC es).take (i * 7) := by
    have h2 : rowL enC es = rowL enC (es.take i) ++ rowL enC (es.drop i) := by rw [← rowL_append, List.take_append_drop]
    have h3 : (rowL enC (es.take i)).length = i * 7 := by rw [rowL_length enC_len, List.length_take]; omega
    rw [h2, ← h3, List.take_left]
  have h5 : rowL enC (x :: es.drop i) = enC x ++ rowL enC (es.drop i) := by
    show List.flatMap _ _ = _
    rw [List.flatMap_cons]
    rfl
  rw [rowL_append, h1, h5, rowL_drop enC_len]
theorem app3_at {α : Type} (A X B : List α) (j : Nat) : (A ++ (X ++ B))[j]? = if j < A.length then A[j]? else if j < A.length + X.length then X[j - A.length]? else B[j - (A.length + X.length)]? := by
  by_cases c1 : j < A.length
  · rw [if_pos c1, List.getElem?_append_left c1]
  · rw [if_neg c1, List.getElem?_append_right (by omega)]
    by_cases c2 : j < A.length + X.length
    · rw [if_pos c2, List.getElem?_append_left (by omega)]
    · rw [if_neg c2, List.getElem?_append_right (by omega)]
      congr 1
      omega
/-- In place: what stands from a place on goes up, then the new one is laid. -/
theorem room_row {L R X : List Value} {a n : Nat} (hR : L.take n = R) (hn : R.length = n) (ha : a ≤ n) (hX : X.length = 7) (hL : n + 7 ≤ L.length) : (splice (splice L (a + 7) (R.drop a)) a X).take (n + 7) = R.take a ++ (X ++ R.drop a) := by
  have l1 : (R.drop a).length = n - a := by rw [List.length_drop, hn]
  have l2 : (R.take a).length = a := by rw [List.length_take]; omega
  have l3 : (splice L (a + 7) (R.drop a)).length = L.length := splice_len _ _ _ (by rw [l1]; omega)
  apply List.ext_getElem?
  intro j
  rw [List.getElem?_take, app3_at, l2, hX, splice_at _ _ _ (by rw [l3, hX]; omega), splice_at _ _ _ (by rw [l1]; omega), l1, hX]
  by_cases c1 : j < a
  · rw [if_pos (by omega), if_pos c1, if_pos (by omega), if_pos c1, ← hR, List.getElem?_take, if_pos c1, List.getElem?_take, if_pos (by omega)]
  · by_cases c2 : j < a + 7
    · rw [if_pos (by omega), if_neg c1, if_pos c2, if_neg c1, if_pos c2]
    · by_cases c3 : j < n + 7
      · rw [if_pos c3, if_neg c1, if_neg c2, if_neg (by omega), if_pos (by omega), if_neg c1, if_neg c2]
      · rw [if_neg c3, if_neg c1, if_neg c2, List.getElem?_eq_none (by omega)]
/-- In a new row: the new one is laid, then what stood from the place on. -/
theorem grow_row {L R X : List Value} {a n : Nat} (hR : L.take a = R.take a) (hn : R.length = n) (ha : a ≤ n) (hX : X.length = 7) (hL : n + 7 ≤ L.length) : (splice (splice L a X) (a + 7) (R.drop a)).take (n + 7) = R.take a ++ (X ++ R.drop a) := by
  have l1 : (R.drop a).length = n - a := by rw [List.length_drop, hn]
  have l2 : (R.take a).length = a := by rw [List.length_take]; omega
  have l3 : (splice L a X).length = L.length := splice_len _ _ _ (by rw [hX]; omega)
  apply List.ext_getElem?
  intro j
  rw [List.getElem?_take, app3_at, l2, hX, splice_at _ _ _ (by rw [l3, l1]; omega), splice_at _ _ _ (by rw [hX]; omega), l1, hX]
  by_cases c1 : j < a
  · have h := congrArg (fun l => l[j]?) hR
    simp only [List.getElem?_take, if_pos c1] at h
    rw [if_pos (by omega), if_pos (by omega), if_pos c1, if_pos c1, h, List.getElem?_take, if_pos c1]
  · by_cases c2 : j < a + 7
    · rw [if_pos (by omega), if_pos c2, if_neg c1, if_pos c2, if_neg c1, if_pos c2]
    · by_cases c3 : j < n + 7
      · rw [if_pos c3, if_neg c2, if_pos (by omega), if_neg c1, if_neg c2]
      · rw [if_neg c3, if_neg c1, if_neg c2, List.getElem?_eq_none (by omega)]
/-- What it answers. -/
structure InsPost (es : List En) (x : En) (i base : Nat) (v : Value) (w : World) (e : Ending) (w' : World) : Prop where
  ex : ∃ v', e = .returned v' ∧ OwnEn w' base v' (es.take i ++ x :: es.drop i) ∧ w.grownBy w' v.ownBlock ∧ (v'.ownBlock = v.ownBlock ∨ v'.ownBlock = some w.heap.size)
theorem enC_cells {w : World} {vb : Nat} {x : En} {t : TypeId} (h : w.heap[vb]? = some (.cells (enA x) t (0, 0))) : ∀ j u, (enC x)[j]? = some u → w.cell? ((⟨vb, 0, none⟩ : Addr).add j) = some u := fun j u hu => World.news_of_block h j u hu
section
variable {w : World} {base vb : Nat} {v : Value} {es : List En} {x : En} {i : Nat}
set_option maxHeartbeats 6400000 in
set_option maxRecDepth 100000 in
/-- At the end. -/
theorem pins_end (ho : OwnEn w base v es) (hb : base ≤ w.heap.size) (hl : es.length ≤ 1099511627776) (hx : w.heap[vb]? = some (.cells (enA x) 36 (0, 0))) :
    Calls Try.prog 46 #[v, .int .i64 (es.length : Int), .slice (some ⟨vb, 0, none⟩) 1 1] w (InsPost es x es.length base v w) := by
  obtain ⟨i0, hi, hz0, hz1, hz2⟩ := info_parts infoEn
  have hr := OwnEn.row ho
  obtain ⟨a0, c0, rfl⟩ := hr.form
  have ⟨u0, hu0⟩ : ∃ u0, ∀ w', (Instr.sliceAt 22 (.slice a0 es.length c0) (some (.int .i64 (es.length : Int))) none none).run Try.prog w' = .ok u0 w' := by
    have h1 := OwnRow.from (S := fun _ => True) (D := w.heap.size) ⟨hr, fun bk off n cap h0 e => ⟨trivial, by have := hr.lt h0 e; omega⟩⟩ 22 36 i0 Try.underlying22 (by kernel_rfl) hi hz1 enC_len es.length (Nat.le_refl _)
    obtain ⟨u, h2, _⟩ := h1
    exact ⟨u, h2⟩
  have HO : Hid (OwnEn w base (.slice a0 es.length c0) es) := ho
  have HX : Hid (RowAt enC w (.slice (some ⟨vb, 0, none⟩) 1 1) [x]) := RowAt.built hx rfl 1 rfl rfl
  clear ho hr hx
  go_enter Try.func46, Try.ntmps46
  go_wp2_with (at_builtin; refine wpList_app_row (k := 7) (enc := enC) (l := [x]) rfl (.tmp 23) (.tmp 24) 22 36 rfl i0 _ 64 Try.underlying22 hi hz0 hz1 hz2 rfl (by decide) enC_len enC_one (base := base) rfl rfl HO.out HX.out hb (by simp; omega) (by simp; omega) ?_; intro u6 w6 o6 a6; obtain ⟨p6, n6, q6, rfl⟩ := own_form o6; have O6 : Hid _ := o6; have A6 : Hid _ := a6; clear o6 a6)
  go_ret
  have a6 := A6.out
  refine ⟨_, rfl, ?_, ⟨a6.below.os, a6.below.tape, a6.below.output, a6.below.size, fun b h1 h2 => a6.rest b h1 h2⟩, a6.lies⟩
  rw [List.take_length, List.drop_length]
  show World.ownsRow _ _ _ _ _ _ _
  rw [rowL_append, List.length_append]
  exact O6.out
end
end Go.Proofs.Ytkngpfngfmbmjaa
/-
  Package slices at entries: an entry inserted into the midst of a row of one's own, in place or in a new row. The condition: at most 2^40 entries.
-/
namespace Go.Proofs.Ytkngpfngfmbmjaa
open Go.RowKit

section
variable {w : World} {base vb g n c : Nat} {es : List En} {x : En} {i : Nat}
theorem ownAt (ho : OwnEn w base (.slice (some ⟨g, 0, none⟩) n c) es) (hn : n = es.length) : ∃ cur : List Value, w.heap[g]? = some (.cells cur.toArray 36 (0, 0)) ∧ base ≤ g ∧ n ≤ c ∧ c ≤ maxLen ∧ cur.length = c * 7 ∧ cur.take (n * 7) = rowL enC es := by
  rcases ho.2 with ⟨e, _⟩ | ⟨g', cap, cur, e, h1, h2, h3, h4, h5, h6⟩
  · cases e
  · injection e with e1 e2 e3
    injection e1 with e1
    injection e1 with e1
    subst e1 e3 hn
    exact ⟨cur.toList, by rw [Array.toArray_toList]; exact h2, h1, h3, h4, by rw [Array.length_toList]; exact h5, h6⟩
set_option maxHeartbeats 6400000 in
set_option maxRecDepth 100000 in
/-- There is room. -/
theorem pins_room (ho : OwnEn w base (.slice (some ⟨g, 0, none⟩) n c) es) (hn : n = es.length) (hi : i < n) (hc : n + 1 ≤ c) (hl : n ≤ 1099511627776) (hx : w.heap[vb]? = some (.cells (enA x) 36 (0, 0))) (hne : vb ≠ g) :
    Calls Try.prog 46 #[.slice (some ⟨g, 0, none⟩) n c, .int .i64 (i : Int), .slice (some ⟨vb, 0, none⟩) 1 1] w (InsPost es x i base (.slice (some ⟨g, 0, none⟩) n c) w) := by
  obtain ⟨cur, hb, hbg, hnc, hcm, hcl, htk⟩ := ownAt ho hn
  have hRl : (rowL enC es).length = n * 7 := by rw [rowL_length enC_len, hn]
  obtain ⟨R, hR⟩ : ∃ R, R = rowL enC es := ⟨_, rfl⟩
  rw [← hR] at htk hRl
  obtain ⟨n1, hn1⟩ : ∃ n1 : Nat, (n : Int) + 1 = (n1 : Int) := ⟨n + 1, by omega⟩
  obtain ⟨i1, hi1⟩ : ∃ i1 : Nat, (i : Int) + 1 = (i1 : Int) := ⟨i + 1, by omega⟩
  have rw1 : IntKind.i64.wrap (i1 : Int) = (i1 : Int) := by rw [IntKind.wrap_i64]; omega
  have s1 := sl_from g n c i (by omega) (by omega)
  have s2 := sl_to g n c n1 (by omega)
  have s3 := sl_from g n1 c i1 (by omega) (by omega)
  have s4 := sl_from g n1 c i (by omega) (by omega)
  have q1 : ((i : Int) == (n : Int)) = false := by simp; omega
  have q2 : ¬ ((i : Int) = (n : Int)) := by omega
  have q3 : decide ((c : Int) < (n1 : Int)) = false := decide_eq_false (by omega)
  have q4 : ¬ ((c : Int) < (n1 : Int)) := by omega
  have hov : (callFunc 53 #[.slice (some ⟨vb, 0, none⟩) 1 1, .slice (some ⟨g, i1 * 7, none⟩) (n1 - i1) (c - i1)]).run Try.prog w = .ok (.value (.bool false)) w := by
    rw [run_callFunc_extern Try.func53 (by kernel_rfl) (by kernel_rfl) (by kernel_rfl) (e := Extern.SlicesOverlaps.overlaps #[22, 22] #[4]) (by kernel_rfl),
      Lib.run_overlaps_apart w 22 4 36 Try.underlying22 7 Try.sizeOf36 ⟨vb, 0, none⟩ ⟨g, i1 * 7, none⟩ 1 1 _ _ hne 36 36 7 (c * 7) (by simp [World.shape?, hx]) (by simp [World.shape?, hb, hcl]) (by omega) (by simp [World.frozen?, hx]) (by simp [World.frozen?, hx])]
    rfl
  have hdl : (R.drop (i * 7)).length = (n1 - i1) * 7 := by rw [List.length_drop, hRl]; omega
  have HS : Hid (∀ j u, (R.drop (i * 7))[j]? = some u → w.drew.cell? ((⟨g, i * 7, none⟩ : Addr).add j) = some u) := fun j u hu => by
    rw [List.getElem?_drop] at hu
    rw [Addr.add_lit]
    have h1 : i * 7 + j < n * 7 := by rw [← hRl]; exact (List.getElem?_eq_some_iff.1 hu).1
    show w.cell? _ = _
    have ho' : OwnEn w base (.slice (some ⟨g, 0, none⟩) es.length c) es := by rw [← hn]; exact ho
    rw [World.ownsRow.cellAt ho' (i * 7 + j) (by rw [← hn]; exact h1), ← hR]
    exact hu
  have H1 : Hid (∀ u ∈ R.drop (i * 7), u.oneCell' = true) := fun u hu => rowL_one_cell enC_one es u (by rw [← hR]; exact List.mem_of_mem_drop hu)
  have HB : Hid (w.drew.heap[g]? = some (.cells cur.toArray 36 (0, 0))) := hb
  obtain ⟨W1, hW1⟩ : ∃ W1, W1 = w.drew.setRow g (splice cur (i1 * 7) (R.drop (i * 7))).toArray := ⟨_, rfl⟩
  have HW : Hid (w.drew.setRow g (splice cur (i1 * 7) (R.drop (i * 7))).toArray = W1) := hW1.symm
  have HG : Hid (W1.heap[g]? = some (.cells (splice cur (i1 * 7) (R.drop (i * 7))).toArray 36 (0, 0)) ∧ w.grownBy W1 (some g)) := by
    rw [hW1]
    have := splice_grown (w := w.drew) (o := i1 * 7) (cs := R.drop (i * 7)) HB.out
    exact ⟨this.1, ⟨this.2.os, this.2.tape, this.2.output, this.2.size, this.2.block⟩⟩
  have HX : Hid (∀ j u, (enC x)[j]? = some u → W1.cell? ((⟨vb, 0, none⟩ : Addr).add j) = some u) := enC_cells ((HG.out.2.block vb (lt_of_block hx) (fun e => hne (Option.some.inj e))).trans hx)
  have HL : Hid ((R.drop (i * 7)).length = (n1 - i1) * 7 ∧ cur.length = c * 7 ∧ n1 = n + 1 ∧ i1 = i + 1 ∧ i < n ∧ n + 1 ≤ c ∧ R.length = n * 7 ∧ c ≤ maxLen ∧ base ≤ g) := ⟨hdl, hcl, by omega, by omega, hi, hc, hRl, hcm, hbg⟩
  have HN : Hid (n = es.length ∧ R = rowL enC es ∧ cur.take (n * 7) = R) := ⟨hn, hR, htk⟩
  have hz : (Try.prog.info? 36).map (·.size) = some 7 := sizeEnt
  have mixed : Try.prog.follows Departure.mixedOrders = true := by kernel_rfl
  clear hW1 ho hb hcl htk hR hRl hdl hn hnc hbg hcm hx hne
  go_enter Try.func46, Try.ntmps46
  go_wp2_with (simp only [hov])
  go_region_law_o (refine step_copyK rfl (.tmp 73) (.tmp 76) 22 22 rfl 36 7 g (i1 * 7) (n1 - i1) (c - i1) ⟨g, i * 7, none⟩ (n1 - i) (c - i) (n1 - i1) (R.drop (i * 7)) cur 36 (by simp [Act.eval, Act.put]) (by simp [Act.eval, Act.put]) Try.underlying22 hz (by have := HL.out; exact (Nat.min_eq_right (by omega)).symm) HL.out.1 HB.out HS.out (by have := HL.out; omega) H1.out ?_)
  rw [HW.out]
  go_wp2_with (refine wpList_copyK rfl (.tmp 80) (.tmp 81) 22 22 rfl 36 7 g (i * 7) (n1 - i) (c - i) ⟨vb, 0, none⟩ 1 1 1 (enC x) (splice cur (i1 * 7) (R.drop (i * 7))) 36 rfl rfl Try.underlying22 hz (by have := HL.out; exact (Nat.min_eq_left (by omega)).symm) rfl HG.out.1 HX.out (by have := HL.out; rw [splice_len _ _ _ (by omega), enC_len]; omega) (enC_one x) ?_; intro w3 h3 g3; have H3 : Hid _ := h3; have G3 : Hid _ := g3; clear h3 g3)
  go_ret
  have hL := HL.out
  obtain ⟨hn, hR, htk⟩ := HN.out
  have hlen : (es.take i ++ x :: es.drop i).length = n1 := by rw [List.length_append, List.length_cons, List.length_take, List.length_drop]; omega
  have l1 : (splice cur (i1 * 7) (R.drop (i * 7))).length = c * 7 := by rw [splice_len _ _ _ (by omega)]; omega
  refine ⟨_, rfl, ⟨rowL_length enC_len _, Or.inr ⟨g, c, _, by rw [hlen]; rfl, hL.2.2.2.2.2.2.2.2, H3.out, by rw [hlen]; omega, hL.2.2.2.2.2.2.2.1, by rw [List.size_toArray, splice_len _ _ _ (by rw [l1, enC_len]; omega), l1], ?_⟩⟩, ?_, Or.inl rfl⟩
  · rw [hlen, rowL_ins es x i (by omega), ← hR, hL.2.2.1, hL.2.2.2.1]
    have := room_row (X := enC x) (a := i * 7) htk hL.2.2.2.2.2.2.1 (by omega) (enC_len x) (by omega)
    rw [show (i + 1) * 7 = i * 7 + 7 by omega, show (n + 1) * 7 = n * 7 + 7 by omega]
    exact this
  · have g1 := HG.out.2
    have g2 := G3.out
    exact ⟨g2.os.trans g1.os, g2.tape.trans g1.tape, g2.output.trans g1.output, Nat.le_trans g1.size g2.size, fun b hb hne => (g2.block b (Nat.lt_of_lt_of_le hb g1.size) hne).trans (g1.block b hb hne)⟩
set_option maxHeartbeats 6400000 in
set_option maxRecDepth 100000 in
/-- There is none: a new row. -/
theorem pins_grow (ho : OwnEn w base (.slice (some ⟨g, 0, none⟩) n c) es) (hb0 : base ≤ w.heap.size) (hn : n = es.length) (hi : i < n) (hc : c < n + 1) (hl : n ≤ 1099511627776) (hx : w.heap[vb]? = some (.cells (enA x) 36 (0, 0))) :
    Calls Try.prog 46 #[.slice (some ⟨g, 0, none⟩) n c, .int .i64 (i : Int), .slice (some ⟨vb, 0, none⟩) 1 1] w (InsPost es x i base (.slice (some ⟨g, 0, none⟩) n c) w) := by
  obtain ⟨cur, hb, hbg, hnc, hcm, hcl, htk⟩ := ownAt ho hn
  obtain ⟨i0, hi0, hz0, hzs, hzb⟩ := info_parts infoEn
  have hRl : (rowL enC es).length = n * 7 := by rw [rowL_length enC_len, hn]
  obtain ⟨R, hR⟩ : ∃ R, R = rowL enC es := ⟨_, rfl⟩
  rw [← hR] at htk hRl
  obtain ⟨n1, hn1⟩ : ∃ n1 : Nat, (n : Int) + 1 = (n1 : Int) := ⟨n + 1, by omega⟩
  obtain ⟨i1, hi1⟩ : ∃ i1 : Nat, (i : Int) + 1 = (i1 : Int) := ⟨i + 1, by omega⟩
  obtain ⟨q, hq⟩ : ∃ q : Nat, (n1 : Int) - (i : Int) = (q : Int) := ⟨n1 - i, by omega⟩
  have ho' : OwnEn w base (.slice (some ⟨g, 0, none⟩) es.length c) es := by rw [← hn]; exact ho
  have hcell : ∀ j u, R[j]? = some u → w.cell? ⟨g, j, none⟩ = some u := fun j u hu => by
    have h1 : j < n * 7 := by rw [← hRl]; exact (List.getElem?_eq_some_iff.1 hu).1
    rw [World.ownsRow.cellAt ho' j (by rw [← hn]; exact h1), ← hR]
    exact hu
  have hold : (Builtin.firstCells i0.size i (.slice (some ⟨g, 0, none⟩) i c)).run Try.prog w.drew = .ok (R.take (i * 7)).toArray w.drew := by
    rw [hzs]
    exact run_firstCells_some w.drew 7 i ⟨g, 0, none⟩ i c (R.take (i * 7)) (by rw [List.length_take]; omega) (fun j v hj => by
      rw [Addr.add_lit, Nat.zero_add]
      rw [List.getElem?_take] at hj
      split at hj
      · exact hcell j v hj
      · cases hj)
  obtain ⟨G, hG⟩ : ∃ G, G = grownCap w n1 c 36 := ⟨_, rfl⟩
  obtain ⟨ROW, hROW⟩ : ∃ ROW : Array Value, ROW = (R.take (i * 7)).toArray ++ Builtin.zeroCells zeroE.cells q ++ Builtin.zeroCells zeroE.cells (G - n1) := ⟨_, rfl⟩
  have hrz : ∀ ty, (Builtin.append_ #[22, 3] ty #[.slice (some ⟨g, 0, none⟩) i c, .int .i64 (q : Int)]).run Try.prog w = .ok (.slice (some ⟨w.heap.size, 0, none⟩) n1 G) (w.drew.alloc (.cells ROW 36)) := fun ty => by
    have hiq : i + q = n1 := by omega
    have h := Lib.run_append_grow_zeros w 22 3 ty 36 i0 _ .i64 .i64 Try.underlying22 Try.underlying3 hi0 hz0 (some ⟨g, 0, none⟩) i c (R.take (i * 7)) hold q (by omega) (by omega) (by omega) (by omega) (by rw [hzb]; omega) (by rw [hzb, hiq]; exact growslice_fits (by omega) (by omega))
    rw [hiq, ← hG] at h
    rw [hROW]
    exact h
  have hGn : n1 ≤ G := by rw [hG]; exact grownCap_ge w _ _ _
  have hGm : G ≤ maxLen := by rw [hG]; exact grownCap_le_maxLen w n1 c 36 (by unfold maxLen; omega)
  have hG63 : G ≤ 9223372036854775807 := by have := hGm; unfold maxLen at this; omega
  have hRs : ROW.toList.length = G * 7 := by
    rw [Array.length_toList, hROW]
    simp [Builtin.zeroCells, Value.cells]
    omega
  have hRt : ROW.toList.take (i * 7) = R.take (i * 7) := by
    rw [hROW]
    simp only [Array.toList_append, List.append_assoc]
    have : (R.take (i * 7)).length = i * 7 := by rw [List.length_take]; omega
    rw [List.take_append_of_le_length (by omega), List.take_of_length_le (by omega)]
  obtain ⟨W1, hW1⟩ : ∃ W1, W1 = w.drew.alloc (.cells ROW 36) := ⟨_, rfl⟩
  rw [← hW1] at hrz
  have b1 : Below w.heap.size w W1 := by rw [hW1]; exact undrew ((Below.refl _ w.drew).alloc (Nat.le_refl _) _)
  have HB1 : Hid (W1.heap[w.heap.size]? = some (.cells ROW.toList.toArray 36 (0, 0))) := by show _ = _; rw [hW1, Array.toArray_toList]; exact heap_alloc_new w.drew _
  have gl := lt_of_block hb
  have HX : Hid (∀ j u, (enC x)[j]? = some u → W1.cell? ((⟨vb, 0, none⟩ : Addr).add j) = some u) := enC_cells ((b1.block vb (lt_of_block hx)).trans hx)
  have HB : Hid (Below w.heap.size w W1 ∧ W1.heap.size = w.heap.size + 1) := ⟨b1, by rw [hW1]; simp⟩
  have rw1 : IntKind.i64.wrap (i1 : Int) = (i1 : Int) := by rw [IntKind.wrap_i64]; omega
  have s1 := sl_from g n c i (by omega) (by omega)
  have s2 := sl_to g n c i (by omega)
  have s3 := sl_from w.heap.size n1 G i (by omega) (by omega)
  have s4 := sl_from w.heap.size n1 G i1 (by omega) (by omega)
  have q1 : ((i : Int) == (n : Int)) = false := by simp; omega
  have q2 : ¬ ((i : Int) = (n : Int)) := by omega
  have q3 : decide ((c : Int) < (n1 : Int)) = true := decide_eq_true (by omega)
  have q4 : (c : Int) < (n1 : Int) := by omega
  have hdl : (R.drop (i * 7)).length = (n - i) * 7 := by rw [List.length_drop, hRl]; omega
  have HS : Hid (∀ y, Below w.heap.size w y → ∀ j u, (R.drop (i * 7))[j]? = some u → y.cell? ((⟨g, i * 7, none⟩ : Addr).add j) = some u) := fun y b j u hu => by
    rw [List.getElem?_drop] at hu
    rw [Addr.add_lit]
    exact (b.cell (p := ⟨g, i * 7 + j, none⟩) (by exact gl)).trans (hcell _ u hu)
  have H1 : Hid (∀ u ∈ R.drop (i * 7), u.oneCell' = true) := fun u hu => rowL_one_cell enC_one es u (by rw [← hR]; exact List.mem_of_mem_drop hu)
  have HL : Hid ((R.drop (i * 7)).length = (n - i) * 7 ∧ ROW.toList.length = G * 7 ∧ n1 = n + 1 ∧ i1 = i + 1 ∧ i < n ∧ n1 ≤ G ∧ R.length = n * 7 ∧ G ≤ maxLen) := ⟨hdl, hRs, by omega, by omega, hi, hGn, hRl, hGm⟩
  have HN : Hid (n = es.length ∧ R = rowL enC es ∧ ROW.toList.take (i * 7) = R.take (i * 7) ∧ base ≤ w.heap.size) := ⟨hn, hR, hRt, hb0⟩
  have hz : (Try.prog.info? 36).map (·.size) = some 7 := sizeEnt
  have mixed : Try.prog.follows Departure.mixedOrders = true := by kernel_rfl
  clear hW1 ho ho' hb hcl htk hR hRl hdl hn hnc hbg hcm hx hcell hold hG hROW hGm hRs hRt b1 hb0
  go_enter Try.func46, Try.ntmps46
  go_wp2_with (first
    | (refine wpList_copyK rfl (.tmp 43) (.tmp 44) 22 22 rfl 36 7 w.heap.size (i * 7) (n1 - i) (G - i) ⟨vb, 0, none⟩ 1 1 1 (enC x) ROW.toList 36 rfl rfl Try.underlying22 hz (by have := HL.out; exact (Nat.min_eq_left (by omega)).symm) rfl HB1.out HX.out (by have := HL.out; rw [enC_len]; omega) (enC_one x) ?_; intro w3 h3 g3; have H3 : Hid _ := h3; have G3 : Hid _ := g3; clear h3 g3)
    | (at_builtin; refine Lib.wpList_append_run _ rfl _ _ _ _ rfl _ _ rfl rfl _ _ (hrz _) ?_))
  have b3 : Below w.heap.size w w3 := HB.out.1.grown G3.out HB.out.1.size (fun k hk => by have := Option.some.inj hk; omega)
  have B3 : Hid (Below w.heap.size w w3.drew) := ⟨b3.os, b3.tape, b3.output, b3.size, b3.block⟩
  clear b3
  go_region_law_o (refine step_copyK rfl (.tmp 50) (.tmp 53) 22 22 rfl 36 7 w.heap.size (i1 * 7) (n1 - i1) (G - i1) ⟨g, i * 7, none⟩ (n - i) (c - i) (n - i) (R.drop (i * 7)) (splice ROW.toList (i * 7) (enC x)) 36 (by simp [Act.eval, Act.put]) (by simp [Act.eval, Act.put]) Try.underlying22 hz (by have := HL.out; exact (Nat.min_eq_left (by omega)).symm) HL.out.1 H3.out (HS.out _ B3.out) (by have := HL.out; rw [splice_len _ _ _ (by rw [enC_len]; omega)]; omega) H1.out ?_)
  go_wp2
  go_ret
  have hL := HL.out
  obtain ⟨hn, hR, htk, hb0⟩ := HN.out
  have hlen : (es.take i ++ x :: es.drop i).length = n1 := by rw [List.length_append, List.length_cons, List.length_take, List.length_drop]; omega
  have l1 : (splice ROW.toList (i * 7) (enC x)).length = G * 7 := by rw [splice_len _ _ _ (by rw [enC_len]; omega)]; omega
  have hg5 := splice_grown (w := w3.drew) (o := i1 * 7) (cs := R.drop (i * 7)) H3.out
  refine ⟨_, rfl, ⟨rowL_length enC_len _, Or.inr ⟨w.heap.size, G, _, by rw [hlen]; rfl, hb0, hg5.1, by rw [hlen]; omega, hL.2.2.2.2.2.2.2, by rw [List.size_toArray, splice_len _ _ _ (by rw [l1]; omega), l1], ?_⟩⟩, ?_, Or.inr rfl⟩
  · rw [hlen, rowL_ins es x i (by omega), ← hR, hL.2.2.1, hL.2.2.2.1]
    have := grow_row (X := enC x) (a := i * 7) htk hL.2.2.2.2.2.2.1 (by omega) (enC_len x) (by omega)
    rw [show (i + 1) * 7 = i * 7 + 7 by omega, show (n + 1) * 7 = n * 7 + 7 by omega]
    exact this
  · have b5 : Below w.heap.size w (w3.drew.setRow w.heap.size (splice (splice ROW.toList (i * 7) (enC x)) (i1 * 7) (R.drop (i * 7))).toArray) := B3.out.grown hg5.2 B3.out.size (fun k hk => by have := Option.some.inj hk; omega)
    exact ⟨b5.os, b5.tape, b5.output, b5.size, fun b hb _ => b5.block b hb⟩
/-- An entry inserted, wherever. -/
theorem pins_any {v : Value} (ho : OwnEn w base v es) (hb0 : base ≤ w.heap.size) (hi : i ≤ es.length) (hl : es.length ≤ 1099511627776) (hx : w.heap[vb]? = some (.cells (enA x) 36 (0, 0))) (hne : v.ownBlock ≠ some vb) :
    Calls Try.prog 46 #[v, .int .i64 (i : Int), .slice (some ⟨vb, 0, none⟩) 1 1] w (InsPost es x i base v w) := by
  by_cases he : i = es.length
  · subst he
    exact pins_end ho hb0 hl hx
  · rcases ho.2 with ⟨rfl, h0⟩ | ⟨g, c, cur, rfl, _⟩
    · omega
    · by_cases hc : es.length + 1 ≤ c
      · exact pins_room ho rfl (by omega) hc hl hx (fun e => hne (by rw [e]; rfl))
      · exact pins_grow ho hb0 rfl (by omega) (by omega) hl hx
end
end Go.Proofs.Ytkngpfngfmbmjaa
