/-
  What layer 7's laws are handed, opened: a deed, a row of deeds, a row of pairs. No condition.
-/
import Derived.Test.YtcecgphjaofgbaaGOpen
import Derived.Test.YtcecgphjaofgbaaCkLaws
import Derived.Test.YtcecgphjaofgbaaCkPlays
namespace Go.Proofs.Ytcecgphjaofgbaa
open Go.ChangeShapes Go.WideShapes Go.ChangeAt Go.RowKit Go.Joins Go.Deep

theorem kcInt : Try.prog.cellsOf 3 = 1 := by kernel_rfl
theorem kcBool : Try.prog.cellsOf 4 = 1 := by kernel_rfl
theorem kcInts : Try.prog.cellsOf 27 = 1 := by kernel_rfl
theorem kcDeed : Try.prog.cellsOf 29 = 5 := by kernel_rfl
theorem kcTwo : Try.prog.cellsOf 42 = 2 := by kernel_rfl
section
variable {H : Type} {enc : TypeId × Value → H} {w : World}
/-- A row of numbers. -/
theorem ints_open {fuel : Nat} {v : Value} {x : DataW H × List MemPlace} (h : DataW.trod enc Try.prog w 0 (fun _ => true) true fuel 27 [v] = some x) :
    ∃ bs : List Int, IntsAt w v bs ∧ InAt w w.heap.size v bs ∧ (bs = [] ∨ ∃ es sp, x.1 = .slice es sp ∧ es.length = bs.length) := by
  obtain ⟨a, len, cap, bs, rfl, hr⟩ := open_row Try.underlying27 kcInt (by omega) (fun (n : Int) cs (_ : DataW H) => cs = [.int .i64 n] ∧ -9223372036854775808 ≤ n ∧ n ≤ 9223372036854775807) (fun fuel cs x h => by
    obtain ⟨n, e, _, hw⟩ := DataW.trod_int Try.underlying3 h
    exact ⟨n, e, bounds_i64 hw⟩) h
  refine ⟨bs, hr.ints, ?_, ?_⟩
  · obtain ⟨rfl, h1, h2, h3⟩ := hr
    rcases h3 with ⟨rfl, h0, rfl, _⟩ | ⟨x0, es, sp, rfl, _, he, hj, h4⟩
    · exact Or.inl ⟨by rw [h0], List.eq_nil_of_length_eq_zero h0⟩
    · refine Or.inr ⟨x0, cap, rfl, h1, ?_⟩
      rcases h4 with h4 | ⟨bk, off, rfl, hb⟩
      · exact Or.inl h4
      · refine Or.inr ⟨bk, off, rfl, hb, fun j hjl => ?_⟩
        obtain ⟨cs, ⟨rfl, _⟩, _, h6⟩ := hj j hjl (by omega)
        have := h6 0 (by simp)
        simpa [Addr.add_mid] using this
  · obtain ⟨rfl, h1, h2, h3⟩ := hr
    rcases h3 with ⟨_, h0, _⟩ | ⟨x0, es, sp, rfl, h0, he, _⟩
    · exact Or.inl (List.eq_nil_of_length_eq_zero h0)
    · exact Or.inr ⟨es, sp, h0, he⟩
/-- A deed's cells, and its data. -/
def DeedL (w : World) (d : Kd) (cs : List Value) (y : DataW H) : Prop :=
  cs = (kdL d).toList ∧ InAt w w.heap.size d.v d.bs ∧ (∀ x ∈ d.bs, -9223372036854775808 ≤ x ∧ x ≤ 9223372036854775807) ∧ d.R ≤ 9223372036854775807 ∧ ∃ y0 y1 y2 y3 y4, y = .agg [y0, y1, y2, y3, y4] ∧ (d.bs = [] ∨ ∃ es sp, y4 = .slice es sp ∧ es.length = d.bs.length)
set_option maxRecDepth 100000 in
theorem deed_open {fuel : Nat} {cs : List Value} {x : DataW H × List MemPlace} (h : DataW.trod enc Try.prog w 0 (fun _ => true) true fuel 29 cs = some x) : ∃ d : Kd, DeedL w d cs x.1 := by
  obtain ⟨y0, y1, y2, y3, y4, n, hx, hl, h0, h1, h2, h3, h4⟩ := trod_five Try.underlying29 h
  rw [kcDeed] at hl
  match cs, hl with
  | [a, b, c, d, e], _ =>
    simp only [kcInt, kcBool, kcInts] at h0 h1 h2 h3 h4
    obtain ⟨st, e0, _⟩ := DataW.trod_bool Try.underlying4 h0
    obtain ⟨R, e1, _, wR⟩ := DataW.trod_int Try.underlying3 h1
    obtain ⟨N, e2, _⟩ := DataW.trod_int Try.underlying3 h2
    obtain ⟨A, e3, _⟩ := DataW.trod_int Try.underlying3 h3
    obtain ⟨bs, hb, hi, hd⟩ := ints_open (v := e) (by simpa using h4)
    simp at e0 e1 e2 e3
    subst e0 e1 e2 e3
    exact ⟨⟨st, R, N, A, e, bs⟩, rfl, hi, hb.lo, (bounds_i64 wR).2, _, _, _, _, _, hx, hd⟩
/-- A pair's cells. -/
def PairL (s : Int × Int) (cs : List Value) (_ : DataW H) : Prop := cs = [.int .i64 s.1, .int .i64 s.2]
set_option maxRecDepth 100000 in
theorem pair_open {fuel : Nat} {cs : List Value} {x : DataW H × List MemPlace} (h : DataW.trod enc Try.prog w 0 (fun _ => true) true fuel 42 cs = some x) : ∃ s : Int × Int, PairL s cs x.1 := by
  obtain ⟨c0, c1, y0, y1, n, rfl, _, h0, h1⟩ := trod_two_of Try.underlying42 kcInt kcTwo h
  obtain ⟨A, e0, _⟩ := DataW.trod_int Try.underlying3 h0
  obtain ⟨B, e1, _⟩ := DataW.trod_int Try.underlying3 h1
  simp at e0 e1
  subst e0 e1
  exact ⟨(A, B), rfl⟩
/-- A row of pairs. -/
theorem open_pairs {v : Value} {d : DataW H} {p : List MemPlace} {r : Reach} {b0 : Nat} (hv : Value.okWide Try.prog w r b0 49 v) (h : DataW.Trod enc Try.prog w 0 (fun _ => true) true 49 v d p) : ∃ l : List (Int × Int), PairsAt w v l := by
  obtain ⟨a, len, cap, rfl⟩ := okWide_slice Try.underlying49 hv
  obtain ⟨fuel, hf⟩ := h
  obtain ⟨a', len', cap', l, e, hr⟩ := open_row Try.underlying49 kcTwo (by omega) (PairL (H := H)) (fun _ _ _ h => pair_open h) hf
  cases e
  obtain ⟨rfl, h1, h2, h3⟩ := hr
  refine ⟨l, ⟨a, cap, rfl, ?_⟩⟩
  rcases h3 with ⟨_, h0, _⟩ | ⟨x, es, sp, rfl, _, he, hj, h4⟩
  · exact Or.inl h0
  · rcases h4 with h4 | ⟨bk, off, rfl, hb⟩
    · exact Or.inl h4
    · refine Or.inr ⟨bk, off, rfl, hb, fun j hjl => ?_⟩
      obtain ⟨cs, hcs, _, h6⟩ := hj j hjl (by omega)
      unfold PairL at hcs
      subst hcs
      have q0 := h6 0 (by simp)
      have q1 := h6 1 (by simp)
      rw [Addr.add_mid] at q0 q1
      exact ⟨q0, by rw [← Nat.add_assoc] at q1; exact q1⟩
/-- A pair by value. -/
theorem open_pair {v : Value} {d : DataW H} {p : List MemPlace} {r : Reach} {b0 : Nat} (hv : Value.okWide Try.prog w r b0 42 v) (h : DataW.Trod enc Try.prog w 0 (fun _ => true) true 42 v d p) : ∃ x y : Int, v = .agg #[.int .i64 x, .int .i64 y] := by
  have hv' : ∃ cs, v = .agg cs := by
    unfold Value.okWide at hv
    rw [Try.underlying42] at hv
    obtain ⟨cs, e, _⟩ := hv
    exact ⟨cs, e⟩
  obtain ⟨cs, rfl⟩ := hv'
  obtain ⟨fuel, hf⟩ := h
  obtain ⟨⟨x, y⟩, e⟩ := pair_open hf
  refine ⟨x, y, ?_⟩
  have e' : cs.toList = [.int .i64 x, .int .i64 y] := by simpa [Value.cells, PairL] using e
  rw [← Array.toArray_toList (xs := cs), e']
/-- A deed by value. -/
theorem open_kdeed {v : Value} {d : DataW H} {p : List MemPlace} {r : Reach} {b0 : Nat} (hv : Value.okWide Try.prog w r b0 29 v) (h : DataW.Trod enc Try.prog w 0 (fun _ => true) true 29 v d p) :
    ∃ (st : Bool) (R N A : Int) (u : Value), v = .agg #[.bool st, .int .i64 R, .int .i64 N, .int .i64 A, u] := by
  obtain ⟨cs, rfl, _⟩ := okWide_struct Try.underlying29 hv
  obtain ⟨fuel, hf⟩ := h
  obtain ⟨⟨st, R, N, A, u, bs⟩, e, _⟩ := deed_open hf
  refine ⟨st, R, N, A, u, ?_⟩
  have e' : cs.toList = [.bool st, .int .i64 R, .int .i64 N, .int .i64 A, u] := by simpa [Value.cells, kdL] using e
  rw [← Array.toArray_toList (xs := cs), e']
/-- A row of deeds: its cells; its data, for its bulk. -/
theorem open_kdeeds {a : Option Addr} {len cap : Nat} {d : DataW H} {p : List MemPlace} (h : DataW.Trod enc Try.prog w 0 (fun _ => true) true 22 (.slice a len cap) d p)
    (hs : ∀ es sp, d = .slice es sp → ∀ y0 y1 y2 y3 es' sp', .agg [y0, y1, y2, y3, .slice es' sp'] ∈ es → es'.length ≤ 17592186043904) :
    len = 0 ∨ ∃ (bk off : Nat) (Z : Nat → Kd), a = some ⟨bk, off, none⟩ ∧ bk < w.heap.size ∧ ∀ j, j < len → IsKd w w.heap.size bk (off + j * 5) (Z j) := by
  obtain ⟨fuel, hf⟩ := h
  obtain ⟨a', len', cap', l, e, hr⟩ := open_row Try.underlying22 kcDeed (by omega) (DeedL (H := H) w) (fun _ _ _ h => deed_open h) hf
  cases e
  obtain ⟨rfl, h1, h2, h3⟩ := hr
  rcases h3 with ⟨_, h0, _⟩ | ⟨x, es, sp, rfl, hd, he, hj, h4⟩
  · exact Or.inl h0
  · rcases h4 with h4 | ⟨bk, off, rfl, hb⟩
    · exact Or.inl h4
    · refine Or.inr ⟨bk, off, fun j => l.getD j ⟨false, 0, 0, 0, .slice none 0 0, []⟩, rfl, hb, fun j hjl => ?_⟩
      have hg : l.getD j ⟨false, 0, 0, 0, .slice none 0 0, []⟩ = l[j] := by simp [List.getD, hjl]
      show IsKd w w.heap.size bk (off + j * 5) (l.getD j ⟨false, 0, 0, 0, .slice none 0 0, []⟩)
      rw [hg]
      obtain ⟨cs, ⟨hcs, hin, hlo, hR, y0, y1, y2, y3, y4, hy, hlen⟩, _, h6⟩ := hj j hjl (by omega)
      have hmem : (.agg [y0, y1, y2, y3, y4] : DataW H) ∈ es := by rw [← hy]; exact List.getElem_mem _
      have hsm : l[j].bs.length ≤ 17592186043904 := by
        rcases hlen with h0 | ⟨es', sp', rfl, h0⟩
        · rw [h0]
          exact Nat.zero_le _
        · rw [← h0]
          exact hs es sp hd y0 y1 y2 y3 es' sp' hmem
      subst hcs
      have q0 := h6 0 (by simp [kdL])
      have q1 := h6 1 (by simp [kdL])
      have q2 := h6 2 (by simp [kdL])
      have q3 := h6 3 (by simp [kdL])
      have q4 := h6 4 (by simp [kdL])
      rw [Addr.add_mid] at q0 q1 q2 q3 q4
      rw [← Nat.add_assoc] at q1 q2 q3 q4
      exact ⟨q0, q1, q2, q3, q4, hin, hsm, hlo, hR⟩
end
end Go.Proofs.Ytcecgphjaofgbaa
