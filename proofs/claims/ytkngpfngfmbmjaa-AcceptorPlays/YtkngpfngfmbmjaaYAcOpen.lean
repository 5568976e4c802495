/-
  What layer 15's laws are handed, opened: a state with its entries, a deed, a row of deeds, an entry, a number; how much each text is by the form's own reach. No condition.
-/
import Derived.Test.YtkngpfngfmbmjaaYPackA
import Derived.Test.YtkngpfngfmbmjaaYPackR
import Derived.Test.YtkngpfngfmbmjaaYAcNil
import Derived.SizedLaws
namespace Go.Proofs.Ytkngpfngfmbmjaa
open Go.ChangeShapes Go.WideShapes Go.ChangeAt Go.RowKit Go.Joins Go.Deep

theorem own : ownKnob Try.prog.godebug = none := by kernel_rfl
theorem laidOut : laidOutB Try.prog = true := by kernel_rfl
theorem kcDu : Try.prog.cellsOf 24 = 4 := by kernel_rfl
theorem kcSE : Try.prog.cellsOf 22 = 1 := by kernel_rfl
theorem kcAd : Try.prog.cellsOf 38 = 10 := by kernel_rfl
theorem weights_all {H : Type} {P : Program} {e : TypeId} {n : Nat} {d : DataW H} : ∀ {l : List (DataW H)}, d ∈ l → n ∈ d.weights P e → n ∈ DataW.weightsAll P e l
  | [], h, _ => by cases h
  | x :: r, h, hn => by
    simp only [DataW.weightsAll, List.mem_append]
    cases List.mem_cons.1 h with
    | inl e => subst e; exact Or.inl hn
    | inr e => exact Or.inr (weights_all e hn)
theorem kbEnt : Try.prog.bytesOf 36 = 64 := by kernel_rfl
theorem size_len (T : ByteArray) : T.data.toList.length = T.size := by rw [Array.length_toList]; rfl
section
variable {H : Type} {enc : TypeId × Value → H} {w : World}
set_option maxRecDepth 100000 in
theorem cmd_weigh {base : Nat} {spare : Nat → Bool} {held : Bool} {fuel : Nat} {cs : List Value} {x : DataW H × List MemPlace} (h : DataW.trod enc Try.prog w base spare held fuel 34 cs = some x) :
    ∃ (K S Q : Int) (T : ByteArray) (N : Int), cs = [.int .i64 K, .int .i64 S, .int .i64 Q, .string T, .int .i64 N] ∧ T.size ∈ x.1.weights Try.prog 34 := by
  obtain ⟨xs, n, _, rfl, hl, hlen, hf⟩ := DataW.trod_struct Try.underlying34 h
  rw [cells23] at hl
  match cs, hl, xs, hlen with
  | [a0, a1, a2, a3, a4], _, [y0, y1, y2, y3, y4], _ =>
    have h0 := by simpa using hf 0 _ rfl
    have h1 := by simpa using hf 1 _ rfl
    have h2 := by simpa using hf 2 _ rfl
    have h3 := by simpa using hf 3 _ rfl
    have h4 := by simpa using hf 4 _ rfl
    simp only [cells3, cells9, List.take_succ_cons, List.take_zero] at h0 h1 h2 h3 h4
    obtain ⟨K, e0, _⟩ := DataW.trod_int Try.underlying3 h0
    obtain ⟨S, e1, _⟩ := DataW.trod_int Try.underlying3 h1
    obtain ⟨Q, e2, _⟩ := DataW.trod_int Try.underlying3 h2
    obtain ⟨T, e3, e5, _⟩ := DataW.trod_string Try.underlying9 h3
    obtain ⟨N, e4, _⟩ := DataW.trod_int Try.underlying3 h4
    simp at e0 e1 e2 e3 e4
    refine ⟨K, S, Q, T, N, by rw [e0, e1, e2, e3, e4], ?_⟩
    have e6 := size_len T
    simp [DataW.weights, DataW.weightsEach, Try.underlying34, e5, e6]
set_option maxRecDepth 100000 in
theorem ent_weigh {base : Nat} {spare : Nat → Bool} {held : Bool} {fuel : Nat} {cs : List Value} {x : DataW H × List MemPlace} (h : DataW.trod enc Try.prog w base spare held fuel 36 cs = some x) : ∃ e : En, cs = enC e ∧ e.cmd.name.size ∈ x.1.weights Try.prog 36 ∧ e.slot ≤ 9223372036854775807 := by
  obtain ⟨y0, y1, y2, n, hx, hl, h0, h1, h2⟩ := Go.Deep.trod_struct3 Try.underlying36 h
  rw [cells25] at hl
  match cs, hl with
  | [a, b, c, d, e, f, g], _ =>
    simp only [cells3, cells23] at h0 h1 h2
    obtain ⟨A, e0, _, hA⟩ := DataW.trod_int Try.underlying3 h0
    obtain ⟨B, e1, _⟩ := DataW.trod_int Try.underlying3 h1
    obtain ⟨K, S, Q, T, N, e2, hT⟩ := cmd_weigh h2
    simp at e0 e1 e2
    obtain ⟨rfl, rfl, rfl, rfl, rfl⟩ := e2
    refine ⟨⟨A, B, ⟨K, S, Q, T, N⟩⟩, by rw [e0, e1]; rfl, ?_, (bounds_i64 hA).2⟩
    rw [hx]
    have hT' : T.size ∈ y2.1.weights Try.prog 34 := hT
    simp only [DataW.weights, Try.underlying36]
    simp [DataW.weightsEach, hT']
def EnW (e : En) (cs : List Value) (y : DataW H) : Prop := cs = enC e ∧ e.cmd.name.size ∈ y.weights Try.prog 36 ∧ e.slot ≤ 9223372036854775807
theorem ents_weigh {fuel : Nat} {c : Value} {x : DataW H × List MemPlace} (h : DataW.trod enc Try.prog w 0 (fun _ => true) true fuel 22 [c] = some x) (hz : ∀ n ∈ x.1.weights Try.prog 22, n ≤ reachBytes) : ∃ es : List En, RowAt enC w c es ∧ es.length ≤ reachBytes ∧ (∀ e ∈ es, e.cmd.name.size ≤ reachBytes) ∧ ∀ e ∈ es, e.slot ≤ 9223372036854775807 := by
  obtain ⟨a', len, cap', l, hv, hr⟩ := open_row Try.underlying22 cells25 (by omega) (EnW (H := H)) (fun _ _ _ h => ent_weigh h) h
  have hrow := hr.row (by decide) enC_len (fun _ _ _ h => h.1)
  have hlen := hr.len_eq
  subst hv
  refine ⟨l, hrow, ?_⟩
  rcases hr.ex with ⟨_, h0, _, hd⟩ | ⟨x0, es, sp, _, e, he, hj, _⟩
  · have : l = [] := List.eq_nil_of_length_eq_zero (by omega)
    subst this
    exact ⟨Nat.zero_le _, fun e he => (by cases he), fun e he => (by cases he)⟩
  · rw [e] at hz
    simp only [DataW.weights, Try.underlying22, kbEnt] at hz
    have h1 := hz _ (List.mem_cons_self ..)
    refine ⟨by omega, fun q hq => ?_, fun q hq => ?_⟩
    · obtain ⟨j, hj1, rfl⟩ := List.mem_iff_getElem.1 hq
      obtain ⟨cs, hL, _⟩ := hj j hj1 (by omega)
      exact hz _ (List.mem_cons_of_mem _ (List.mem_append_left _ (weights_all (List.getElem_mem (l := es) (n := j) (by omega)) hL.2.1)))
    · obtain ⟨j, hj1, rfl⟩ := List.mem_iff_getElem.1 hq
      obtain ⟨cs, hL, _⟩ := hj j hj1 (by omega)
      exact hL.2.2
set_option maxRecDepth 100000 in
theorem du_weigh {fuel : Nat} {cs : List Value} {x : DataW H × List MemPlace} (h : DataW.trod enc Try.prog w 0 (fun _ => true) true fuel 24 cs = some x) (hz : ∀ n ∈ x.1.weights Try.prog 24, n ≤ reachBytes) : ∃ (d : Du) (u : Value), cs = (duA d u).toList ∧ RowAt enC w u d.es ∧ d.es.length ≤ reachBytes ∧ SzD d ∧ ∀ e ∈ d.es, e.slot ≤ 9223372036854775807 := by
  obtain ⟨xs, n, _, rfl, hl, hlen, hf⟩ := DataW.trod_struct Try.underlying24 h
  rw [kcDu] at hl
  match cs, hl, xs, hlen with
  | [a0, a1, a2, a3], _, [y0, y1, y2, y3], _ =>
    have h0 := by simpa using hf 0 _ rfl
    have h1 := by simpa using hf 1 _ rfl
    have h2 := by simpa using hf 2 _ rfl
    have h3 := by simpa using hf 3 _ rfl
    simp only [cells3, cells9, kcSE, List.take_succ_cons, List.take_zero] at h0 h1 h2 h3
    obtain ⟨P, e0, _⟩ := DataW.trod_int Try.underlying3 h0
    obtain ⟨Q, e1, _⟩ := DataW.trod_int Try.underlying3 h1
    obtain ⟨S, e2, e5, _⟩ := DataW.trod_string Try.underlying9 h2
    have hz' : ∀ n, n ∈ y2.1.weights Try.prog 9 ∨ n ∈ y3.1.weights Try.prog 22 → n ≤ reachBytes := fun n hn => hz n (by
      show n ∈ (DataW.agg [y0.1, y1.1, y2.1, y3.1]).weights Try.prog 24
      simp only [DataW.weights, Try.underlying24]
      show n ∈ DataW.weightsEach Try.prog [_, _, _, _] [y0.1, y1.1, y2.1, y3.1]
      simp only [DataW.weightsEach, List.mem_append]
      rcases hn with hn | hn
      · exact Or.inr (Or.inr (Or.inl hn))
      · exact Or.inr (Or.inr (Or.inr (Or.inl hn))))
    obtain ⟨es, hr, hm, hn, hb⟩ := ents_weigh h3 (fun n hn => hz' n (Or.inr hn))
    simp at e0 e1 e2
    subst e0 e1 e2
    have h6 := hz' S.size (Or.inl (by rw [e5, ← size_len]; simp [DataW.weights]))
    simp only [reachBytes] at h6 hn
    exact ⟨⟨P, Q, S, es⟩, a3, rfl, hr, hm, ⟨Nat.le_trans h6 (by decide), fun e he => Nat.le_trans (hn e he) (by decide)⟩, hb⟩

/-- A deed: its cells, how much its texts are. -/
def AdW (v : Ad) (cs : List Value) (y : DataW H) : Prop := cs = adC v ∧ v.e.cmd.name.size ∈ y.weights Try.prog 38 ∧ v.s.size ∈ y.weights Try.prog 38 ∧ v.b ≤ 9223372036854775807 ∧ v.e.slot ≤ 9223372036854775807
set_option maxRecDepth 100000 in
theorem ad_weigh {base : Nat} {spare : Nat → Bool} {held : Bool} {fuel : Nat} {cs : List Value} {x : DataW H × List MemPlace} (h : DataW.trod enc Try.prog w base spare held fuel 38 cs = some x) : ∃ v : Ad, AdW v cs x.1 := by
  obtain ⟨xs, n, _, rfl, hl, hlen, hf⟩ := DataW.trod_struct Try.underlying38 h
  rw [kcAd] at hl
  match cs, hl, xs, hlen with
  | [a0, a1, a2, a3, a4, a5, a6, a7, a8, a9], _, [y0, y1, y2, y3], _ =>
    have h0 := by simpa using hf 0 _ rfl
    have h1 := by simpa using hf 1 _ rfl
    have h2 := by simpa using hf 2 _ rfl
    have h3 := by simpa using hf 3 _ rfl
    simp only [cells3, cells9, cells25, List.take_succ_cons, List.take_zero] at h0 h1 h2 h3
    obtain ⟨K, e0, _⟩ := DataW.trod_int Try.underlying3 h0
    obtain ⟨B, e1, _, hB⟩ := DataW.trod_int Try.underlying3 h1
    obtain ⟨e, e2, hT, hsl⟩ := ent_weigh h2
    obtain ⟨S, e3, e5, _⟩ := DataW.trod_string Try.underlying9 h3
    simp [enC] at e0 e1 e2 e3
    obtain ⟨rfl, rfl, rfl, rfl, rfl, rfl, rfl⟩ := e2
    subst e0 e1 e3
    have e6 := size_len S
    have hT' : e.cmd.name.size ∈ y2.1.weights Try.prog 36 := hT
    have hS : S.size ∈ y3.1.weights Try.prog 9 := by rw [e5, ← e6]; simp [DataW.weights]
    refine ⟨⟨K, B, e, S⟩, rfl, ?_, ?_, (bounds_i64 hB).2, hsl⟩
    · show e.cmd.name.size ∈ (DataW.agg [y0.1, y1.1, y2.1, y3.1]).weights Try.prog 38
      simp only [DataW.weights, Try.underlying38]
      show _ ∈ DataW.weightsEach Try.prog [_, _, _, _] [y0.1, y1.1, y2.1, y3.1]
      simp only [DataW.weightsEach, List.mem_append]
      exact Or.inr (Or.inr (Or.inl hT'))
    · show S.size ∈ (DataW.agg [y0.1, y1.1, y2.1, y3.1]).weights Try.prog 38
      simp only [DataW.weights, Try.underlying38]
      show _ ∈ DataW.weightsEach Try.prog [_, _, _, _] [y0.1, y1.1, y2.1, y3.1]
      simp only [DataW.weightsEach, List.mem_append]
      exact Or.inr (Or.inr (Or.inr (Or.inl hS)))
set_option maxRecDepth 100000 in
/-- A row of deeds that came in. -/
theorem ads_open {a : Option Addr} {n cap : Nat} {d : DataW H} {p : List MemPlace} (h : DataW.Trod enc Try.prog w 0 (fun _ => true) true 25 (.slice a n cap) d p) (hz : ∀ n ∈ d.weights Try.prog 25, n ≤ reachBytes) : ∃ l : List Ad, n = l.length ∧ RowAt adC w (.slice a n cap) l ∧ l.length ≤ maxLen ∧ ∀ v ∈ l, OkAd v := by
  obtain ⟨fuel, hf0⟩ := h
  have hf : DataW.trod enc Try.prog w 0 (fun _ => true) true fuel 25 [.slice a n cap] = some (d, p) := hf0
  obtain ⟨a', len, cap', l, hv, hr⟩ := open_row Try.underlying25 kcAd (by omega) (AdW (H := H)) (fun _ _ _ h => ad_weigh h) hf
  injection hv with e1 e2 e3
  subst e1 e2 e3
  have hrow := hr.row (by decide) adC_len (fun _ _ _ h => h.1)
  have hlen := hr.len_eq
  have hmax := hr.le_max
  refine ⟨l, hlen.symm, hrow, by omega, ?_⟩
  rcases hr.ex with ⟨_, h0, _, hd⟩ | ⟨x0, es, sp, _, e, he, hj, _⟩
  · have : l = [] := List.eq_nil_of_length_eq_zero (by omega)
    subst this
    exact fun e he => by cases he
  · have e' : d = .slice es sp := e
    rw [e'] at hz
    simp only [DataW.weights, Try.underlying25] at hz
    intro q hq
    obtain ⟨j, hj1, rfl⟩ := List.mem_iff_getElem.1 hq
    obtain ⟨cs, hL, _⟩ := hj j hj1 (by omega)
    have h1 := hz _ (List.mem_cons_of_mem _ (List.mem_append_left _ (weights_all (List.getElem_mem (l := es) (n := j) (by omega)) hL.2.1)))
    have h2 := hz _ (List.mem_cons_of_mem _ (List.mem_append_left _ (weights_all (List.getElem_mem (l := es) (n := j) (by omega)) hL.2.2.1)))
    simp only [reachBytes] at h1 h2
    exact ⟨by unfold nameOk; omega, by unfold nameOk; omega, hL.2.2.2.1, hL.2.2.2.2⟩
end
set_option maxRecDepth 100000 in
theorem open_duW {H : Type} {enc : TypeId × Value → H} {w : World} {r : Reach} {b0 : Nat} {v : Value} {x : DataW H} {p : List MemPlace}
    (hv : Value.okWide Try.prog w r b0 24 v) (h : DataW.Trod enc Try.prog w 0 (fun _ => true) true 24 v x p) (hz : ∀ n ∈ x.weights Try.prog 24, n ≤ reachBytes) : ∃ (d : Du) (u : Value), v = .agg (duA d u) ∧ RowAt enC w u d.es ∧ d.es.length ≤ reachBytes ∧ SzD d ∧ ∀ e ∈ d.es, e.slot ≤ 9223372036854775807 := by
  obtain ⟨cs, rfl, _⟩ := okWide_struct Try.underlying24 hv
  obtain ⟨fuel, hf⟩ := h
  obtain ⟨d, u, e, h1, h2, h3, h4⟩ := du_weigh hf hz
  have e' : cs.toList = (duA d u).toList := by simpa [Value.cells] using e
  exact ⟨d, u, by rw [Array.toList_inj.1 e'], h1, h2, h3, h4⟩
end Go.Proofs.Ytkngpfngfmbmjaa
