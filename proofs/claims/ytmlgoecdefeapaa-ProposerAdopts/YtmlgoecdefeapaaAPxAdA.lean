/-
  ProposerAdopts, ahead of its walk: what promises leave as plain data, what is proposed then against a scan of all entries, a row of rows of entries that came in. No condition.
-/
import Derived.Test.YtmlgoecdefeapaaAPxOpen
import Derived.Test.YtmlgoecdefeapaaAPxMaj
namespace Go.Proofs.Ytmlgoecdefeapaa
open Go.ChangeShapes Go.WideShapes Go.ChangeAt Go.RowKit Go.Joins Go.Deep

def whoR (k : Nat) : List Int := (List.range k).map fun (i : Nat) => (i : Int)
/-- The promises of k servers heard, all their entries L. -/
def paE (n f : Int) (k : Nat) (L : List En) : Pp := ⟨n, 17, f, whoR k, insA f [] L, false, [], 0, []⟩
theorem pa_step {n f m : Int} {k : Nat} {L es : List En} (hk : (k : Int) < n) : promP m (paE n f k L) (k : Int) es = if ((k : Int) + 1) < m then (paE n f (k + 1) (L ++ es), false) else (readyP (paE n f (k + 1) (L ++ es)), true) := by
  have hc : countP (paE n f k L) (k : Int) es = paE n f (k + 1) (L ++ es) := by
    unfold countP paE whoR
    rw [insA_append, List.range_succ, List.map_append]
    rfl
  unfold promP
  rw [if_neg, hc]
  · have : ((paE n f k L).who.length : Int) = (k : Int) := by
      show ((whoR k).length : Int) = _
      unfold whoR
      simp
    rw [this]
  · show ¬ (false = true ∨ (k : Int) < 0 ∨ n ≤ (k : Int) ∨ (k : Int) ∈ whoR k)
    intro h
    rcases h with h | h | h | h
    · cases h
    · omega
    · omega
    · unfold whoR at h
      obtain ⟨i, hi, e⟩ := List.mem_map.1 h
      have := List.mem_range.1 hi
      omega
theorem pa_best {f : Int} {L : List En} (hL : ∀ e ∈ L, e.slot ≤ f + 1000) : ∀ e ∈ insA f [] L, e.slot ≤ f + 1000 := fun e he => by
  rcases insA_mem he with ⟨h, _⟩ | h
  · exact hL e h
  · cases h
theorem pa_lim {n f : Int} {k : Nat} {L : List En} (h1 : 1 ≤ f) (h2 : f ≤ 1099511627776) (hL : ∀ e ∈ L, e.slot ≤ f + 1000) : Lim (paE n f k L) := ⟨h1, h2, pa_best hL, fun h => by cases h⟩
theorem pa_limR {n f : Int} {k : Nat} {L : List En} (h1 : 1 ≤ f) (h2 : f ≤ 1099511627776) (hL : ∀ e ∈ L, e.slot ≤ f + 1000) : Lim (readyP (paE n f k L)) := by
  refine ⟨h1, h2, pa_best hL, fun _ => ?_⟩
  have := lastS_le (k := f + 1000) (z := f - 1) (by omega) (pa_best hL)
  show lastS (f - 1) (insA f [] L) + 2 ≤ f + 100000
  omega
/-- How many slots lie between. -/
def spanK (f : Int) (L : List En) : Nat := (lastS (f - 1) (insA f [] L) - (f - 1)).toNat
theorem spanK_le {f : Int} {L : List En} (hL : ∀ e ∈ L, e.slot ≤ f + 1000) : spanK f L ≤ 1001 := by
  have := lastS_le (k := f + 1000) (z := f - 1) (by omega) (pa_best hL)
  unfold spanK
  omega
def scanE (s : Int) (L : List En) : Option En := L.foldl (moreE s) none
theorem vals_len (f : Int) (L : List En) : (valsR 17 f (insA f [] L)).length = spanK f L + 1 := by
  unfold valsR
  rw [List.length_append, spanE_length]
  rfl
theorem vals_at {f : Int} {L : List En} {i : Nat} (hi : i < spanK f L) : (valsR 17 f (insA f [] L))[i]? = some ⟨f + i, 17, cmdOf (scanE (f + i) L)⟩ := by
  unfold valsR
  rw [List.getElem?_append_left (by rw [spanE_length]; exact hi)]
  show (spanE 17 (insA f [] L) (spanK f L) f)[i]? = _
  rw [spanE_get _ _ _ _ _ hi]
  unfold bestC scanE
  rw [bestE_insA (by omega)]
  rfl
theorem vals_end (f : Int) (L : List En) : (valsR 17 f (insA f [] L))[spanK f L]? = some (termE 17 (f + spanK f L)) ∧ scanE (f + spanK f L) L = none := by
  have h := lastS_ge (insA f [] L) (f - 1)
  have e : f + (spanK f L : Int) = lastS (f - 1) (insA f [] L) + 1 := by unfold spanK; omega
  constructor
  · unfold valsR
    rw [List.getElem?_append_right (by rw [spanE_length]; exact Nat.le_refl _), spanE_length, e]
    show [termE 17 (lastS (f - 1) (insA f [] L) + 1)][spanK f L - spanK f L]? = _
    rw [Nat.sub_self]
    rfl
  · have h2 := bestE_insA (f := f) (s := f + spanK f L) (by omega) L []
    rw [bestE_past (z := f - 1) (by omega)] at h2
    exact h2.symm
theorem PS.apartE {w : World} {base X : Nat} {S : Nat → Prop} {q : Pp} (h : PS w base X S q) {g : Nat} {cs : Array Value} {fr : Nat × Nat} (hg : w.heap[g]? = some (.cells cs 38 fr)) : ¬ S g := fun hs => by
  obtain ⟨p, mp, mb, ma, v, h, _⟩ := h.ex
  rcases (h.set g).1 hs with e | e | e
  · rw [e, h.blk] at hg
    injection hg with hg
    injection hg with _ hg _
    exact absurd hg (by decide)
  · exact own_ne h.rows hg (by decide) e
  · obtain ⟨es, c, hb⟩ := h.mapAt e
    rw [hb] at hg
    cases hg
theorem PS.apartO {w : World} {base base' X : Nat} {S : Nat → Prop} {q : Pp} (h : PS w base X S q) {g : Value} {L : List En} (ho : OwnEn w base' g L) : ∀ x, g.ownBlock = some x → ¬ S x := fun x hx => by
  rcases ho.2 with ⟨e, _⟩ | ⟨b, cap, cur, e, _, hb, _⟩
  · rw [e] at hx; simp [Value.ownBlock] at hx
  · rw [e] at hx
    simp only [Value.ownBlock, Option.some.injEq] at hx
    rw [hx] at hb
    exact h.apartE hb

/-! ## A row of rows of entries -/
def prC (p : Value × List En) : List Value := [p.1]
theorem prC_len (p : Value × List En) : (prC p).length = 1 := rfl
theorem kcPr : Try.prog.cellsOf 30 = 1 := by kernel_rfl
structure PrW {H : Type} (w : World) (p : Value × List En) (cs : List Value) (y : DataW H) : Prop where
  cells : cs = prC p
  es : EsOk w p.1 p.2 (∀ n ∈ y.weights Try.prog 30, n ≤ reachBytes)
section
variable {H : Type} {enc : TypeId × Value → H} {w : World}
set_option maxRecDepth 100000 in
theorem prs_open {a : Option Addr} {n cap : Nat} {d : DataW H} {p : List MemPlace} (h : DataW.Trod enc Try.prog w 0 (fun _ => true) true 48 (.slice a n cap) d p) (hz : ∀ n ∈ d.weights Try.prog 48, n ≤ reachBytes) : ∃ l : List (Value × List En), n = l.length ∧ RowAt prC w (.slice a n cap) l ∧ l.length ≤ maxLen ∧ ∀ q ∈ l, EsOk w q.1 q.2 True := by
  obtain ⟨fuel, hf0⟩ := h
  have hf : DataW.trod enc Try.prog w 0 (fun _ => true) true fuel 48 [.slice a n cap] = some (d, p) := hf0
  obtain ⟨a', len, cap', l, hv, hr⟩ := open_row Try.underlying48 kcPr (by omega) (PrW (H := H) w) (fun fuel cs x h => by
    obtain ⟨c, hc⟩ : ∃ c, cs = [c] := by
      rcases DataW.trod_slice Try.underlying30 h with ⟨h0, _⟩ | ⟨a, len, cap, elems, rest, n, _, hcs, _⟩
      · exact ⟨_, h0⟩
      · exact ⟨_, hcs⟩
    subst hc
    obtain ⟨es, he⟩ := ents_weigh h
    exact ⟨(c, es), rfl, he⟩) hf
  injection hv with e1 e2 e3
  subst e1 e2 e3
  have hrow := hr.row (by decide) prC_len (fun _ _ _ h => h.cells)
  have hlen := hr.len_eq
  have hmax := hr.le_max
  refine ⟨l, hlen.symm, hrow, by omega, ?_⟩
  rcases hr.ex with ⟨_, h0, _, hd⟩ | ⟨x0, es, sp, _, e, he, hj, _⟩
  · have : l = [] := List.eq_nil_of_length_eq_zero (by omega)
    subst this
    exact fun e he => by cases he
  · have e' : d = .slice es sp := e
    rw [e'] at hz
    simp only [DataW.weights, Try.underlying48] at hz
    intro q hq
    obtain ⟨j, hj1, rfl⟩ := List.mem_iff_getElem.1 hq
    obtain ⟨cs, hL, _⟩ := hj j hj1 (by omega)
    have hw : ∀ n ∈ (es[j]'(by omega)).weights Try.prog 30, n ≤ reachBytes := fun n hn => hz _ (List.mem_cons_of_mem _ (List.mem_append_left _ (weights_all (List.getElem_mem (l := es) (n := j) (by omega)) hn)))
    exact ⟨hL.es.row, hL.es.slots, fun _ => hL.es.len hw, fun _ => hL.es.names hw⟩
end
end Go.Proofs.Ytmlgoecdefeapaa
