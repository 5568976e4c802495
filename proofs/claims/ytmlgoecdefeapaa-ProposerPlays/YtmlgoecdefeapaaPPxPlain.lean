/-
  A proposer behind some deeds, as plain data: how many there are of all that it keeps, where its slots lie. No condition.
-/
import Derived.Test.YtmlgoecdefeapaaPPrRefK
import Derived.Test.YtmlgoecdefeapaaPPxTop
namespace Go.Proofs.Ytmlgoecdefeapaa
open Go.RowKit

/-- Behind k deeds. -/
structure PlQ (q : Pp) (n f : Int) (k : Nat) : Prop where
  nn : q.n = n
  ff : q.f = f
  bl : q.best.length ≤ 1000 * k
  bs : ∀ e ∈ q.best, f ≤ e.slot ∧ e.slot ≤ f + 1000
  who : q.who.length ≤ k ∧ ∀ i ∈ q.who, okI i
  sl : ∀ x ∈ q.l, x.who.length ≤ k ∧ ∀ i ∈ x.who, okI i
  ln : q.l.length ≤ 1002 + k
  nx : 0 ≤ q.next ∧ q.next ≤ f + 1002 + k
  vl : q.vals.length ≤ 1002
  fit : Fit q
section
variable {q : Pp} {n f : Int} {k : Nat}
theorem plq_new (n b f : Int) (hf : 1 ≤ f) : PlQ (Pp.new n b f) n f 0 :=
  ⟨rfl, rfl, Nat.zero_le _, fun e he => absurd he List.not_mem_nil, ⟨Nat.zero_le _, fun i hi => absurd hi List.not_mem_nil⟩, fun x hx => absurd hx List.not_mem_nil, Nat.zero_le _, ⟨Int.le_refl _, by show (0 : Int) ≤ _; omega⟩, Nat.zero_le _, fit_new n b f⟩
theorem PlQ.lim (h : PlQ q n f k) (hf : 1 ≤ f ∧ f ≤ 1099511627776) (hk : k ≤ 200) : Lim q :=
  ⟨by rw [h.ff]; exact hf.1, by rw [h.ff]; exact hf.2, fun e he => by rw [h.ff]; exact (h.bs e he).2, fun _ => by rw [h.ff]; have := h.nx; omega⟩
theorem PlQ.more (h : PlQ q n f k) : PlQ q n f (k + 1) :=
  ⟨h.nn, h.ff, by have := h.bl; omega, h.bs, ⟨by have := h.who.1; omega, h.who.2⟩, fun x hx => ⟨by have := (h.sl x hx).1; omega, (h.sl x hx).2⟩, by have := h.ln; omega, ⟨h.nx.1, by have := h.nx.2; omega⟩, h.vl, h.fit⟩
theorem PlQ.prom (h : PlQ q n f k) (hf : 1 ≤ f) {es : List En} (hes : es.length ≤ 1000) (hs : ∀ e ∈ es, e.slot ≤ f + 1000) (m who : Int) (hw : okI who) : PlQ (promP m q who es).1 n f (k + 1) := by
  have hfit := fit_prom h.fit m who es
  by_cases hr : q.is = true ∨ who < 0 ∨ q.n ≤ who ∨ who ∈ q.who
  · have e : promP m q who es = (q, false) := by
      unfold promP
      rw [if_pos hr]
    rw [e]
    exact h.more
  · have hi : q.is = false := by
      cases hp : q.is with
      | false => rfl
      | true => exact absurd (Or.inl hp) hr
    obtain ⟨hv, hl⟩ := h.fit.early hi
    have b1 : (insA q.f q.best es).length ≤ 1000 * (k + 1) := by
      have := insA_length q.f es q.best
      have := h.bl
      omega
    have b2 : ∀ e ∈ insA q.f q.best es, f ≤ e.slot ∧ e.slot ≤ f + 1000 := fun e he => by
      rcases insA_mem he with h5 | h5
      · rw [h.ff] at h5
        exact ⟨h5.2, hs e h5.1⟩
      · exact h.bs e h5
    have b3 : (q.who ++ [who]).length ≤ k + 1 ∧ ∀ i ∈ q.who ++ [who], okI i := by
      refine ⟨by rw [List.length_append, List.length_singleton]; have := h.who.1; omega, fun i hi => ?_⟩
      rcases List.mem_append.1 hi with h5 | h5
      · exact h.who.2 i h5
      · rw [List.mem_singleton.1 h5]
        exact hw
    by_cases hm : ((q.who.length : Int) + 1) < m
    · have e : promP m q who es = (countP q who es, false) := by
        unfold promP
        rw [if_neg hr, if_pos hm]
      rw [e] at hfit ⊢
      exact ⟨h.nn, h.ff, b1, b2, b3, h.more.sl, h.more.ln, h.more.nx, h.vl, hfit⟩
    · have e : promP m q who es = (readyP (countP q who es), true) := by
        unfold promP
        rw [if_neg hr, if_neg hm]
      rw [e] at hfit ⊢
      have c1 := lastS_ge (insA q.f q.best es) (q.f - 1)
      have c2 : lastS (q.f - 1) (insA q.f q.best es) ≤ f + 1000 := lastS_le (by rw [h.ff]; omega) (fun x hx => (b2 x hx).2)
      have c3 := valsR_length q.b q.f (insA q.f q.best es)
      have ev : (readyP (countP q who es)).vals = valsR q.b q.f (insA q.f q.best es) := by
        show q.vals ++ _ = _
        rw [hv]
        rfl
      have el : (readyP (countP q who es)).l = (valsR q.b q.f (insA q.f q.best es)).map slOf := by
        show q.l ++ (q.vals ++ _).map slOf = _
        rw [hv, hl]
        rfl
      have hff := h.ff
      refine ⟨h.nn, h.ff, b1, b2, b3, fun x hx => ?_, ?_, ?_, ?_, hfit⟩
      · rw [el] at hx
        obtain ⟨y, _, rfl⟩ := List.mem_map.1 hx
        exact ⟨Nat.zero_le _, fun i hi => absurd hi List.not_mem_nil⟩
      · rw [el, List.length_map]
        omega
      · show 0 ≤ lastS (q.f - 1) (insA q.f q.best es) + 2 ∧ lastS (q.f - 1) (insA q.f q.best es) + 2 ≤ _
        omega
      · rw [ev]
        omega
theorem accL_mem {m s who : Int} : ∀ {l : List Sl} {x : Sl}, x ∈ (accL m s who l).1 → x ∈ l ∨ ∃ y ∈ l, x.who = y.who ++ [who]
  | [], x, h => by cases h
  | y :: t, x, h => by
    unfold accL at h
    split at h
    · rcases List.mem_cons.1 h with h5 | h5
      · exact Or.inl (by rw [h5]; exact List.mem_cons_self)
      · rcases accL_mem h5 with h6 | ⟨z, hz, e⟩
        · exact Or.inl (List.mem_cons_of_mem _ h6)
        · exact Or.inr ⟨z, List.mem_cons_of_mem _ hz, e⟩
    · rcases List.mem_cons.1 h with h5 | h5
      · exact Or.inr ⟨y, List.mem_cons_self, by rw [h5]⟩
      · exact Or.inl (List.mem_cons_of_mem _ h5)
theorem PlQ.acc (h : PlQ q n f k) (m who s : Int) (hw : okI who) : PlQ (accP m q who s).1 n f (k + 1) := by
  have hfit := fit_acc h.fit m who s
  by_cases hr : who < 0 ∨ q.n ≤ who
  · have e : accP m q who s = (q, false) := by
      unfold accP
      rw [if_pos hr]
    rw [e]
    exact h.more
  · have e : accP m q who s = (⟨q.n, q.b, q.f, q.who, q.best, q.is, q.vals, q.next, (accL m s who q.l).1⟩, (accL m s who q.l).2) := by
      unfold accP
      rw [if_neg hr]
    rw [e] at hfit ⊢
    refine ⟨h.nn, h.ff, h.more.bl, h.bs, h.more.who, fun x hx => ?_, ?_, h.more.nx, h.vl, hfit⟩
    · rcases accL_mem hx with h5 | ⟨y, hy, e5⟩
      · exact h.more.sl x h5
      · rw [e5]
        refine ⟨by rw [List.length_append, List.length_singleton]; have := (h.sl y hy).1; omega, fun i hi => ?_⟩
        rcases List.mem_append.1 hi with h6 | h6
        · exact (h.sl y hy).2 i h6
        · rw [List.mem_singleton.1 h6]
          exact hw
    · have h5 := congrArg List.length (accL_slots m s who q.l)
      rw [List.length_map, List.length_map] at h5
      show (accL m s who q.l).1.length ≤ _
      rw [h5]
      exact h.more.ln
theorem PlQ.prop (h : PlQ q n f k) (c : Cm) : PlQ (propP q c).1 n f (k + 1) := by
  have hfit := fit_prop h.fit c
  by_cases hi : q.is = true
  · have e : propP q c = (⟨q.n, q.b, q.f, q.who, q.best, q.is, q.vals, q.next + 1, q.l ++ [slOf (nextE q c)]⟩, nextE q c) := by
      unfold propP
      rw [if_pos hi]
    rw [e] at hfit ⊢
    refine ⟨h.nn, h.ff, h.more.bl, h.bs, h.more.who, fun x hx => ?_, ?_, ?_, h.vl, hfit⟩
    · rcases List.mem_append.1 hx with h5 | h5
      · exact h.more.sl x h5
      · rw [List.mem_singleton.1 h5]
        exact ⟨Nat.zero_le _, fun i hi => absurd hi List.not_mem_nil⟩
    · show (q.l ++ [slOf (nextE q c)]).length ≤ _
      rw [List.length_append, List.length_singleton]
      have := h.ln
      omega
    · have := h.nx
      show 0 ≤ q.next + 1 ∧ q.next + 1 ≤ _
      omega
  · have e : propP q c = (q, En.zero) := by
      unfold propP
      rw [if_neg hi]
    rw [e]
    exact h.more
theorem PlQ.cho (h : PlQ q n f k) (s : Int) : PlQ (choP q s) n f (k + 1) :=
  ⟨h.nn, h.ff, h.more.bl, h.bs, h.more.who, fun x hx => h.more.sl x (List.mem_filter.1 hx).1, Nat.le_trans (List.length_filter_le _ _) h.more.ln, h.more.nx, h.vl, fit_cho h.fit s⟩
end
end Go.Proofs.Ytmlgoecdefeapaa
