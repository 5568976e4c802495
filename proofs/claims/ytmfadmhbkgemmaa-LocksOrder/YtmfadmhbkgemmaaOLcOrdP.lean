/-
  LocksOrder's plain part: one lock, asked for by one session behind the other, let go of by the first that holds it. No condition.
-/
import Derived.Test.YtmfadmhbkgemmaaOLcAwake
namespace Go.Proofs.Ytmfadmhbkgemmaa
open Go.RowKit

/-- While they ask: i have asked. -/
structure OrdP (i : Nat) (l : List Lk) (q : List Int) : Prop where
  ex : (i = 0 ∧ l = [] ∧ q = []) ∨ (0 < i ∧ ∃ h wr ws, l = [⟨kaN, h, wr, ws⟩] ∧ ws.map (·.s) = q ∧ (∀ a ∈ h, a ≤ (i : Int)) ∧ (∀ a ∈ q, a ≤ (i : Int)) ∧ h.length + ws.length ≤ i)
theorem lkIx_one (h : List Int) (wr : Bool) (ws : List Wq) : lkIx [⟨kaN, h, wr, ws⟩] kaN = some 0 := by
  unfold lkIx
  rw [List.findIdx?_cons]
  simp
def ordK (b : Bool) : Int := if b = true then 7 else 5
theorem ordK_7 (b : Bool) : ((ordK b) == 7 : Bool) = b := by cases b <;> rfl
theorem ordK_no (b : Bool) : ¬ (ordK b ≠ 5 ∧ ordK b ≠ 7) := by cases b <;> decide
theorem ord_ask {i : Nat} {c : Int} {l : List Lk} {q : List Int} (h : OrdP i l q) (ok : LcOk l) (hc : i = 0 → c = 0) (b : Bool) :
    (∃ r, (askL c l (ordK b) ((i : Int) + 1) 1 kaN).2.2 = ([r], false) ∧ OrdP (i + 1) (askL c l (ordK b) ((i : Int) + 1) 1 kaN).2.1 q) ∨
    ((askL c l (ordK b) ((i : Int) + 1) 1 kaN).2.2 = ([], true) ∧ OrdP (i + 1) (askL c l (ordK b) ((i : Int) + 1) 1 kaN).2.1 (q ++ [(i : Int) + 1])) := by
  rcases h.ex with ⟨rfl, rfl, rfl⟩ | ⟨h0, hh, wr, ws, rfl, hq, hb, hqb, hl⟩
  · obtain rfl := hc rfl
    cases b
    · exact Or.inl ⟨_, rfl, ⟨Or.inr ⟨by omega, [1], true, [], rfl, rfl, by simp, by simp, by decide⟩⟩⟩
    · exact Or.inl ⟨_, rfl, ⟨Or.inr ⟨by omega, [1], false, [], rfl, rfl, by simp, by simp, by decide⟩⟩⟩
  · have hnh : hasB hh ((i : Int) + 1) = false := by
      unfold hasB
      rw [decide_eq_false_iff_not]
      intro e
      have := hb _ e
      omega
    have hnw : waitB ws ((i : Int) + 1) = false := by
      unfold waitB
      rw [List.any_eq_false]
      intro y hy
      have : y.s ≤ (i : Int) := hqb _ (by rw [← hq]; exact List.mem_map.2 ⟨y, hy, rfl⟩)
      have hne : y.s ≠ (i : Int) + 1 := by omega
      simpa using hne
    have e : askL c [⟨kaN, hh, wr, ws⟩] (ordK b) ((i : Int) + 1) 1 kaN = askS c [⟨kaN, hh, wr, ws⟩] 0 ⟨kaN, hh, wr, ws⟩ ⟨(i : Int) + 1, 1, b⟩ := by
      unfold askL
      rw [if_neg (ordK_no b), lkIx_one, ordK_7]
      rfl
    rw [e]
    unfold askS inK
    rw [show (⟨kaN, hh, wr, ws⟩ : Lk).h = hh from rfl, show (⟨kaN, hh, wr, ws⟩ : Lk).q = ws from rfl, hnh, hnw, if_neg (by decide)]
    by_cases hg : ws.length = 0 ∧ b = true ∧ wr = false
    · rw [if_pos hg]
      obtain ⟨g1, rfl, rfl⟩ := hg
      refine Or.inl ⟨_, rfl, ⟨Or.inr ⟨by omega, _, _, ws, rfl, hq, fun a ha => ?_, fun a ha => by have := hqb a ha; omega, ?_⟩⟩⟩
      · have ha : a ∈ putL hh ((i : Int) + 1) := ha
        have hp := (putL_perm (List.Perm.refl hh) ((i : Int) + 1)).mem_iff.2 ha
        rw [List.mem_append, List.mem_singleton] at hp
        rcases hp with h1 | h1
        · have := hb a h1; omega
        · omega
      · show (putL hh ((i : Int) + 1)).length + ws.length ≤ i + 1
        rw [putL_len]
        omega
    · rw [if_neg hg]
      refine Or.inr ⟨rfl, ⟨Or.inr ⟨by omega, hh, wr, ws ++ [⟨(i : Int) + 1, 1, b⟩], rfl, by rw [List.map_append, hq]; rfl, fun a ha => by have := hb a ha; omega, fun a ha => ?_, by rw [List.length_append, List.length_singleton]; omega⟩⟩⟩
      rcases List.mem_append.1 ha with h1 | h1
      · have := hqb a h1; omega
      · rw [List.mem_singleton.1 h1]; omega
/-- While they let go: n have. -/
structure OrdJ (n : Nat) (l : List Lk) (q : List Int) : Prop where
  ex : (l = [] ∧ q = []) ∨ ∃ h wr ws, l = [⟨kaN, h, wr, ws⟩] ∧ ws.map (·.s) = q ∧ h.length + ws.length + n ≤ 50
theorem OrdP.start {i : Nat} {l : List Lk} {q : List Int} (h : OrdP i l q) (hi : i ≤ 50) : OrdJ 0 l q := by
  rcases h.ex with ⟨_, h1, h2⟩ | ⟨_, hh, wr, ws, h1, h2, _, _, h3⟩
  · exact ⟨Or.inl ⟨h1, h2⟩⟩
  · exact ⟨Or.inr ⟨hh, wr, ws, h1, h2, by omega⟩⟩
/-- Grants come in the order of waiting. -/
theorem srv_order : ∀ (q : List Wq) (c : Int) (h : List Int) (b : Bool), (srvH q c h b).2.2.2.2.map (·.session) ++ (srvH q c h b).2.2.2.1.map (·.s) = q.map (·.s)
  | [], _, _, _ => rfl
  | x :: q, c, h, b => by
    unfold srvH
    by_cases hf : fitH h b x.rd = true
    · rw [if_pos hf]
      have hs : (giveH c h b x).2.2.2.session = x.s := by
        unfold giveH
        split
        · rfl
        · split <;> rfl
      simp only [List.map_cons, List.cons_append, hs, srv_order q]
    · rw [if_neg hf]
      rfl
theorem srv_lens : ∀ (q : List Wq) (c : Int) (h : List Int) (b : Bool), (srvH q c h b).2.1.length + (srvH q c h b).2.2.2.1.length ≤ h.length + q.length
  | [], _, _, _ => Nat.le_refl _
  | x :: q, c, h, b => by
    unfold srvH
    by_cases hf : fitH h b x.rd = true
    · rw [if_pos hf]
      have h1 := srv_lens q (giveH c h b x).1 (giveH c h b x).2.1 (giveH c h b x).2.2.1
      have h2 := giveH_le c h b x
      simp only [List.length_cons]
      omega
    · rw [if_neg hf]
      exact Nat.le_refl _
theorem ordJ_hold {n : Nat} {l : List Lk} {q : List Int} (h : OrdJ n l q) (ok : LcOk l) : (holL l kaN = ([], false) ∧ q = []) ∨ ∃ a h' wr, holL l kaN = (a :: h', wr) ∧ l ≠ [] := by
  rcases h.ex with ⟨rfl, rfl⟩ | ⟨hh, wr, ws, rfl, hq, hl⟩
  · exact Or.inl ⟨rfl, rfl⟩
  · have hne := (ok.each _ List.mem_cons_self).ne
    refine Or.inr ?_
    cases hh with
    | nil => exact absurd hne (by simp)
    | cons a h' =>
      refine ⟨a, h', wr, ?_, by simp⟩
      unfold holL
      rw [lkIx_one]
      rfl
def ordR (b : Bool) : Int := if b = true then 6 else 8
theorem ord_rel {n : Nat} {c : Int} {l : List Lk} {q : List Int} (h : OrdJ n l q) (ok : LcOk l) {a : Int} {h' : List Int} {wr : Bool} (hh : holL l kaN = (a :: h', wr)) :
    ∃ gs q', (relL c l (ordR wr) a 2 kaN).2.2 = ⟨a, 2, 0, 0, 0⟩ :: gs ∧ gs.map (·.session) ++ q' = q ∧ OrdJ (n + 1) (relL c l (ordR wr) a 2 kaN).2.1 q' := by
  rcases h.ex with ⟨rfl, rfl⟩ | ⟨hd, wd, ws, rfl, hq, hl⟩
  · cases hh
  · have hy := ok.each _ List.mem_cons_self
    have e0 : hd = a :: h' ∧ wd = wr := by
      unfold holL at hh
      rw [lkIx_one] at hh
      have hh : (if hd.length = 0 then ([], false) else (hd, wd)) = (a :: h', wr) := hh
      have hne := hy.ne
      rw [if_neg (by show ¬ hd.length = 0; have : 0 < hd.length := hne; omega)] at hh
      simp only [Prod.mk.injEq] at hh
      exact hh
    obtain ⟨rfl, rfl⟩ := e0
    have hb : hasB (a :: h') a = true := by unfold hasB; simp
    have e : relL c [⟨kaN, a :: h', wd, ws⟩] (ordR wd) a 2 kaN = relS c [⟨kaN, a :: h', wd, ws⟩] 0 ⟨kaN, a :: h', wd, ws⟩ a 2 := by
      unfold relL
      rw [if_neg (by cases wd <;> decide), lkIx_one]
      show (if hasB (a :: h') a = false ∨ wd ≠ ((ordR wd) == 6 : Bool) then _ else _) = _
      rw [if_neg (by rw [hb]; cases wd <;> decide)]
    have hlq : lessQ ws a = ws := lessQ_none (by
      unfold waitB
      rw [List.any_eq_false]
      intro z hz
      have := hy.pre.ap z hz
      have hne : z.s ≠ a := fun e => by rw [e] at this; rw [show (⟨kaN, a :: h', wd, ws⟩ : Lk).h = a :: h' from rfl, hb] at this; cases this
      simpa using hne)
    have hdl : (dropL (a :: h') a).length ≤ h'.length := by
      unfold dropL
      rw [List.filter_cons, if_neg (by simp)]
      exact List.length_filter_le _ _
    rw [e, relS_eq hy hb 2]
    have ho := srv_order (lessQ ws a) c (dropL (a :: h') a) wd
    have hlen := srv_lens (lessQ ws a) c (dropL (a :: h') a) wd
    rw [hlq] at ho hlen
    refine ⟨(pdK ⟨kaN, a :: h', wd, ws⟩ c a).2.2, (srvH ws c (dropL (a :: h') a) wd).2.2.2.1.map (·.s), rfl, ?_, ?_⟩
    · show (srvH (lessQ ws a) c (dropL (a :: h') a) wd).2.2.2.2.map (·.session) ++ _ = q
      rw [hlq, ho, hq]
    · show OrdJ (n + 1) (tidyL [(pdK ⟨kaN, a :: h', wd, ws⟩ c a).2.1]) _
      have hz := (pdK_pre hy c a).1
      unfold tidyL
      rw [List.filter_cons, liveK_pre hz]
      by_cases hlv : 0 < (pdK ⟨kaN, a :: h', wd, ws⟩ c a).2.1.h.length
      · rw [decide_eq_true hlv]
        refine ⟨Or.inr ⟨_, _, _, rfl, ?_, ?_⟩⟩
        · show (srvH (lessQ ws a) c (dropL (a :: h') a) wd).2.2.2.1.map (·.s) = _
          rw [hlq]
        · show (srvH (lessQ ws a) c (dropL (a :: h') a) wd).2.1.length + (srvH (lessQ ws a) c (dropL (a :: h') a) wd).2.2.2.1.length + (n + 1) ≤ 50
          rw [hlq]
          simp only [List.length_cons] at hl
          omega
      · rw [decide_eq_false hlv]
        refine ⟨Or.inl ⟨rfl, ?_⟩⟩
        have hnl := liveK_pre hz
        rw [decide_eq_false hlv] at hnl
        unfold liveK at hnl
        simp only [Bool.or_eq_false_iff, decide_eq_false_iff_not] at hnl
        have hq0 : (srvH (lessQ ws a) c (dropL (a :: h') a) wd).2.2.2.1.length = 0 := by
          have := hnl.2
          have e9 : (pdK ⟨kaN, a :: h', wd, ws⟩ c a).2.1.q = (srvH (lessQ ws a) c (dropL (a :: h') a) wd).2.2.2.1 := rfl
          rw [e9] at this
          omega
        rw [hlq] at hq0
        rw [List.eq_nil_of_length_eq_zero hq0]
        rfl
end Go.Proofs.Ytmfadmhbkgemmaa
