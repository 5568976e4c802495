/-
  LocksAlone's plain part: who holds for writing holds alone. No condition.
-/
import Derived.Test.YtmfadmhbkgemmaaQLcTokP
import Derived.Test.YtmfadmhbkgemmaaQLcQueue
namespace Go.Proofs.Ytmfadmhbkgemmaa
open Go.RowKit

def oneW (x : Lk) : Prop := x.wr = true → x.h.length ≤ 1
def AlnL (l : List Lk) : Prop := ∀ x ∈ l, oneW x
theorem one_give {c : Int} {h : List Int} {wr : Bool} {x : Wq} (hf : fitH h wr x.rd = true) (ho : wr = true → h.length ≤ 1) : (giveH c h wr x).2.2.1 = true → (giveH c h wr x).2.1.length ≤ 1 := by
  by_cases h1 : x.rd = true
  · rw [show giveH c h wr x = (c, putL h x.s, false, ⟨x.s, x.n, 0, c, 0⟩) from by unfold giveH; rw [if_pos h1]]
    exact fun e => by cases e
  · by_cases h2 : c = 18446744073709551615
    · rw [show giveH c h wr x = (c, h, wr, ⟨x.s, x.n, 16, 0, 0⟩) from by unfold giveH; rw [if_neg h1, if_pos h2]]
      exact ho
    · rw [show giveH c h wr x = (c + 1, putL h x.s, true, ⟨x.s, x.n, 0, c + 1, 0⟩) from by unfold giveH; rw [if_neg h1, if_neg h2]]
      intro _
      have h3 : x.rd = false := by simpa using h1
      unfold fitH at hf
      rw [h3] at hf
      simp only [Bool.false_and, Bool.or_false, decide_eq_true_eq] at hf
      show (putL h x.s).length ≤ 1
      rw [putL_len]
      omega
theorem one_srv : ∀ (q : List Wq) (c : Int) (h : List Int) (b : Bool), (b = true → h.length ≤ 1) → (srvH q c h b).2.2.1 = true → (srvH q c h b).2.1.length ≤ 1
  | [], _, _, _, ho => ho
  | x :: q, c, h, b, ho => by
    unfold srvH
    by_cases hf : fitH h b x.rd = true
    · rw [if_pos hf]
      exact one_srv q _ _ _ (one_give hf ho)
    · rw [if_neg hf]
      exact ho
theorem one_less {h : List Int} {s : Int} {b : Bool} (ho : b = true → h.length ≤ 1) : b = true → (dropL h s).length ≤ 1 := fun e => by
  have h1 := ho e
  have h2 : (dropL h s).length ≤ h.length := by
    unfold dropL
    exact List.length_filter_le _ _
  omega
theorem aln_ask {c : Int} {l : List Lk} (k s n : Int) (nm : ByteArray) (h : AlnL l) : AlnL (askL c l k s n nm).2.1 := by
  unfold askL
  by_cases hk : k ≠ 5 ∧ k ≠ 7
  · rw [if_pos hk]
    exact h
  · rw [if_neg hk]
    cases lkIx l nm with
    | none =>
      show AlnL (askN c l ⟨s, n, k == 7⟩ nm).2.1
      unfold askN
      by_cases h1 : 256 ≤ l.length
      · rw [if_pos h1]
        exact h
      · rw [if_neg h1]
        show AlnL (if (giveH c [] false ⟨s, n, k == 7⟩).2.2.2.err = 0 then addL l ⟨nm, (giveH c [] false ⟨s, n, k == 7⟩).2.1, (giveH c [] false ⟨s, n, k == 7⟩).2.2.1, []⟩ else l)
        by_cases h2 : (giveH c [] false ⟨s, n, k == 7⟩).2.2.2.err = 0
        · rw [if_pos h2]
          intro y hy
          rcases addL_mem hy with rfl | hy
          · exact one_give (x := ⟨s, n, k == 7⟩) (by unfold fitH; simp) (fun e => by cases e)
          · exact h y hy
        · rw [if_neg h2]
          exact h
    | some i =>
      dsimp only
      cases hi : l[i]? with
      | none => exact h
      | some y =>
        show AlnL (askS c l i y ⟨s, n, k == 7⟩).2.1
        have hy := h y (List.mem_of_getElem? hi)
        unfold askS
        by_cases h1 : inK y s = true
        · rw [if_pos h1]
          exact h
        · rw [if_neg h1]
          by_cases h2 : y.q.length = 0 ∧ (k == 7) = true ∧ y.wr = false
          · rw [if_pos h2]
            intro z hz
            rcases List.mem_or_eq_of_mem_set hz with hz | rfl
            · exact h z hz
            · refine one_give (x := ⟨s, n, k == 7⟩) ?_ hy
              unfold fitH
              rw [show (⟨s, n, k == 7⟩ : Wq).rd = (k == 7) from rfl, h2.2.1, h2.2.2]
              simp
          · rw [if_neg h2]
            intro z hz
            rcases List.mem_or_eq_of_mem_set hz with hz | rfl
            · exact h z hz
            · exact hy
theorem aln_tidy {l : List Lk} (h : AlnL l) : AlnL (tidyL l) := fun x hx => h x (List.mem_filter.1 hx).1
theorem aln_rel {c : Int} {l : List Lk} (k s n : Int) (nm : ByteArray) (h : AlnL l) : AlnL (relL c l k s n nm).2.1 := by
  unfold relL
  by_cases hk : k ≠ 6 ∧ k ≠ 8
  · rw [if_pos hk]
    exact h
  · rw [if_neg hk]
    cases lkIx l nm with
    | none => exact h
    | some i =>
      dsimp only
      cases hi : l[i]? with
      | none => exact h
      | some y =>
        dsimp only
        have hy := h y (List.mem_of_getElem? hi)
        by_cases h1 : hasB y.h s = false ∨ y.wr ≠ (k == 6)
        · rw [if_pos h1]
          exact h
        · rw [if_neg h1]
          unfold relS
          refine aln_tidy fun z hz => ?_
          rcases List.mem_or_eq_of_mem_set hz with hz | rfl
          · exact h z hz
          · exact one_srv y.q c _ _ (one_less hy)
theorem aln_outL (s : Int) : ∀ (l : List Lk) (c : Int), AlnL l → AlnL (outL l c s).2.1
  | [], _, _ => fun x hx => by cases hx
  | y :: l, c, h => by
    unfold outL
    intro z hz
    rcases List.mem_cons.1 hz with rfl | hz
    · have hy := h y List.mem_cons_self
      unfold outK
      by_cases h1 : inK y s = true
      · rw [if_pos h1]
        exact one_srv _ c _ _ (one_less hy)
      · rw [if_neg h1]
        exact hy
    · exact aln_outL s l _ (fun x hx => h x (List.mem_cons_of_mem _ hx)) z hz
theorem aln_gon {c : Int} {l : List Lk} (s : Int) (h : AlnL l) : AlnL (gonL c l s).2.1 := aln_tidy (aln_outL s l c h)
theorem aln_hold {l : List Lk} (ok : LcOk l) (h : AlnL l) (nm : ByteArray) : (holL l nm = ([], false) ∧ queL l nm = []) ∨ ∃ hs wr, holL l nm = (hs, wr) ∧ 0 < hs.length ∧ (wr = true → hs.length = 1) := by
  rw [holL_look, queL_look]
  cases hk : lookK l nm with
  | none => exact Or.inl ⟨rfl, rfl⟩
  | some y =>
    have hm := (lookK_name hk).2
    have hne := (ok.each y hm).ne
    refine Or.inr ⟨y.h, y.wr, ?_, hne, fun e => ?_⟩
    · show (if y.h.length = 0 then ([], false) else (y.h, y.wr)) = _
      rw [if_neg (by omega)]
    · have := h y hm e
      omega
end Go.Proofs.Ytmfadmhbkgemmaa
