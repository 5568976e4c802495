/-
  LocksTokens' plain part: each reply's token is none, or the counter, or the counter raised by one. No condition.
-/
import Derived.Test.YtmfadmhbkgemmaaTLcOrdP
import Derived.Test.YtmfadmhbkgemmaaTLcGone
namespace Go.Proofs.Ytmfadmhbkgemmaa
open Go.RowKit

def runT : Int → List SeR → Int → Prop
  | c, [], e => c = e
  | c, r :: rs, e => ∃ d, ((r.token = 0 ∧ d = c) ∨ (r.token = d ∧ (d = c ∨ d = c + 1))) ∧ runT d rs e
theorem runT.app : ∀ {a : List SeR} {c d e : Int} {b : List SeR}, runT c a d → runT d b e → runT c (a ++ b) e
  | [], _, _, _, _, h, k => by rw [show _ = _ from h]; exact k
  | _ :: _, _, _, _, _, ⟨x, h1, h2⟩, k => ⟨x, h1, runT.app h2 k⟩
theorem runT.le : ∀ {a : List SeR} {c e : Int}, runT c a e → c ≤ e
  | [], _, _, h => Int.le_of_eq h
  | _ :: _, _, _, ⟨x, h1, h2⟩ => by
    have := runT.le h2
    rcases h1 with ⟨_, rfl⟩ | ⟨_, rfl | rfl⟩ <;> omega
theorem run_none (c s n e : Int) : runT c [⟨s, n, e, 0, 0⟩] c := ⟨c, Or.inl ⟨rfl, rfl⟩, rfl⟩
theorem run_give (c : Int) (h : List Int) (wr : Bool) (x : Wq) : runT c [(giveH c h wr x).2.2.2] (giveH c h wr x).1 := by
  by_cases h1 : x.rd = true
  · rw [show giveH c h wr x = (c, putL h x.s, false, ⟨x.s, x.n, 0, c, 0⟩) from by unfold giveH; rw [if_pos h1]]
    exact ⟨c, Or.inr ⟨rfl, Or.inl rfl⟩, rfl⟩
  · by_cases h2 : c = 18446744073709551615
    · rw [show giveH c h wr x = (c, h, wr, ⟨x.s, x.n, 16, 0, 0⟩) from by unfold giveH; rw [if_neg h1, if_pos h2]]
      exact ⟨c, Or.inl ⟨rfl, rfl⟩, rfl⟩
    · rw [show giveH c h wr x = (c + 1, putL h x.s, true, ⟨x.s, x.n, 0, c + 1, 0⟩) from by unfold giveH; rw [if_neg h1, if_neg h2]]
      exact ⟨c + 1, Or.inr ⟨rfl, Or.inr rfl⟩, rfl⟩
theorem run_srv : ∀ (q : List Wq) (c : Int) (h : List Int) (b : Bool), runT c (srvH q c h b).2.2.2.2 (srvH q c h b).1
  | [], _, _, _ => rfl
  | x :: q, c, h, b => by
    unfold srvH
    by_cases hf : fitH h b x.rd = true
    · rw [if_pos hf]
      exact (run_give c h b x).app (run_srv q _ _ _)
    · rw [if_neg hf]
      rfl
theorem run_ask (c : Int) (l : List Lk) (k s n : Int) (nm : ByteArray) : runT c (askL c l k s n nm).2.2.1 (askL c l k s n nm).1 := by
  unfold askL
  by_cases hk : k ≠ 5 ∧ k ≠ 7
  · rw [if_pos hk]
    rfl
  · rw [if_neg hk]
    cases lkIx l nm with
    | none =>
      show runT c (askN c l ⟨s, n, k == 7⟩ nm).2.2.1 (askN c l ⟨s, n, k == 7⟩ nm).1
      unfold askN
      by_cases h1 : 256 ≤ l.length
      · rw [if_pos h1]
        exact run_none _ _ _ _
      · rw [if_neg h1]
        exact run_give _ _ _ _
    | some i =>
      show runT c (match l[i]? with | none => (c, l, [], false) | some y => askS c l i y ⟨s, n, k == 7⟩).2.2.1 (match l[i]? with | none => (c, l, [], false) | some y => askS c l i y ⟨s, n, k == 7⟩).1
      cases l[i]? with
      | none => rfl
      | some y =>
        show runT c (askS c l i y ⟨s, n, k == 7⟩).2.2.1 (askS c l i y ⟨s, n, k == 7⟩).1
        unfold askS
        by_cases h1 : inK y s = true
        · rw [if_pos h1]
          exact run_none _ _ _ _
        · rw [if_neg h1]
          by_cases h2 : y.q.length = 0 ∧ (k == 7) = true ∧ y.wr = false
          · rw [if_pos h2]
            exact run_give _ _ _ _
          · rw [if_neg h2]
            rfl
theorem run_rel (c : Int) (l : List Lk) (k s n : Int) (nm : ByteArray) : runT c (relL c l k s n nm).2.2 (relL c l k s n nm).1 := by
  unfold relL
  by_cases hk : k ≠ 6 ∧ k ≠ 8
  · rw [if_pos hk]
    rfl
  · rw [if_neg hk]
    cases lkIx l nm with
    | none => exact run_none _ _ _ _
    | some i =>
      dsimp only
      cases l[i]? with
      | none => exact run_none _ _ _ _
      | some y =>
        show runT c (if hasB y.h s = false ∨ y.wr ≠ (k == 6) then (c, l, [⟨s, n, 13, 0, 0⟩]) else relS c l i y s n).2.2 (if hasB y.h s = false ∨ y.wr ≠ (k == 6) then (c, l, [⟨s, n, 13, 0, 0⟩]) else relS c l i y s n).1
        by_cases h1 : hasB y.h s = false ∨ y.wr ≠ (k == 6)
        · rw [if_pos h1]
          exact run_none _ _ _ _
        · rw [if_neg h1]
          unfold relS
          exact (run_none c s n 0).app (run_srv _ _ _ _)
theorem run_outK (x : Lk) (c s : Int) : runT c (outK x c s).2.2 (outK x c s).1 := by
  unfold outK
  by_cases h : inK x s = true
  · rw [if_pos h]
    exact run_srv _ _ _ _
  · rw [if_neg h]
    rfl
theorem run_outL (s : Int) : ∀ (l : List Lk) (c : Int), runT c (outL l c s).2.2 (outL l c s).1
  | [], _ => rfl
  | x :: l, c => by
    unfold outL
    exact (run_outK x c s).app (run_outL s l _)
theorem run_gon (c : Int) (l : List Lk) (s : Int) : runT c (gonL c l s).2.2 (gonL c l s).1 := run_outL s l c
theorem few_srv (q : List Wq) (c : Int) (h : List Int) (b : Bool) : (srvH q c h b).2.2.2.2.length ≤ q.length := by
  have h1 := congrArg List.length (srv_order q c h b)
  simp only [List.length_append, List.length_map] at h1
  omega
theorem few_ask (c : Int) (l : List Lk) (k s n : Int) (nm : ByteArray) : (askL c l k s n nm).2.2.1.length ≤ 1 := by
  unfold askL
  split
  · exact Nat.zero_le _
  · split
    · unfold askN
      split <;> exact Nat.le_refl _
    · split
      · exact Nat.zero_le _
      · unfold askS
        split
        · exact Nat.le_refl _
        · split
          · exact Nat.le_refl _
          · exact Nat.zero_le _
theorem few_rel {N : Nat} (c : Int) (l : List Lk) (k s n : Int) (nm : ByteArray) (h : ∀ x ∈ l, x.h.length + x.q.length ≤ N) : (relL c l k s n nm).2.2.length ≤ N + 1 := by
  unfold relL
  split
  · exact Nat.zero_le _
  · split
    · exact Nat.le_add_left 1 N
    · split
      · exact Nat.le_add_left 1 N
      · rename_i i _ _ y hy
        split
        · exact Nat.le_add_left 1 N
        · unfold relS
          have h1 := few_srv y.q c (dropL y.h s) y.wr
          have h2 := h y (List.mem_of_getElem? hy)
          show (srvH y.q c (dropL y.h s) y.wr).2.2.2.2.length + 1 ≤ N + 1
          omega
theorem few_gon {N : Nat} (c : Int) (l : List Lk) (s : Int) (h : ∀ x ∈ l, x.h.length + x.q.length ≤ N) (hi : ∀ x ∈ l, LkInv x) (hl : l.length ≤ 256) : (gonL c l s).2.2.length ≤ 256 * N := by
  have h1 := outL_few (c := c) (s := s) h hi l.length (Nat.le_refl _)
  rw [List.take_length] at h1
  exact Nat.le_trans h1 (Nat.mul_le_mul_right N hl)
end Go.Proofs.Ytmfadmhbkgemmaa
