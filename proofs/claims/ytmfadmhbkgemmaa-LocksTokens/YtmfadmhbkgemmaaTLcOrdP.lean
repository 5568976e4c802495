/-
  LocksOrder's plain part: one lock, asked for by one session behind the other, let go of by the first that holds it. No condition.
-/
import Derived.Test.YtmfadmhbkgemmaaTLcAwake
namespace Go.Proofs.Ytmfadmhbkgemmaa
open Go.RowKit

/-- Grants come in the order of waiting. -/
theorem srv_order : ∀ (q : List Wq) (c : Int) (h : List Int) (b : Bool), (srvH q c h b).2.2.2.2.map (·.session) ++ (srvH q c h b).2.2.2.1.map (·.s) = q.map (·.s)
  | [], _, _, _ => rfl
  | x :: q, c, h, b => by
    unfold srvH
    by_cases hf : fitH h b x.rd = true
    · rw [if_pos hf]
      have hs : (giveH c h b x).2.2.2.session = x.s := by
        unfold giveH
        split
        · rfl
        · split <;> rfl
      simp only [List.map_cons, List.cons_append, hs, srv_order q]
    · rw [if_neg hf]
      rfl
end Go.Proofs.Ytmfadmhbkgemmaa
