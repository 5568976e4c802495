/-
  Package msgs: Encode, for every message. The conditions: its token is of 64 bits, there are no more entries than a slice may hold.
-/
import Derived.Test.YtmmdcbgmhjheeaaGEncA
import Derived.Test.YtmmdcbgmhjheeaaMgRow
namespace Go.Proofs.Ytmmdcbgmhjheeaa
open Go.RowKit


theorem encMT_no {m : Ms} (h : mayM m = false) : encMT m = (⟨#[]⟩, 1) := by
  unfold encMT
  rw [if_neg (fun h' => by rw [h] at h'; cases h'.1)]

set_option maxHeartbeats 6400000 in
set_option maxRecDepth 100000 in
/-- A message whose command may not be. -/
theorem gencode_c (m : Ms) (v : Value) (w : World) (hc : mayB m.c = false) :
    Calls Try.prog 7 #[.agg #[.int .i64 m.k, .int .i64 m.f, .int .i64 m.t, .int .i64 m.b, .int .i64 m.sl, .int .i64 m.ro, .int .i64 m.se, .int .i64 m.er, v, .int .i64 m.c.kind, .int .i64 m.c.session, .int .i64 m.c.seq, .string m.c.name, .int .i64 m.c.n, .int .i64 m.rs, .int .i64 m.rq, .int .i64 m.re, .int .u64 m.tk, .int .i64 m.rn, .string m.x]] w fun e w' => e = .returned (.tuple #[.string ⟨#[]⟩, .int .i64 1]) ∧ Below w.heap.size w w' := by
  have ba : Below w.heap.size w (w.alloc (.cells #[.int .i64 m.k, .int .i64 m.f, .int .i64 m.t, .int .i64 m.b, .int .i64 m.sl, .int .i64 m.ro, .int .i64 m.se, .int .i64 m.er, v, .int .i64 m.c.kind, .int .i64 m.c.session, .int .i64 m.c.seq, .string m.c.name, .int .i64 m.c.n, .int .i64 m.rs, .int .i64 m.rq, .int .i64 m.re, .int .u64 m.tk, .int .i64 m.rn, .string m.x] 30)) := (Below.refl _ w).alloc (Nat.le_refl _) _
  have qc := encode_any m.c.kind m.c.session m.c.seq m.c.n m.c.name
  rw [show (⟨m.c.kind, m.c.session, m.c.seq, m.c.name, m.c.n⟩ : Cm) = m.c from rfl, show encT m.c = (⟨#[]⟩, 1) by unfold encT; rw [if_neg (by rw [hc]; simp)]] at qc
  go_enter Try.func7, Try.ntmps7
  go_wp2_with (first
    | (go_at_call 14; refine (qc _).mono ?_; rintro e w1 ⟨rfl, b1⟩))
  go_ret2
  exact ⟨rfl, bmm ba ba.size b1⟩

set_option maxHeartbeats 6400000 in
set_option maxRecDepth 100000 in
/-- A message whose numbers or lengths are not within their bounds. -/
theorem gencode_w (m : Ms) (v : Value) (w : World) (hv : EntAt w v m.es) (hn : m.es.length ≤ 9223372036854775807) (hc : mayB m.c = true) (hm : witB m = false) :
    Calls Try.prog 7 #[.agg #[.int .i64 m.k, .int .i64 m.f, .int .i64 m.t, .int .i64 m.b, .int .i64 m.sl, .int .i64 m.ro, .int .i64 m.se, .int .i64 m.er, v, .int .i64 m.c.kind, .int .i64 m.c.session, .int .i64 m.c.seq, .string m.c.name, .int .i64 m.c.n, .int .i64 m.rs, .int .i64 m.rq, .int .i64 m.re, .int .u64 m.tk, .int .i64 m.rn, .string m.x]] w fun e w' => e = .returned (.tuple #[.string ⟨#[]⟩, .int .i64 1]) ∧ Below w.heap.size w w' := by
  have ba : Below w.heap.size w (w.alloc (.cells #[.int .i64 m.k, .int .i64 m.f, .int .i64 m.t, .int .i64 m.b, .int .i64 m.sl, .int .i64 m.ro, .int .i64 m.se, .int .i64 m.er, v, .int .i64 m.c.kind, .int .i64 m.c.session, .int .i64 m.c.seq, .string m.c.name, .int .i64 m.c.n, .int .i64 m.rs, .int .i64 m.rq, .int .i64 m.re, .int .u64 m.tk, .int .i64 m.rn, .string m.x] 30)) := (Below.refl _ w).alloc (Nat.le_refl _) _
  have x0 := MLies.fresh w m v
  have j0 := hv.below ba
  have qc := encode_any m.c.kind m.c.session m.c.seq m.c.n m.c.name
  rw [show (⟨m.c.kind, m.c.session, m.c.seq, m.c.name, m.c.n⟩ : Cm) = m.c from rfl, show encT m.c = (⟨(encC m.c).toArray⟩, 0) by unfold encT; rw [if_pos hc]] at qc
  have qw := fun w h => within_any m v w h hn
  rw [hm] at qw
  clear hv
  go_enter Try.func7, Try.ntmps7
  go_wp2_with (first
    | (go_at_call 15; refine (qw _ (by exact j1)).mono ?_; rintro e w2 ⟨rfl, b2⟩)
    | (go_at_call 14; refine (qc _).mono ?_; rintro e w1 ⟨rfl, b1⟩; have x1 := x0.below b1; have j1 := j0.below b1)
    | (refine load_msg rfl _ rfl rfl (by exact x1) ?_))
  go_ret2
  have f1 := bmm ba ba.size b1
  exact ⟨rfl, bmm f1 f1.size b2⟩
end Go.Proofs.Ytmmdcbgmhjheeaa
