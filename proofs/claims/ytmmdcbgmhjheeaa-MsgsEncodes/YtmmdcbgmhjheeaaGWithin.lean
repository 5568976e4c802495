/-
  Package msgs: between, isReplyWithin, isWithin, head, for every message. No condition but that there are no more entries than a slice may hold.
-/
import Derived.Test.YtmmdcbgmhjheeaaMgEq
import Derived.Test.YtmmdcbgmhjheeaaMgMay
import Derived.Test.YtmmdcbgmhjheeaaMgEnc
namespace Go.Proofs.Ytmmdcbgmhjheeaa
open Go.RowKit


theorem between_any (lo n hi : Int) (w : World) :
    Calls Try.prog 46 #[.int .i64 lo, .int .i64 n, .int .i64 hi] w fun e w' => e = .returned (.bool (inB n lo hi)) ∧ w = w' := by
  unfold inB
  by_cases h : lo ≤ n
  · go_enter Try.func46, Try.ntmps46
    go_wp2
    go_ret
    exact ⟨by simp [h], rfl⟩
  · have e : decide (lo ≤ n) = false := by simpa using h
    rw [e, Bool.false_and]
    go_enter Try.func46, Try.ntmps46
    go_wp2
    go_ret
    exact ⟨rfl, rfl⟩

/-- Which replies may be. -/
def repB (m : Ms) : Bool := inB m.rs 0 1073741824 && (inB m.rq 0 1073741824 && (inB m.re 0 255 && inB m.rn 0 1073741824))
/-- Which messages may be, but for their entries, their command and the length of their bytes. -/
def witB (m : Ms) : Bool := inB m.k 1 15 && (inB m.f 0 12 && (inB m.t 0 12 && (inB m.b 0 1099511627776 && (inB m.sl (-1) 1099511627776 && (inB m.ro 0 1099511627776 && (inB m.se 0 1073741824 && (inB m.er 0 255 && (decide (m.es.length ≤ 4096) && (repB m && decide (m.x.size ≤ 524288))))))))))
theorem mayM_wit (m : Ms) : mayM m = (witB m && (mayB m.c && m.es.all mayE)) := by
  unfold mayM witB repB
  simp only [Bool.and_assoc]
  rw [Bool.eq_iff_iff]
  simp only [Bool.and_eq_true]
  constructor <;> (intro h; simp only [h, and_self])

set_option maxHeartbeats 3200000 in
set_option maxRecDepth 100000 in
theorem repw_any (m : Ms) (w : World) :
    Calls Try.prog 47 #[.agg #[.int .i64 m.rs, .int .i64 m.rq, .int .i64 m.re, .int .u64 m.tk, .int .i64 m.rn]] w fun e w' => e = .returned (.bool (repB m)) ∧ Below w.heap.size w w' := by
  have ba : Below w.heap.size w (w.alloc (.cells #[.int .i64 m.rs, .int .i64 m.rq, .int .i64 m.re, .int .u64 m.tk, .int .i64 m.rn] 28)) := (Below.refl _ w).alloc (Nat.le_refl _) _
  go_enter Try.func47, Try.ntmps47
  go_wp2_with (go_at_call 46; refine (between_any _ _ _ _).mono ?_; rintro e w2 ⟨rfl, rfl⟩)
  all_goals
    go_ret
    refine ⟨?_, ba⟩
    unfold repB
    simp [*]

set_option maxHeartbeats 6400000 in
set_option maxRecDepth 100000 in
theorem within_any (m : Ms) (v : Value) (w : World) (hv : EntAt w v m.es) (hn : m.es.length ≤ 9223372036854775807) :
    Calls Try.prog 15 #[.agg #[.int .i64 m.k, .int .i64 m.f, .int .i64 m.t, .int .i64 m.b, .int .i64 m.sl, .int .i64 m.ro, .int .i64 m.se, .int .i64 m.er, v, .int .i64 m.c.kind, .int .i64 m.c.session, .int .i64 m.c.seq, .string m.c.name, .int .i64 m.c.n, .int .i64 m.rs, .int .i64 m.rq, .int .i64 m.re, .int .u64 m.tk, .int .i64 m.rn, .string m.x]] w fun e w' => e = .returned (.bool (witB m)) ∧ Below w.heap.size w w' := by
  have ba : Below w.heap.size w (w.alloc (.cells #[.int .i64 m.k, .int .i64 m.f, .int .i64 m.t, .int .i64 m.b, .int .i64 m.sl, .int .i64 m.ro, .int .i64 m.se, .int .i64 m.er, v, .int .i64 m.c.kind, .int .i64 m.c.session, .int .i64 m.c.seq, .string m.c.name, .int .i64 m.c.n, .int .i64 m.rs, .int .i64 m.rq, .int .i64 m.re, .int .u64 m.tk, .int .i64 m.rn, .string m.x] 30)) := (Below.refl _ w).alloc (Nat.le_refl _) _
  have x0 := MBox.fresh w m v
  have qr := repw_any m
  obtain ⟨a, cap, rfl, _⟩ := hv.ex
  clear hv
  go_enter Try.func15, Try.ntmps15
  go_wp2_with (first
    | (go_at_call 47; refine (qr _).mono ?_; rintro e w3 ⟨rfl, b3⟩; have x3 := x0.below b3; have l3 := x3.lt; have g19 := x3.c19)
    | (go_at_call 46; refine (between_any _ _ _ _).mono ?_; rintro e w2 ⟨rfl, rfl⟩))
  all_goals
    go_ret
    refine ⟨?_, by first | exact ba | exact bmm ba ba.size b3⟩
    clear ba x0 qr
    unfold witB
    simp [*] <;> first
      | (intro h; exfalso; omega)
      | (have e : m.es.length ≤ 4096 := by omega
         rw [show decide (m.es.length ≤ 4096) = true by simpa using e, Bool.true_and]
         exact decide_eq_decide.2 (by omega))

set_option maxHeartbeats 6400000 in
set_option maxRecDepth 100000 in
/-- The eight numbers ahead of the entries. -/
theorem head_any (m : Ms) (v : Value) (w : World) :
    Calls Try.prog 17 #[.agg #[.int .i64 m.k, .int .i64 m.f, .int .i64 m.t, .int .i64 m.b, .int .i64 m.sl, .int .i64 m.ro, .int .i64 m.se, .int .i64 m.er, v, .int .i64 m.c.kind, .int .i64 m.c.session, .int .i64 m.c.seq, .string m.c.name, .int .i64 m.c.n, .int .i64 m.rs, .int .i64 m.rq, .int .i64 m.re, .int .u64 m.tk, .int .i64 m.rn, .string m.x]] w fun e w' => e = .returned (.agg #[.int .i64 m.k, .int .i64 m.f, .int .i64 m.t, .int .i64 m.b, .int .i64 m.sl, .int .i64 m.ro, .int .i64 m.se, .int .i64 m.er]) ∧ Below w.heap.size w w' := by
  have ba : Below w.heap.size w (w.alloc (.cells #[.int .i64 m.k, .int .i64 m.f, .int .i64 m.t, .int .i64 m.b, .int .i64 m.sl, .int .i64 m.ro, .int .i64 m.se, .int .i64 m.er, v, .int .i64 m.c.kind, .int .i64 m.c.session, .int .i64 m.c.seq, .string m.c.name, .int .i64 m.c.n, .int .i64 m.rs, .int .i64 m.rq, .int .i64 m.re, .int .u64 m.tk, .int .i64 m.rn, .string m.x] 30)) := (Below.refl _ w).alloc (Nat.le_refl _) _
  go_enter Try.func17, Try.ntmps17
  go_wp2
  exact bodyPost_ret (v := .agg #[.int .i64 m.k, .int .i64 m.f, .int .i64 m.t, .int .i64 m.b, .int .i64 m.sl, .int .i64 m.ro, .int .i64 m.se, .int .i64 m.er]) (by simp [results, Try.results17, go_sem]) rfl ⟨rfl, ba.alloc ba.size _⟩
end Go.Proofs.Ytmmdcbgmhjheeaa
