/-
  The law MsgsSame, walked: it answers true, and nothing that was there has turned. The condition: there are no more entries than a slice may hold.
-/
import Derived.Test.YtmmdcbgmhjheeaaLAwake
namespace Go.Proofs.Ytmmdcbgmhjheeaa
open Go.RowKit

set_option linter.unusedSimpArgs false in
set_option maxHeartbeats 12800000 in
set_option maxRecDepth 100000 in
theorem same_walk (a b : Ms) (va vb : Value) (w : World) (ha : EntAt w va a.es) (hb : EntAt w vb b.es) (hn : a.es.length ≤ 9223372036854775807) :
    Calls Try.prog 6 #[.agg #[.int .i64 a.k, .int .i64 a.f, .int .i64 a.t, .int .i64 a.b, .int .i64 a.sl, .int .i64 a.ro, .int .i64 a.se, .int .i64 a.er, va, .int .i64 a.c.kind, .int .i64 a.c.session, .int .i64 a.c.seq, .string a.c.name, .int .i64 a.c.n, .int .i64 a.rs, .int .i64 a.rq, .int .i64 a.re, .int .u64 a.tk, .int .i64 a.rn, .string a.x], .agg #[.int .i64 b.k, .int .i64 b.f, .int .i64 b.t, .int .i64 b.b, .int .i64 b.sl, .int .i64 b.ro, .int .i64 b.se, .int .i64 b.er, vb, .int .i64 b.c.kind, .int .i64 b.c.session, .int .i64 b.c.seq, .string b.c.name, .int .i64 b.c.n, .int .i64 b.rs, .int .i64 b.rq, .int .i64 b.re, .int .u64 b.tk, .int .i64 b.rn, .string b.x]] w fun e w' => e = .returned (.bool true) ∧ Below w.heap.size w w' := by
  obtain ⟨r, hr⟩ : ∃ r : Bool, Hid (r = true ↔ a = b) := by
    by_cases h : a = b
    · exact ⟨true, by show _ ↔ _; simp [h]⟩
    · exact ⟨false, by show _ ↔ _; simp [h]⟩
  obtain ⟨x0, b0⟩ := MTwo.fresh w a b va vb ha hb
  generalize hw2 : (w.alloc (.cells #[.int .i64 a.k, .int .i64 a.f, .int .i64 a.t, .int .i64 a.b, .int .i64 a.sl, .int .i64 a.ro, .int .i64 a.se, .int .i64 a.er, va, .int .i64 a.c.kind, .int .i64 a.c.session, .int .i64 a.c.seq, .string a.c.name, .int .i64 a.c.n, .int .i64 a.rs, .int .i64 a.rq, .int .i64 a.re, .int .u64 a.tk, .int .i64 a.rn, .string a.x] 30)).alloc (.cells #[.int .i64 b.k, .int .i64 b.f, .int .i64 b.t, .int .i64 b.b, .int .i64 b.sl, .int .i64 b.ro, .int .i64 b.se, .int .i64 b.er, vb, .int .i64 b.c.kind, .int .i64 b.c.session, .int .i64 b.c.seq, .string b.c.name, .int .i64 b.c.n, .int .i64 b.rs, .int .i64 b.rq, .int .i64 b.re, .int .u64 b.tk, .int .i64 b.rn, .string b.x] 30) = w2 at x0 b0
  have x0d := x0.below ((Below.refl _ w2).drew)
  have hd := msgHere_drew
  have ma0 := x0.la.here; have mb0 := x0.lb.here
  clear ha hb
  go_enter Try.func6, Try.ntmps6
  go_wp2
  refine wp_region_held_drew (S := (fun w' => msgHere w' (.pointer (some ⟨w.heap.size, 0, none⟩)) = some (.agg #[.int .i64 a.k, .int .i64 a.f, .int .i64 a.t, .int .i64 a.b, .int .i64 a.sl, .int .i64 a.ro, .int .i64 a.se, .int .i64 a.er, va, .int .i64 a.c.kind, .int .i64 a.c.session, .int .i64 a.c.seq, .string a.c.name, .int .i64 a.c.n, .int .i64 a.rs, .int .i64 a.rq, .int .i64 a.re, .int .u64 a.tk, .int .i64 a.rn, .string a.x]) ∧ msgHere w' (.pointer (some ⟨w.heap.size + 1, 0, none⟩)) = some (.agg #[.int .i64 b.k, .int .i64 b.f, .int .i64 b.t, .int .i64 b.b, .int .i64 b.sl, .int .i64 b.ro, .int .i64 b.se, .int .i64 b.er, vb, .int .i64 b.c.kind, .int .i64 b.c.session, .int .i64 b.c.seq, .string b.c.name, .int .i64 b.c.n, .int .i64 b.rs, .int .i64 b.rq, .int .i64 b.re, .int .u64 b.tk, .int .i64 b.rn, .string b.x]))) (by kernel_rfl) ?_ (fun hHeld => ?_)
  · try dsimp only
    go_keep
  refine tk0 (.agg #[.int .i64 a.k, .int .i64 a.f, .int .i64 a.t, .int .i64 a.b, .int .i64 a.sl, .int .i64 a.ro, .int .i64 a.se, .int .i64 a.er, va, .int .i64 a.c.kind, .int .i64 a.c.session, .int .i64 a.c.seq, .string a.c.name, .int .i64 a.c.n, .int .i64 a.rs, .int .i64 a.rq, .int .i64 a.re, .int .u64 a.tk, .int .i64 a.rn, .string a.x]) (by kernel_rfl) (by kernel_rfl) (by kernel_rfl) (fun _ _ _ h => h) rfl (fun w hSw => load_yields rfl rfl hSw.1) (by assumption) ?_
  try simp only [Act.put, List.setIfInBounds_toArray, List.set_cons_zero, List.set_cons_succ]
  refine tk1 (.agg #[.int .i64 b.k, .int .i64 b.f, .int .i64 b.t, .int .i64 b.b, .int .i64 b.sl, .int .i64 b.ro, .int .i64 b.se, .int .i64 b.er, vb, .int .i64 b.c.kind, .int .i64 b.c.session, .int .i64 b.c.seq, .string b.c.name, .int .i64 b.c.n, .int .i64 b.rs, .int .i64 b.rq, .int .i64 b.re, .int .u64 b.tk, .int .i64 b.rn, .string b.x]) (by kernel_rfl) (by kernel_rfl) (by kernel_rfl) (fun _ _ _ h => h) rfl (fun w hSw => load_yields rfl rfl hSw.2) (by assumption) ?_
  try simp only [Act.put, List.setIfInBounds_toArray, List.set_cons_zero, List.set_cons_succ]
  refine tk3 (.agg #[.int .i64 a.k, .int .i64 a.f, .int .i64 a.t, .int .i64 a.b, .int .i64 a.sl, .int .i64 a.ro, .int .i64 a.se, .int .i64 a.er, va, .int .i64 a.c.kind, .int .i64 a.c.session, .int .i64 a.c.seq, .string a.c.name, .int .i64 a.c.n, .int .i64 a.rs, .int .i64 a.rq, .int .i64 a.re, .int .u64 a.tk, .int .i64 a.rn, .string a.x]) (by kernel_rfl) (by kernel_rfl) (by kernel_rfl) (fun _ _ _ h => h) rfl (fun w hSw => load_yields rfl rfl hSw.1) (by assumption) ?_
  try simp only [Act.put, List.setIfInBounds_toArray, List.set_cons_zero, List.set_cons_succ]
  refine tk4 (.agg #[.int .i64 b.k, .int .i64 b.f, .int .i64 b.t, .int .i64 b.b, .int .i64 b.sl, .int .i64 b.ro, .int .i64 b.se, .int .i64 b.er, vb, .int .i64 b.c.kind, .int .i64 b.c.session, .int .i64 b.c.seq, .string b.c.name, .int .i64 b.c.n, .int .i64 b.rs, .int .i64 b.rq, .int .i64 b.re, .int .u64 b.tk, .int .i64 b.rn, .string b.x]) (by kernel_rfl) (by kernel_rfl) (by kernel_rfl) (fun _ _ _ h => h) rfl (fun w hSw => load_yields rfl rfl hSw.2) (by assumption) ?_
  try simp only [Act.put, List.setIfInBounds_toArray, List.set_cons_zero, List.set_cons_succ]
  refine cl2 (by kernel_rfl) rfl (fun K hK => ?_)
  go_simp
  (go_at_call 13; refine (gsame_any a b va vb _ (by exact x0d.ea) (by exact x0d.eb) hn r hr.out).mono ?_; rintro e w3 ⟨rfl, b3'⟩; have b3 := undrew b3'; have x3 := x0.below b3; have ma3 := x3.la.here; have mb3 := x3.lb.here)
  refine hK.out _ _ ?_ (fun hHeld => ?_)
  · try dsimp only
    go_keep
  clear hK K
  try simp only [Act.put, List.setIfInBounds_toArray, List.set_cons_zero, List.set_cons_succ]
  refine cl5 (by kernel_rfl) rfl (fun K hK => ?_)
  go_simp
  (go_at_call 12; refine (msame_any a b va vb _ (by exact x3.ea) (by exact x3.eb) hn r hr.out).mono ?_; rintro e w4 ⟨rfl, b4⟩; have x4 := x3.below b4; have ma4 := x4.la.here; have mb4 := x4.lb.here)
  refine hK.out _ _ ?_ (fun hHeld => ?_)
  · try dsimp only
    go_keep
  clear hK K
  try simp only [Act.put, List.setIfInBounds_toArray, List.set_cons_zero, List.set_cons_succ]
  refine tk6 (.bool true) (by kernel_rfl) (by kernel_rfl) (by kernel_rfl) (fun _ _ _ h => h) rfl (fun w hSw => by (try dsimp only at hSw); go_simp) (by assumption) ?_
  try simp only [Act.put, List.setIfInBounds_toArray, List.set_cons_zero, List.set_cons_succ]
  refine tk7 (.bool true) (by kernel_rfl) (by kernel_rfl) (by kernel_rfl) (fun _ _ _ h => h) rfl (fun w hSw => by (try dsimp only at hSw); go_simp) (by assumption) ?_
  try simp only [Act.put, List.setIfInBounds_toArray, List.set_cons_zero, List.set_cons_succ]
  refine tk8 (.agg #[.int .i64 a.k, .int .i64 a.f, .int .i64 a.t, .int .i64 a.b, .int .i64 a.sl, .int .i64 a.ro, .int .i64 a.se, .int .i64 a.er, va, .int .i64 a.c.kind, .int .i64 a.c.session, .int .i64 a.c.seq, .string a.c.name, .int .i64 a.c.n, .int .i64 a.rs, .int .i64 a.rq, .int .i64 a.re, .int .u64 a.tk, .int .i64 a.rn, .string a.x]) (by kernel_rfl) (by kernel_rfl) (by kernel_rfl) (fun _ _ _ h => h) rfl (fun w hSw => load_yields rfl rfl hSw.1) (by assumption) ?_
  try simp only [Act.put, List.setIfInBounds_toArray, List.set_cons_zero, List.set_cons_succ]
  refine tk9 (.agg #[.int .i64 a.k, .int .i64 a.f, .int .i64 a.t, .int .i64 a.b, .int .i64 a.sl, .int .i64 a.ro, .int .i64 a.se, .int .i64 a.er, va, .int .i64 a.c.kind, .int .i64 a.c.session, .int .i64 a.c.seq, .string a.c.name, .int .i64 a.c.n, .int .i64 a.rs, .int .i64 a.rq, .int .i64 a.re, .int .u64 a.tk, .int .i64 a.rn, .string a.x]) (by kernel_rfl) (by kernel_rfl) (by kernel_rfl) (fun _ _ _ h => h) rfl (fun w hSw => load_yields rfl rfl hSw.1) (by assumption) ?_
  try simp only [Act.put, List.setIfInBounds_toArray, List.set_cons_zero, List.set_cons_succ]
  refine cl10 (by kernel_rfl) rfl (fun K hK => ?_)
  go_simp
  (go_at_call 13; refine (gsame_any a a va va _ (by exact x4.ea) (by exact x4.ea) hn true (by simp)).mono ?_; rintro e w5 ⟨rfl, b5⟩; have x5 := x4.below b5; have ma5 := x5.la.here; have mb5 := x5.lb.here)
  refine hK.out _ _ ?_ (fun hHeld => ?_)
  · try dsimp only
    go_keep
  clear hK K
  try simp only [Act.put, List.setIfInBounds_toArray, List.set_cons_zero, List.set_cons_succ]
  refine tk11 (.bool true) (by kernel_rfl) (by kernel_rfl) (by kernel_rfl) (fun _ _ _ h => h) rfl (fun w hSw => by (try dsimp only at hSw); go_simp) (by assumption) ?_
  try simp only [Act.put, List.setIfInBounds_toArray, List.set_cons_zero, List.set_cons_succ]
  refine tk12 (.bool true) (by kernel_rfl) (by kernel_rfl) (by kernel_rfl) (fun _ _ _ h => h) rfl (fun w hSw => by (try dsimp only at hSw); go_simp) (by assumption) ?_
  try simp only [Act.put, List.setIfInBounds_toArray, List.set_cons_zero, List.set_cons_succ]
  refine cl13 (by kernel_rfl) rfl (fun K hK => ?_)
  go_simp
  (go_at_call 9; refine (awake_any _).mono ?_; rintro e w6 ⟨rfl, b6⟩; have x6 := x5.below b6; have ma6 := x6.la.here; have mb6 := x6.lb.here)
  refine hK.out _ _ ?_ (fun hHeld => ?_)
  · try dsimp only
    go_keep
  clear hK K
  try simp only [Act.put, List.setIfInBounds_toArray, List.set_cons_zero, List.set_cons_succ]
  refine tk14 (.bool true) (by kernel_rfl) (by kernel_rfl) (by kernel_rfl) (fun _ _ _ h => h) rfl (fun w hSw => by (try dsimp only at hSw); go_simp) (by assumption) ?_
  try simp only [Act.put, List.setIfInBounds_toArray, List.set_cons_zero, List.set_cons_succ]
  refine tk15 (.bool true) (by kernel_rfl) (by kernel_rfl) (by kernel_rfl) (fun _ _ _ h => h) rfl (fun w hSw => by (try dsimp only at hSw); go_simp) (by assumption) ?_
  try simp only [Act.put, List.setIfInBounds_toArray, List.set_cons_zero, List.set_cons_succ]
  refine wpAnyH_done (by kernel_rfl) ?_ _
  go_wp2
  go_ret
  have f3 := bmm b0 b0.size b3
  have f4 := bmm f3 f3.size b4
  have f5 := bmm f4 f4.size b5
  exact ⟨rfl, bmm f5 f5.size b6⟩
end Go.Proofs.Ytmmdcbgmhjheeaa
