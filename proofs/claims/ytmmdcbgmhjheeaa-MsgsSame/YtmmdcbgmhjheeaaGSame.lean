/-
  Package msgs: Same, for every two messages. No condition but that there are no more entries than a slice may hold.
-/
import Derived.Test.YtmmdcbgmhjheeaaMgSame
import Derived.Test.YtmmdcbgmhjheeaaMgEqual
import Derived.Test.YtmmdcbgmhjheeaaMgRow
import Derived.Test.YtmmdcbgmhjheeaaRTake
namespace Go.Proofs.Ytmmdcbgmhjheeaa
open Go.RowKit


set_option maxHeartbeats 6400000 in
set_option maxRecDepth 100000 in
/-- The eight numbers ahead of the entries, whatever lies behind them. -/
theorem head_raw (k f t b sl ro se er : Int) (c8 c9 c10 c11 c12 c13 c14 c15 c16 c17 c18 c19 : Value) (w : World) :
    Calls Try.prog 17 #[.agg #[.int .i64 k, .int .i64 f, .int .i64 t, .int .i64 b, .int .i64 sl, .int .i64 ro, .int .i64 se, .int .i64 er, c8, c9, c10, c11, c12, c13, c14, c15, c16, c17, c18, c19]] w fun e w' => e = .returned (.agg #[.int .i64 k, .int .i64 f, .int .i64 t, .int .i64 b, .int .i64 sl, .int .i64 ro, .int .i64 se, .int .i64 er]) ∧ Below w.heap.size w w' := by
  have ba : Below w.heap.size w (w.alloc (.cells #[.int .i64 k, .int .i64 f, .int .i64 t, .int .i64 b, .int .i64 sl, .int .i64 ro, .int .i64 se, .int .i64 er, c8, c9, c10, c11, c12, c13, c14, c15, c16, c17, c18, c19] 30)) := (Below.refl _ w).alloc (Nat.le_refl _) _
  go_enter Try.func17, Try.ntmps17
  go_wp2
  exact bodyPost_ret (v := .agg #[.int .i64 k, .int .i64 f, .int .i64 t, .int .i64 b, .int .i64 sl, .int .i64 ro, .int .i64 se, .int .i64 er]) (by simp [results, Try.results17, go_sem]) rfl ⟨rfl, ba.alloc ba.size _⟩
/-- Two messages' blocks. -/
structure MTwo (w : World) (p q : Nat) (a b : Ms) (va vb : Value) : Prop where
  la : MLies w p a va
  lb : MLies w q b vb
  ea : EntAt w va a.es
  eb : EntAt w vb b.es
theorem MTwo.below {w w' : World} {p q : Nat} {a b : Ms} {va vb : Value} (h : MTwo w p q a b va vb) (k : Below w.heap.size w w') : MTwo w' p q a b va vb :=
  ⟨h.la.below k, h.lb.below k, h.ea.below k, h.eb.below k⟩
theorem MTwo.fresh (w : World) (a b : Ms) (va vb : Value) (ha : EntAt w va a.es) (hb : EntAt w vb b.es) : MTwo ((w.alloc (.cells #[.int .i64 a.k, .int .i64 a.f, .int .i64 a.t, .int .i64 a.b, .int .i64 a.sl, .int .i64 a.ro, .int .i64 a.se, .int .i64 a.er, va, .int .i64 a.c.kind, .int .i64 a.c.session, .int .i64 a.c.seq, .string a.c.name, .int .i64 a.c.n, .int .i64 a.rs, .int .i64 a.rq, .int .i64 a.re, .int .u64 a.tk, .int .i64 a.rn, .string a.x] 30)).alloc (.cells #[.int .i64 b.k, .int .i64 b.f, .int .i64 b.t, .int .i64 b.b, .int .i64 b.sl, .int .i64 b.ro, .int .i64 b.se, .int .i64 b.er, vb, .int .i64 b.c.kind, .int .i64 b.c.session, .int .i64 b.c.seq, .string b.c.name, .int .i64 b.c.n, .int .i64 b.rs, .int .i64 b.rq, .int .i64 b.re, .int .u64 b.tk, .int .i64 b.rn, .string b.x] 30)) w.heap.size (w.heap.size + 1) a b va vb ∧ Below w.heap.size w ((w.alloc (.cells #[.int .i64 a.k, .int .i64 a.f, .int .i64 a.t, .int .i64 a.b, .int .i64 a.sl, .int .i64 a.ro, .int .i64 a.se, .int .i64 a.er, va, .int .i64 a.c.kind, .int .i64 a.c.session, .int .i64 a.c.seq, .string a.c.name, .int .i64 a.c.n, .int .i64 a.rs, .int .i64 a.rq, .int .i64 a.re, .int .u64 a.tk, .int .i64 a.rn, .string a.x] 30)).alloc (.cells #[.int .i64 b.k, .int .i64 b.f, .int .i64 b.t, .int .i64 b.b, .int .i64 b.sl, .int .i64 b.ro, .int .i64 b.se, .int .i64 b.er, vb, .int .i64 b.c.kind, .int .i64 b.c.session, .int .i64 b.c.seq, .string b.c.name, .int .i64 b.c.n, .int .i64 b.rs, .int .i64 b.rq, .int .i64 b.re, .int .u64 b.tk, .int .i64 b.rn, .string b.x] 30)) := by
  have b0 : Below w.heap.size w ((w.alloc (.cells #[.int .i64 a.k, .int .i64 a.f, .int .i64 a.t, .int .i64 a.b, .int .i64 a.sl, .int .i64 a.ro, .int .i64 a.se, .int .i64 a.er, va, .int .i64 a.c.kind, .int .i64 a.c.session, .int .i64 a.c.seq, .string a.c.name, .int .i64 a.c.n, .int .i64 a.rs, .int .i64 a.rq, .int .i64 a.re, .int .u64 a.tk, .int .i64 a.rn, .string a.x] 30)).alloc (.cells #[.int .i64 b.k, .int .i64 b.f, .int .i64 b.t, .int .i64 b.b, .int .i64 b.sl, .int .i64 b.ro, .int .i64 b.se, .int .i64 b.er, vb, .int .i64 b.c.kind, .int .i64 b.c.session, .int .i64 b.c.seq, .string b.c.name, .int .i64 b.c.n, .int .i64 b.rs, .int .i64 b.rq, .int .i64 b.re, .int .u64 b.tk, .int .i64 b.rn, .string b.x] 30)) := ((Below.refl _ w).alloc (Nat.le_refl _) _).alloc (by simp) _
  refine ⟨⟨(MLies.fresh w a va).below ((Below.refl _ _).alloc (Nat.le_refl _) _), ?_, ha.below b0, hb.below b0⟩, b0⟩
  have := MLies.fresh (w.alloc (.cells #[.int .i64 a.k, .int .i64 a.f, .int .i64 a.t, .int .i64 a.b, .int .i64 a.sl, .int .i64 a.ro, .int .i64 a.se, .int .i64 a.er, va, .int .i64 a.c.kind, .int .i64 a.c.session, .int .i64 a.c.seq, .string a.c.name, .int .i64 a.c.n, .int .i64 a.rs, .int .i64 a.rq, .int .i64 a.re, .int .u64 a.tk, .int .i64 a.rn, .string a.x] 30)) b vb
  rw [World.size_alloc] at this
  exact this

set_option linter.unusedSimpArgs false in
set_option maxHeartbeats 12800000 in
set_option maxRecDepth 100000 in
/-- Same. -/
theorem gsame_any (a b : Ms) (va vb : Value) (w : World) (ha : EntAt w va a.es) (hb : EntAt w vb b.es) (hn : a.es.length ≤ 9223372036854775807) (r : Bool) (hr : r = true ↔ a = b) :
    Calls Try.prog 13 #[.agg #[.int .i64 a.k, .int .i64 a.f, .int .i64 a.t, .int .i64 a.b, .int .i64 a.sl, .int .i64 a.ro, .int .i64 a.se, .int .i64 a.er, va, .int .i64 a.c.kind, .int .i64 a.c.session, .int .i64 a.c.seq, .string a.c.name, .int .i64 a.c.n, .int .i64 a.rs, .int .i64 a.rq, .int .i64 a.re, .int .u64 a.tk, .int .i64 a.rn, .string a.x], .agg #[.int .i64 b.k, .int .i64 b.f, .int .i64 b.t, .int .i64 b.b, .int .i64 b.sl, .int .i64 b.ro, .int .i64 b.se, .int .i64 b.er, vb, .int .i64 b.c.kind, .int .i64 b.c.session, .int .i64 b.c.seq, .string b.c.name, .int .i64 b.c.n, .int .i64 b.rs, .int .i64 b.rq, .int .i64 b.re, .int .u64 b.tk, .int .i64 b.rn, .string b.x]] w fun e w' => e = .returned (.bool r) ∧ Below w.heap.size w w' := by
  have GR : Hid (r = true ↔ a = b) := hr
  obtain ⟨x0, b0⟩ := MTwo.fresh w a b va vb ha hb
  generalize hw2 : (w.alloc (.cells #[.int .i64 a.k, .int .i64 a.f, .int .i64 a.t, .int .i64 a.b, .int .i64 a.sl, .int .i64 a.ro, .int .i64 a.se, .int .i64 a.er, va, .int .i64 a.c.kind, .int .i64 a.c.session, .int .i64 a.c.seq, .string a.c.name, .int .i64 a.c.n, .int .i64 a.rs, .int .i64 a.rq, .int .i64 a.re, .int .u64 a.tk, .int .i64 a.rn, .string a.x] 30)).alloc (.cells #[.int .i64 b.k, .int .i64 b.f, .int .i64 b.t, .int .i64 b.b, .int .i64 b.sl, .int .i64 b.ro, .int .i64 b.se, .int .i64 b.er, vb, .int .i64 b.c.kind, .int .i64 b.c.session, .int .i64 b.c.seq, .string b.c.name, .int .i64 b.c.n, .int .i64 b.rs, .int .i64 b.rq, .int .i64 b.re, .int .u64 b.tk, .int .i64 b.rn, .string b.x] 30) = w2 at x0 b0
  have hd := msgHere_drew
  have qh := head_eql a b
  have qc := cmd_eql a.c b.c
  have qr := rep_eql a b
  have ma0 := x0.la.here; have mb0 := x0.lb.here; have la0 := x0.la.lt; have lb0 := x0.lb.lt; have a0_8 := x0.la.box.c8; have b0_8 := x0.lb.box.c8; have a0_9 := x0.la.box.c9; have b0_9 := x0.lb.box.c9; have a0_10 := x0.la.box.c10; have b0_10 := x0.lb.box.c10; have a0_11 := x0.la.box.c11; have b0_11 := x0.lb.box.c11; have a0_12 := x0.la.box.c12; have b0_12 := x0.lb.box.c12; have a0_13 := x0.la.box.c13; have b0_13 := x0.lb.box.c13; have a0_14 := x0.la.box.c14; have b0_14 := x0.lb.box.c14; have a0_15 := x0.la.box.c15; have b0_15 := x0.lb.box.c15; have a0_16 := x0.la.box.c16; have b0_16 := x0.lb.box.c16; have a0_17 := x0.la.box.c17; have b0_17 := x0.lb.box.c17; have a0_18 := x0.la.box.c18; have b0_18 := x0.lb.box.c18; have a0_19 := x0.la.box.c19; have b0_19 := x0.lb.box.c19
  clear hr ha hb
  cases hH : eqH a b with
  | false =>
    have HF : Hid (r = false) := ms_ne GR.out (fun h => by rw [((ms_eq a b).1 h).1] at hH; cases hH)
    rw [HF.out]
    rw [hH] at qh
    go_enter Try.func13, Try.ntmps13
    go_wp2
    refine wp_region_held_drew (S := (fun w' => msgHere w' (.pointer (some ⟨w.heap.size, 0, none⟩)) = some (.agg #[.int .i64 a.k, .int .i64 a.f, .int .i64 a.t, .int .i64 a.b, .int .i64 a.sl, .int .i64 a.ro, .int .i64 a.se, .int .i64 a.er, va, .int .i64 a.c.kind, .int .i64 a.c.session, .int .i64 a.c.seq, .string a.c.name, .int .i64 a.c.n, .int .i64 a.rs, .int .i64 a.rq, .int .i64 a.re, .int .u64 a.tk, .int .i64 a.rn, .string a.x]) ∧ msgHere w' (.pointer (some ⟨w.heap.size + 1, 0, none⟩)) = some (.agg #[.int .i64 b.k, .int .i64 b.f, .int .i64 b.t, .int .i64 b.b, .int .i64 b.sl, .int .i64 b.ro, .int .i64 b.se, .int .i64 b.er, vb, .int .i64 b.c.kind, .int .i64 b.c.session, .int .i64 b.c.seq, .string b.c.name, .int .i64 b.c.n, .int .i64 b.rs, .int .i64 b.rq, .int .i64 b.re, .int .u64 b.tk, .int .i64 b.rn, .string b.x]) ∧ w'.cell? ⟨w.heap.size, 8, none⟩ = some (va) ∧ w'.cell? ⟨w.heap.size + 1, 8, none⟩ = some (vb) ∧ w'.cell? ⟨w.heap.size, 9, none⟩ = some (.int .i64 a.c.kind) ∧ w'.cell? ⟨w.heap.size + 1, 9, none⟩ = some (.int .i64 b.c.kind) ∧ w'.cell? ⟨w.heap.size, 10, none⟩ = some (.int .i64 a.c.session) ∧ w'.cell? ⟨w.heap.size + 1, 10, none⟩ = some (.int .i64 b.c.session) ∧ w'.cell? ⟨w.heap.size, 11, none⟩ = some (.int .i64 a.c.seq) ∧ w'.cell? ⟨w.heap.size + 1, 11, none⟩ = some (.int .i64 b.c.seq) ∧ w'.cell? ⟨w.heap.size, 12, none⟩ = some (.string a.c.name) ∧ w'.cell? ⟨w.heap.size + 1, 12, none⟩ = some (.string b.c.name) ∧ w'.cell? ⟨w.heap.size, 13, none⟩ = some (.int .i64 a.c.n) ∧ w'.cell? ⟨w.heap.size + 1, 13, none⟩ = some (.int .i64 b.c.n) ∧ w'.cell? ⟨w.heap.size, 14, none⟩ = some (.int .i64 a.rs) ∧ w'.cell? ⟨w.heap.size + 1, 14, none⟩ = some (.int .i64 b.rs) ∧ w'.cell? ⟨w.heap.size, 15, none⟩ = some (.int .i64 a.rq) ∧ w'.cell? ⟨w.heap.size + 1, 15, none⟩ = some (.int .i64 b.rq) ∧ w'.cell? ⟨w.heap.size, 16, none⟩ = some (.int .i64 a.re) ∧ w'.cell? ⟨w.heap.size + 1, 16, none⟩ = some (.int .i64 b.re) ∧ w'.cell? ⟨w.heap.size, 17, none⟩ = some (.int .u64 a.tk) ∧ w'.cell? ⟨w.heap.size + 1, 17, none⟩ = some (.int .u64 b.tk) ∧ w'.cell? ⟨w.heap.size, 18, none⟩ = some (.int .i64 a.rn) ∧ w'.cell? ⟨w.heap.size + 1, 18, none⟩ = some (.int .i64 b.rn) ∧ w'.cell? ⟨w.heap.size, 19, none⟩ = some (.string a.x) ∧ w'.cell? ⟨w.heap.size + 1, 19, none⟩ = some (.string b.x))) (by kernel_rfl) ?_ (fun hHeld => ?_)
    · try dsimp only
      go_keep
    refine tk0 (.agg #[.int .i64 a.k, .int .i64 a.f, .int .i64 a.t, .int .i64 a.b, .int .i64 a.sl, .int .i64 a.ro, .int .i64 a.se, .int .i64 a.er, va, .int .i64 a.c.kind, .int .i64 a.c.session, .int .i64 a.c.seq, .string a.c.name, .int .i64 a.c.n, .int .i64 a.rs, .int .i64 a.rq, .int .i64 a.re, .int .u64 a.tk, .int .i64 a.rn, .string a.x]) (by kernel_rfl) (by kernel_rfl) (by kernel_rfl) (fun _ _ _ h => h) rfl (fun w hSw => load_yields rfl rfl hSw.1) (by assumption) ?_
    try simp only [Act.put, List.setIfInBounds_toArray, List.set_cons_zero, List.set_cons_succ]
    refine tk2 (.agg #[.int .i64 b.k, .int .i64 b.f, .int .i64 b.t, .int .i64 b.b, .int .i64 b.sl, .int .i64 b.ro, .int .i64 b.se, .int .i64 b.er, vb, .int .i64 b.c.kind, .int .i64 b.c.session, .int .i64 b.c.seq, .string b.c.name, .int .i64 b.c.n, .int .i64 b.rs, .int .i64 b.rq, .int .i64 b.re, .int .u64 b.tk, .int .i64 b.rn, .string b.x]) (by kernel_rfl) (by kernel_rfl) (by kernel_rfl) (fun _ _ _ h => h) rfl (fun w hSw => load_yields rfl rfl hSw.2.1) (by assumption) ?_
    try simp only [Act.put, List.setIfInBounds_toArray, List.set_cons_zero, List.set_cons_succ]
    refine cl1 (by kernel_rfl) rfl (fun K hK => ?_)
    go_simp
    (go_at_call 17; refine (head_raw _ _ _ _ _ _ _ _ _ _ _ _ _ _ _ _ _ _ _ _ _).mono ?_; rintro e w3 ⟨rfl, b3'⟩; have b3 := undrew b3'; have x3 := x0.below b3; have ma3 := x3.la.here; have mb3 := x3.lb.here; have la3 := x3.la.lt; have lb3 := x3.lb.lt; have a3_8 := x3.la.box.c8; have b3_8 := x3.lb.box.c8; have a3_9 := x3.la.box.c9; have b3_9 := x3.lb.box.c9; have a3_10 := x3.la.box.c10; have b3_10 := x3.lb.box.c10; have a3_11 := x3.la.box.c11; have b3_11 := x3.lb.box.c11; have a3_12 := x3.la.box.c12; have b3_12 := x3.lb.box.c12; have a3_13 := x3.la.box.c13; have b3_13 := x3.lb.box.c13; have a3_14 := x3.la.box.c14; have b3_14 := x3.lb.box.c14; have a3_15 := x3.la.box.c15; have b3_15 := x3.lb.box.c15; have a3_16 := x3.la.box.c16; have b3_16 := x3.lb.box.c16; have a3_17 := x3.la.box.c17; have b3_17 := x3.lb.box.c17; have a3_18 := x3.la.box.c18; have b3_18 := x3.lb.box.c18; have a3_19 := x3.la.box.c19; have b3_19 := x3.lb.box.c19)
    refine hK.out _ _ ?_ (fun hHeld => ?_)
    · try dsimp only
      go_keep
    clear hK K
    try simp only [Act.put, List.setIfInBounds_toArray, List.set_cons_zero, List.set_cons_succ]
    refine cl3 (by kernel_rfl) rfl (fun K hK => ?_)
    go_simp
    (go_at_call 17; refine (head_raw _ _ _ _ _ _ _ _ _ _ _ _ _ _ _ _ _ _ _ _ _).mono ?_; rintro e w4 ⟨rfl, b4⟩; have x4 := x3.below b4; have ma4 := x4.la.here; have mb4 := x4.lb.here; have la4 := x4.la.lt; have lb4 := x4.lb.lt; have a4_8 := x4.la.box.c8; have b4_8 := x4.lb.box.c8; have a4_9 := x4.la.box.c9; have b4_9 := x4.lb.box.c9; have a4_10 := x4.la.box.c10; have b4_10 := x4.lb.box.c10; have a4_11 := x4.la.box.c11; have b4_11 := x4.lb.box.c11; have a4_12 := x4.la.box.c12; have b4_12 := x4.lb.box.c12; have a4_13 := x4.la.box.c13; have b4_13 := x4.lb.box.c13; have a4_14 := x4.la.box.c14; have b4_14 := x4.lb.box.c14; have a4_15 := x4.la.box.c15; have b4_15 := x4.lb.box.c15; have a4_16 := x4.la.box.c16; have b4_16 := x4.lb.box.c16; have a4_17 := x4.la.box.c17; have b4_17 := x4.lb.box.c17; have a4_18 := x4.la.box.c18; have b4_18 := x4.lb.box.c18; have a4_19 := x4.la.box.c19; have b4_19 := x4.lb.box.c19)
    refine hK.out _ _ ?_ (fun hHeld => ?_)
    · try dsimp only
      go_keep
    clear hK K
    try simp only [Act.put, List.setIfInBounds_toArray, List.set_cons_zero, List.set_cons_succ]
    refine tk4 (.bool false) (by kernel_rfl) (by kernel_rfl) (by kernel_rfl) (fun _ _ _ h => h) rfl (fun w hSw => by (try dsimp only at hSw); go_simp) (by assumption) ?_
    try simp only [Act.put, List.setIfInBounds_toArray, List.set_cons_zero, List.set_cons_succ]
    refine tk5 (.bool false) (by kernel_rfl) (by kernel_rfl) (by kernel_rfl) (fun _ _ _ h => h) rfl (fun w hSw => by (try dsimp only at hSw); go_simp) (by assumption) ?_
    try simp only [Act.put, List.setIfInBounds_toArray, List.set_cons_zero, List.set_cons_succ]
    refine sk6 (by kernel_rfl) (by kernel_rfl) (by kernel_rfl) (fun _ _ _ h => h) rfl (by assumption) ?_
    try simp only [Act.put, List.setIfInBounds_toArray, List.set_cons_zero, List.set_cons_succ]
    refine sk7 (by kernel_rfl) (by kernel_rfl) (by kernel_rfl) (fun _ _ _ h => h) rfl (by assumption) ?_
    try simp only [Act.put, List.setIfInBounds_toArray, List.set_cons_zero, List.set_cons_succ]
    refine sk8 (by kernel_rfl) (by kernel_rfl) (by kernel_rfl) (fun _ _ _ h => h) rfl (by assumption) ?_
    try simp only [Act.put, List.setIfInBounds_toArray, List.set_cons_zero, List.set_cons_succ]
    refine sk9 (by kernel_rfl) (by kernel_rfl) (by kernel_rfl) (fun _ _ _ h => h) rfl (by assumption) ?_
    try simp only [Act.put, List.setIfInBounds_toArray, List.set_cons_zero, List.set_cons_succ]
    refine sk10 (by kernel_rfl) (by kernel_rfl) (by kernel_rfl) (fun _ _ _ h => h) rfl (by assumption) ?_
    try simp only [Act.put, List.setIfInBounds_toArray, List.set_cons_zero, List.set_cons_succ]
    refine tk11 (.bool false) (by kernel_rfl) (by kernel_rfl) (by kernel_rfl) (fun _ _ _ h => h) rfl (fun w hSw => by (try dsimp only at hSw); go_simp) (by assumption) ?_
    try simp only [Act.put, List.setIfInBounds_toArray, List.set_cons_zero, List.set_cons_succ]
    refine tk12 (.bool false) (by kernel_rfl) (by kernel_rfl) (by kernel_rfl) (fun _ _ _ h => h) rfl (fun w hSw => by (try dsimp only at hSw); go_simp) (by assumption) ?_
    try simp only [Act.put, List.setIfInBounds_toArray, List.set_cons_zero, List.set_cons_succ]
    refine sk13 (by kernel_rfl) (by kernel_rfl) (by kernel_rfl) (fun _ _ _ h => h) rfl (by assumption) ?_
    try simp only [Act.put, List.setIfInBounds_toArray, List.set_cons_zero, List.set_cons_succ]
    refine sk14 (by kernel_rfl) (by kernel_rfl) (by kernel_rfl) (fun _ _ _ h => h) rfl (by assumption) ?_
    try simp only [Act.put, List.setIfInBounds_toArray, List.set_cons_zero, List.set_cons_succ]
    refine sk15 (by kernel_rfl) (by kernel_rfl) (by kernel_rfl) (fun _ _ _ h => h) rfl (by assumption) ?_
    try simp only [Act.put, List.setIfInBounds_toArray, List.set_cons_zero, List.set_cons_succ]
    refine sk16 (by kernel_rfl) (by kernel_rfl) (by kernel_rfl) (fun _ _ _ h => h) rfl (by assumption) ?_
    try simp only [Act.put, List.setIfInBounds_toArray, List.set_cons_zero, List.set_cons_succ]
    refine sk17 (by kernel_rfl) (by kernel_rfl) (by kernel_rfl) (fun _ _ _ h => h) rfl (by assumption) ?_
    try simp only [Act.put, List.setIfInBounds_toArray, List.set_cons_zero, List.set_cons_succ]
    refine tk18 (.bool false) (by kernel_rfl) (by kernel_rfl) (by kernel_rfl) (fun _ _ _ h => h) rfl (fun w hSw => by (try dsimp only at hSw); go_simp) (by assumption) ?_
    try simp only [Act.put, List.setIfInBounds_toArray, List.set_cons_zero, List.set_cons_succ]
    refine tk19 (.bool false) (by kernel_rfl) (by kernel_rfl) (by kernel_rfl) (fun _ _ _ h => h) rfl (fun w hSw => by (try dsimp only at hSw); go_simp) (by assumption) ?_
    try simp only [Act.put, List.setIfInBounds_toArray, List.set_cons_zero, List.set_cons_succ]
    refine sk20 (by kernel_rfl) (by kernel_rfl) (by kernel_rfl) (fun _ _ _ h => h) rfl (by assumption) ?_
    try simp only [Act.put, List.setIfInBounds_toArray, List.set_cons_zero, List.set_cons_succ]
    refine sk21 (by kernel_rfl) (by kernel_rfl) (by kernel_rfl) (fun _ _ _ h => h) rfl (by assumption) ?_
    try simp only [Act.put, List.setIfInBounds_toArray, List.set_cons_zero, List.set_cons_succ]
    refine sk22 (by kernel_rfl) (by kernel_rfl) (by kernel_rfl) (fun _ _ _ h => h) rfl (by assumption) ?_
    try simp only [Act.put, List.setIfInBounds_toArray, List.set_cons_zero, List.set_cons_succ]
    refine sk23 (by kernel_rfl) (by kernel_rfl) (by kernel_rfl) (fun _ _ _ h => h) rfl (by assumption) ?_
    try simp only [Act.put, List.setIfInBounds_toArray, List.set_cons_zero, List.set_cons_succ]
    refine sk24 (by kernel_rfl) (by kernel_rfl) (by kernel_rfl) (fun _ _ _ h => h) rfl (by assumption) ?_
    try simp only [Act.put, List.setIfInBounds_toArray, List.set_cons_zero, List.set_cons_succ]
    refine tk25 (.bool false) (by kernel_rfl) (by kernel_rfl) (by kernel_rfl) (fun _ _ _ h => h) rfl (fun w hSw => by (try dsimp only at hSw); go_simp) (by assumption) ?_
    try simp only [Act.put, List.setIfInBounds_toArray, List.set_cons_zero, List.set_cons_succ]
    refine tk26 (.bool false) (by kernel_rfl) (by kernel_rfl) (by kernel_rfl) (fun _ _ _ h => h) rfl (fun w hSw => by (try dsimp only at hSw); go_simp) (by assumption) ?_
    try simp only [Act.put, List.setIfInBounds_toArray, List.set_cons_zero, List.set_cons_succ]
    refine sk27 (by kernel_rfl) (by kernel_rfl) (by kernel_rfl) (fun _ _ _ h => h) rfl (by assumption) ?_
    try simp only [Act.put, List.setIfInBounds_toArray, List.set_cons_zero, List.set_cons_succ]
    refine sk28 (by kernel_rfl) (by kernel_rfl) (by kernel_rfl) (fun _ _ _ h => h) rfl (by assumption) ?_
    try simp only [Act.put, List.setIfInBounds_toArray, List.set_cons_zero, List.set_cons_succ]
    refine sk29 (by kernel_rfl) (by kernel_rfl) (by kernel_rfl) (fun _ _ _ h => h) rfl (by assumption) ?_
    try simp only [Act.put, List.setIfInBounds_toArray, List.set_cons_zero, List.set_cons_succ]
    refine sk30 (by kernel_rfl) (by kernel_rfl) (by kernel_rfl) (fun _ _ _ h => h) rfl (by assumption) ?_
    try simp only [Act.put, List.setIfInBounds_toArray, List.set_cons_zero, List.set_cons_succ]
    refine sk31 (by kernel_rfl) (by kernel_rfl) (by kernel_rfl) (fun _ _ _ h => h) rfl (by assumption) ?_
    try simp only [Act.put, List.setIfInBounds_toArray, List.set_cons_zero, List.set_cons_succ]
    refine tk32 (.bool false) (by kernel_rfl) (by kernel_rfl) (by kernel_rfl) (fun _ _ _ h => h) rfl (fun w hSw => by (try dsimp only at hSw); go_simp) (by assumption) ?_
    try simp only [Act.put, List.setIfInBounds_toArray, List.set_cons_zero, List.set_cons_succ]
    refine tk33 (.bool false) (by kernel_rfl) (by kernel_rfl) (by kernel_rfl) (fun _ _ _ h => h) rfl (fun w hSw => by (try dsimp only at hSw); go_simp) (by assumption) ?_
    try simp only [Act.put, List.setIfInBounds_toArray, List.set_cons_zero, List.set_cons_succ]
    refine wpAnyH_done (by kernel_rfl) ?_ _
    go_wp2
    go_ret
    have f3 := bmm b0 b0.size b3
    have f4 := bmm f3 f3.size b4
    exact ⟨rfl, f4⟩
  | true =>
    rw [hH] at qh
    by_cases hes : a.es = b.es
    · have HE : Hid (a.es = b.es) := hes
      clear hes
      cases hc : eqC a.c b.c with
      | false =>
        have HF : Hid (r = false) := ms_ne GR.out (fun h => by rw [h, (eqC_iff _ _).2 rfl] at hc; cases hc)
        rw [HF.out]
        rw [hc] at qc
        go_enter Try.func13, Try.ntmps13
        go_wp2
        refine wp_region_held_drew (S := (fun w' => msgHere w' (.pointer (some ⟨w.heap.size, 0, none⟩)) = some (.agg #[.int .i64 a.k, .int .i64 a.f, .int .i64 a.t, .int .i64 a.b, .int .i64 a.sl, .int .i64 a.ro, .int .i64 a.se, .int .i64 a.er, va, .int .i64 a.c.kind, .int .i64 a.c.session, .int .i64 a.c.seq, .string a.c.name, .int .i64 a.c.n, .int .i64 a.rs, .int .i64 a.rq, .int .i64 a.re, .int .u64 a.tk, .int .i64 a.rn, .string a.x]) ∧ msgHere w' (.pointer (some ⟨w.heap.size + 1, 0, none⟩)) = some (.agg #[.int .i64 b.k, .int .i64 b.f, .int .i64 b.t, .int .i64 b.b, .int .i64 b.sl, .int .i64 b.ro, .int .i64 b.se, .int .i64 b.er, vb, .int .i64 b.c.kind, .int .i64 b.c.session, .int .i64 b.c.seq, .string b.c.name, .int .i64 b.c.n, .int .i64 b.rs, .int .i64 b.rq, .int .i64 b.re, .int .u64 b.tk, .int .i64 b.rn, .string b.x]) ∧ w'.cell? ⟨w.heap.size, 8, none⟩ = some (va) ∧ w'.cell? ⟨w.heap.size + 1, 8, none⟩ = some (vb) ∧ w'.cell? ⟨w.heap.size, 9, none⟩ = some (.int .i64 a.c.kind) ∧ w'.cell? ⟨w.heap.size + 1, 9, none⟩ = some (.int .i64 b.c.kind) ∧ w'.cell? ⟨w.heap.size, 10, none⟩ = some (.int .i64 a.c.session) ∧ w'.cell? ⟨w.heap.size + 1, 10, none⟩ = some (.int .i64 b.c.session) ∧ w'.cell? ⟨w.heap.size, 11, none⟩ = some (.int .i64 a.c.seq) ∧ w'.cell? ⟨w.heap.size + 1, 11, none⟩ = some (.int .i64 b.c.seq) ∧ w'.cell? ⟨w.heap.size, 12, none⟩ = some (.string a.c.name) ∧ w'.cell? ⟨w.heap.size + 1, 12, none⟩ = some (.string b.c.name) ∧ w'.cell? ⟨w.heap.size, 13, none⟩ = some (.int .i64 a.c.n) ∧ w'.cell? ⟨w.heap.size + 1, 13, none⟩ = some (.int .i64 b.c.n) ∧ w'.cell? ⟨w.heap.size, 14, none⟩ = some (.int .i64 a.rs) ∧ w'.cell? ⟨w.heap.size + 1, 14, none⟩ = some (.int .i64 b.rs) ∧ w'.cell? ⟨w.heap.size, 15, none⟩ = some (.int .i64 a.rq) ∧ w'.cell? ⟨w.heap.size + 1, 15, none⟩ = some (.int .i64 b.rq) ∧ w'.cell? ⟨w.heap.size, 16, none⟩ = some (.int .i64 a.re) ∧ w'.cell? ⟨w.heap.size + 1, 16, none⟩ = some (.int .i64 b.re) ∧ w'.cell? ⟨w.heap.size, 17, none⟩ = some (.int .u64 a.tk) ∧ w'.cell? ⟨w.heap.size + 1, 17, none⟩ = some (.int .u64 b.tk) ∧ w'.cell? ⟨w.heap.size, 18, none⟩ = some (.int .i64 a.rn) ∧ w'.cell? ⟨w.heap.size + 1, 18, none⟩ = some (.int .i64 b.rn) ∧ w'.cell? ⟨w.heap.size, 19, none⟩ = some (.string a.x) ∧ w'.cell? ⟨w.heap.size + 1, 19, none⟩ = some (.string b.x))) (by kernel_rfl) ?_ (fun hHeld => ?_)
        · try dsimp only
          go_keep
        refine tk0 (.agg #[.int .i64 a.k, .int .i64 a.f, .int .i64 a.t, .int .i64 a.b, .int .i64 a.sl, .int .i64 a.ro, .int .i64 a.se, .int .i64 a.er, va, .int .i64 a.c.kind, .int .i64 a.c.session, .int .i64 a.c.seq, .string a.c.name, .int .i64 a.c.n, .int .i64 a.rs, .int .i64 a.rq, .int .i64 a.re, .int .u64 a.tk, .int .i64 a.rn, .string a.x]) (by kernel_rfl) (by kernel_rfl) (by kernel_rfl) (fun _ _ _ h => h) rfl (fun w hSw => load_yields rfl rfl hSw.1) (by assumption) ?_
        try simp only [Act.put, List.setIfInBounds_toArray, List.set_cons_zero, List.set_cons_succ]
        refine tk2 (.agg #[.int .i64 b.k, .int .i64 b.f, .int .i64 b.t, .int .i64 b.b, .int .i64 b.sl, .int .i64 b.ro, .int .i64 b.se, .int .i64 b.er, vb, .int .i64 b.c.kind, .int .i64 b.c.session, .int .i64 b.c.seq, .string b.c.name, .int .i64 b.c.n, .int .i64 b.rs, .int .i64 b.rq, .int .i64 b.re, .int .u64 b.tk, .int .i64 b.rn, .string b.x]) (by kernel_rfl) (by kernel_rfl) (by kernel_rfl) (fun _ _ _ h => h) rfl (fun w hSw => load_yields rfl rfl hSw.2.1) (by assumption) ?_
        try simp only [Act.put, List.setIfInBounds_toArray, List.set_cons_zero, List.set_cons_succ]
        refine cl1 (by kernel_rfl) rfl (fun K hK => ?_)
        go_simp
        (go_at_call 17; refine (head_raw _ _ _ _ _ _ _ _ _ _ _ _ _ _ _ _ _ _ _ _ _).mono ?_; rintro e w3 ⟨rfl, b3'⟩; have b3 := undrew b3'; have x3 := x0.below b3; have ma3 := x3.la.here; have mb3 := x3.lb.here; have la3 := x3.la.lt; have lb3 := x3.lb.lt; have a3_8 := x3.la.box.c8; have b3_8 := x3.lb.box.c8; have a3_9 := x3.la.box.c9; have b3_9 := x3.lb.box.c9; have a3_10 := x3.la.box.c10; have b3_10 := x3.lb.box.c10; have a3_11 := x3.la.box.c11; have b3_11 := x3.lb.box.c11; have a3_12 := x3.la.box.c12; have b3_12 := x3.lb.box.c12; have a3_13 := x3.la.box.c13; have b3_13 := x3.lb.box.c13; have a3_14 := x3.la.box.c14; have b3_14 := x3.lb.box.c14; have a3_15 := x3.la.box.c15; have b3_15 := x3.lb.box.c15; have a3_16 := x3.la.box.c16; have b3_16 := x3.lb.box.c16; have a3_17 := x3.la.box.c17; have b3_17 := x3.lb.box.c17; have a3_18 := x3.la.box.c18; have b3_18 := x3.lb.box.c18; have a3_19 := x3.la.box.c19; have b3_19 := x3.lb.box.c19)
        refine hK.out _ _ ?_ (fun hHeld => ?_)
        · try dsimp only
          go_keep
        clear hK K
        try simp only [Act.put, List.setIfInBounds_toArray, List.set_cons_zero, List.set_cons_succ]
        refine cl3 (by kernel_rfl) rfl (fun K hK => ?_)
        go_simp
        (go_at_call 17; refine (head_raw _ _ _ _ _ _ _ _ _ _ _ _ _ _ _ _ _ _ _ _ _).mono ?_; rintro e w4 ⟨rfl, b4⟩; have x4 := x3.below b4; have ma4 := x4.la.here; have mb4 := x4.lb.here; have la4 := x4.la.lt; have lb4 := x4.lb.lt; have a4_8 := x4.la.box.c8; have b4_8 := x4.lb.box.c8; have a4_9 := x4.la.box.c9; have b4_9 := x4.lb.box.c9; have a4_10 := x4.la.box.c10; have b4_10 := x4.lb.box.c10; have a4_11 := x4.la.box.c11; have b4_11 := x4.lb.box.c11; have a4_12 := x4.la.box.c12; have b4_12 := x4.lb.box.c12; have a4_13 := x4.la.box.c13; have b4_13 := x4.lb.box.c13; have a4_14 := x4.la.box.c14; have b4_14 := x4.lb.box.c14; have a4_15 := x4.la.box.c15; have b4_15 := x4.lb.box.c15; have a4_16 := x4.la.box.c16; have b4_16 := x4.lb.box.c16; have a4_17 := x4.la.box.c17; have b4_17 := x4.lb.box.c17; have a4_18 := x4.la.box.c18; have b4_18 := x4.lb.box.c18; have a4_19 := x4.la.box.c19; have b4_19 := x4.lb.box.c19)
        refine hK.out _ _ ?_ (fun hHeld => ?_)
        · try dsimp only
          go_keep
        clear hK K
        try simp only [Act.put, List.setIfInBounds_toArray, List.set_cons_zero, List.set_cons_succ]
        refine tk4 (.bool true) (by kernel_rfl) (by kernel_rfl) (by kernel_rfl) (fun _ _ _ h => h) rfl (fun w hSw => by (try dsimp only at hSw); go_simp) (by assumption) ?_
        try simp only [Act.put, List.setIfInBounds_toArray, List.set_cons_zero, List.set_cons_succ]
        refine tk5 (.bool true) (by kernel_rfl) (by kernel_rfl) (by kernel_rfl) (fun _ _ _ h => h) rfl (fun w hSw => by (try dsimp only at hSw); go_simp) (by assumption) ?_
        try simp only [Act.put, List.setIfInBounds_toArray, List.set_cons_zero, List.set_cons_succ]
        refine tk6 (.pointer (some ⟨w.heap.size, 8, none⟩)) (by kernel_rfl) (by kernel_rfl) (by kernel_rfl) (fun _ _ _ h => h) rfl (fun w hSw => by (try dsimp only at hSw); go_simp) (by assumption) ?_
        try simp only [Act.put, List.setIfInBounds_toArray, List.set_cons_zero, List.set_cons_succ]
        refine tk7 (va) (by kernel_rfl) (by kernel_rfl) (by kernel_rfl) (fun _ _ _ h => h) rfl (fun w hSw => by (try dsimp only at hSw); go_simp) (by assumption) ?_
        try simp only [Act.put, List.setIfInBounds_toArray, List.set_cons_zero, List.set_cons_succ]
        refine tk8 (.pointer (some ⟨w.heap.size + 1, 8, none⟩)) (by kernel_rfl) (by kernel_rfl) (by kernel_rfl) (fun _ _ _ h => h) rfl (fun w hSw => by (try dsimp only at hSw); go_simp) (by assumption) ?_
        try simp only [Act.put, List.setIfInBounds_toArray, List.set_cons_zero, List.set_cons_succ]
        refine tk9 (vb) (by kernel_rfl) (by kernel_rfl) (by kernel_rfl) (fun _ _ _ h => h) rfl (fun w hSw => by (try dsimp only at hSw); go_simp) (by assumption) ?_
        try simp only [Act.put, List.setIfInBounds_toArray, List.set_cons_zero, List.set_cons_succ]
        refine cl10 (by kernel_rfl) rfl (fun K hK => ?_)
        go_simp
        (go_at_call 44; refine (equal_any a.es b.es va vb _ (by exact x4.ea) (by exact x4.eb) hn true (by simp [HE.out])).mono ?_; rintro e w5 ⟨rfl, b5⟩; have x5 := x4.below b5; have ma5 := x5.la.here; have mb5 := x5.lb.here; have la5 := x5.la.lt; have lb5 := x5.lb.lt; have a5_8 := x5.la.box.c8; have b5_8 := x5.lb.box.c8; have a5_9 := x5.la.box.c9; have b5_9 := x5.lb.box.c9; have a5_10 := x5.la.box.c10; have b5_10 := x5.lb.box.c10; have a5_11 := x5.la.box.c11; have b5_11 := x5.lb.box.c11; have a5_12 := x5.la.box.c12; have b5_12 := x5.lb.box.c12; have a5_13 := x5.la.box.c13; have b5_13 := x5.lb.box.c13; have a5_14 := x5.la.box.c14; have b5_14 := x5.lb.box.c14; have a5_15 := x5.la.box.c15; have b5_15 := x5.lb.box.c15; have a5_16 := x5.la.box.c16; have b5_16 := x5.lb.box.c16; have a5_17 := x5.la.box.c17; have b5_17 := x5.lb.box.c17; have a5_18 := x5.la.box.c18; have b5_18 := x5.lb.box.c18; have a5_19 := x5.la.box.c19; have b5_19 := x5.lb.box.c19)
        refine hK.out _ _ ?_ (fun hHeld => ?_)
        · try dsimp only
          go_keep
        clear hK K
        try simp only [Act.put, List.setIfInBounds_toArray, List.set_cons_zero, List.set_cons_succ]
        refine tk11 (.bool true) (by kernel_rfl) (by kernel_rfl) (by kernel_rfl) (fun _ _ _ h => h) rfl (fun w hSw => by (try dsimp only at hSw); go_simp) (by assumption) ?_
        try simp only [Act.put, List.setIfInBounds_toArray, List.set_cons_zero, List.set_cons_succ]
        refine tk12 (.bool true) (by kernel_rfl) (by kernel_rfl) (by kernel_rfl) (fun _ _ _ h => h) rfl (fun w hSw => by (try dsimp only at hSw); go_simp) (by assumption) ?_
        try simp only [Act.put, List.setIfInBounds_toArray, List.set_cons_zero, List.set_cons_succ]
        refine tk13 (.pointer (some ⟨w.heap.size, 9, none⟩)) (by kernel_rfl) (by kernel_rfl) (by kernel_rfl) (fun _ _ _ h => h) rfl (fun w hSw => by (try dsimp only at hSw); go_simp) (by assumption) ?_
        try simp only [Act.put, List.setIfInBounds_toArray, List.set_cons_zero, List.set_cons_succ]
        refine tk14 (.agg #[.int .i64 a.c.kind, .int .i64 a.c.session, .int .i64 a.c.seq, .string a.c.name, .int .i64 a.c.n]) (by kernel_rfl) (by kernel_rfl) (by kernel_rfl) (fun _ _ _ h => h) rfl (fun w hSw => by (try dsimp only at hSw); go_simp) (by assumption) ?_
        try simp only [Act.put, List.setIfInBounds_toArray, List.set_cons_zero, List.set_cons_succ]
        refine tk15 (.pointer (some ⟨w.heap.size + 1, 9, none⟩)) (by kernel_rfl) (by kernel_rfl) (by kernel_rfl) (fun _ _ _ h => h) rfl (fun w hSw => by (try dsimp only at hSw); go_simp) (by assumption) ?_
        try simp only [Act.put, List.setIfInBounds_toArray, List.set_cons_zero, List.set_cons_succ]
        refine tk16 (.agg #[.int .i64 b.c.kind, .int .i64 b.c.session, .int .i64 b.c.seq, .string b.c.name, .int .i64 b.c.n]) (by kernel_rfl) (by kernel_rfl) (by kernel_rfl) (fun _ _ _ h => h) rfl (fun w hSw => by (try dsimp only at hSw); go_simp) (by assumption) ?_
        try simp only [Act.put, List.setIfInBounds_toArray, List.set_cons_zero, List.set_cons_succ]
        refine tk17 (.bool false) (by kernel_rfl) (by kernel_rfl) (by kernel_rfl) (fun _ _ _ h => h) rfl (fun w hSw => by (try dsimp only at hSw); go_simp) (by assumption) ?_
        try simp only [Act.put, List.setIfInBounds_toArray, List.set_cons_zero, List.set_cons_succ]
        refine tk18 (.bool false) (by kernel_rfl) (by kernel_rfl) (by kernel_rfl) (fun _ _ _ h => h) rfl (fun w hSw => by (try dsimp only at hSw); go_simp) (by assumption) ?_
        try simp only [Act.put, List.setIfInBounds_toArray, List.set_cons_zero, List.set_cons_succ]
        refine tk19 (.bool false) (by kernel_rfl) (by kernel_rfl) (by kernel_rfl) (fun _ _ _ h => h) rfl (fun w hSw => by (try dsimp only at hSw); go_simp) (by assumption) ?_
        try simp only [Act.put, List.setIfInBounds_toArray, List.set_cons_zero, List.set_cons_succ]
        refine sk20 (by kernel_rfl) (by kernel_rfl) (by kernel_rfl) (fun _ _ _ h => h) rfl (by assumption) ?_
        try simp only [Act.put, List.setIfInBounds_toArray, List.set_cons_zero, List.set_cons_succ]
        refine sk21 (by kernel_rfl) (by kernel_rfl) (by kernel_rfl) (fun _ _ _ h => h) rfl (by assumption) ?_
        try simp only [Act.put, List.setIfInBounds_toArray, List.set_cons_zero, List.set_cons_succ]
        refine sk22 (by kernel_rfl) (by kernel_rfl) (by kernel_rfl) (fun _ _ _ h => h) rfl (by assumption) ?_
        try simp only [Act.put, List.setIfInBounds_toArray, List.set_cons_zero, List.set_cons_succ]
        refine sk23 (by kernel_rfl) (by kernel_rfl) (by kernel_rfl) (fun _ _ _ h => h) rfl (by assumption) ?_
        try simp only [Act.put, List.setIfInBounds_toArray, List.set_cons_zero, List.set_cons_succ]
        refine sk24 (by kernel_rfl) (by kernel_rfl) (by kernel_rfl) (fun _ _ _ h => h) rfl (by assumption) ?_
        try simp only [Act.put, List.setIfInBounds_toArray, List.set_cons_zero, List.set_cons_succ]
        refine tk25 (.bool false) (by kernel_rfl) (by kernel_rfl) (by kernel_rfl) (fun _ _ _ h => h) rfl (fun w hSw => by (try dsimp only at hSw); go_simp) (by assumption) ?_
        try simp only [Act.put, List.setIfInBounds_toArray, List.set_cons_zero, List.set_cons_succ]
        refine tk26 (.bool false) (by kernel_rfl) (by kernel_rfl) (by kernel_rfl) (fun _ _ _ h => h) rfl (fun w hSw => by (try dsimp only at hSw); go_simp) (by assumption) ?_
        try simp only [Act.put, List.setIfInBounds_toArray, List.set_cons_zero, List.set_cons_succ]
        refine sk27 (by kernel_rfl) (by kernel_rfl) (by kernel_rfl) (fun _ _ _ h => h) rfl (by assumption) ?_
        try simp only [Act.put, List.setIfInBounds_toArray, List.set_cons_zero, List.set_cons_succ]
        refine sk28 (by kernel_rfl) (by kernel_rfl) (by kernel_rfl) (fun _ _ _ h => h) rfl (by assumption) ?_
        try simp only [Act.put, List.setIfInBounds_toArray, List.set_cons_zero, List.set_cons_succ]
        refine sk29 (by kernel_rfl) (by kernel_rfl) (by kernel_rfl) (fun _ _ _ h => h) rfl (by assumption) ?_
        try simp only [Act.put, List.setIfInBounds_toArray, List.set_cons_zero, List.set_cons_succ]
        refine sk30 (by kernel_rfl) (by kernel_rfl) (by kernel_rfl) (fun _ _ _ h => h) rfl (by assumption) ?_
        try simp only [Act.put, List.setIfInBounds_toArray, List.set_cons_zero, List.set_cons_succ]
        refine sk31 (by kernel_rfl) (by kernel_rfl) (by kernel_rfl) (fun _ _ _ h => h) rfl (by assumption) ?_
        try simp only [Act.put, List.setIfInBounds_toArray, List.set_cons_zero, List.set_cons_succ]
        refine tk32 (.bool false) (by kernel_rfl) (by kernel_rfl) (by kernel_rfl) (fun _ _ _ h => h) rfl (fun w hSw => by (try dsimp only at hSw); go_simp) (by assumption) ?_
        try simp only [Act.put, List.setIfInBounds_toArray, List.set_cons_zero, List.set_cons_succ]
        refine tk33 (.bool false) (by kernel_rfl) (by kernel_rfl) (by kernel_rfl) (fun _ _ _ h => h) rfl (fun w hSw => by (try dsimp only at hSw); go_simp) (by assumption) ?_
        try simp only [Act.put, List.setIfInBounds_toArray, List.set_cons_zero, List.set_cons_succ]
        refine wpAnyH_done (by kernel_rfl) ?_ _
        go_wp2
        go_ret
        have f3 := bmm b0 b0.size b3
        have f4 := bmm f3 f3.size b4
        exact ⟨rfl, bmm f4 f4.size b5⟩
      | true =>
        rw [hc] at qc
        cases hq : eqR a b with
        | false =>
          have HF : Hid (r = false) := ms_ne GR.out (fun h => by rw [((ms_eq a b).1 h).2.2.2.1] at hq; cases hq)
          rw [HF.out]
          rw [hq] at qr
          go_enter Try.func13, Try.ntmps13
          go_wp2
          refine wp_region_held_drew (S := (fun w' => msgHere w' (.pointer (some ⟨w.heap.size, 0, none⟩)) = some (.agg #[.int .i64 a.k, .int .i64 a.f, .int .i64 a.t, .int .i64 a.b, .int .i64 a.sl, .int .i64 a.ro, .int .i64 a.se, .int .i64 a.er, va, .int .i64 a.c.kind, .int .i64 a.c.session, .int .i64 a.c.seq, .string a.c.name, .int .i64 a.c.n, .int .i64 a.rs, .int .i64 a.rq, .int .i64 a.re, .int .u64 a.tk, .int .i64 a.rn, .string a.x]) ∧ msgHere w' (.pointer (some ⟨w.heap.size + 1, 0, none⟩)) = some (.agg #[.int .i64 b.k, .int .i64 b.f, .int .i64 b.t, .int .i64 b.b, .int .i64 b.sl, .int .i64 b.ro, .int .i64 b.se, .int .i64 b.er, vb, .int .i64 b.c.kind, .int .i64 b.c.session, .int .i64 b.c.seq, .string b.c.name, .int .i64 b.c.n, .int .i64 b.rs, .int .i64 b.rq, .int .i64 b.re, .int .u64 b.tk, .int .i64 b.rn, .string b.x]) ∧ w'.cell? ⟨w.heap.size, 8, none⟩ = some (va) ∧ w'.cell? ⟨w.heap.size + 1, 8, none⟩ = some (vb) ∧ w'.cell? ⟨w.heap.size, 9, none⟩ = some (.int .i64 a.c.kind) ∧ w'.cell? ⟨w.heap.size + 1, 9, none⟩ = some (.int .i64 b.c.kind) ∧ w'.cell? ⟨w.heap.size, 10, none⟩ = some (.int .i64 a.c.session) ∧ w'.cell? ⟨w.heap.size + 1, 10, none⟩ = some (.int .i64 b.c.session) ∧ w'.cell? ⟨w.heap.size, 11, none⟩ = some (.int .i64 a.c.seq) ∧ w'.cell? ⟨w.heap.size + 1, 11, none⟩ = some (.int .i64 b.c.seq) ∧ w'.cell? ⟨w.heap.size, 12, none⟩ = some (.string a.c.name) ∧ w'.cell? ⟨w.heap.size + 1, 12, none⟩ = some (.string b.c.name) ∧ w'.cell? ⟨w.heap.size, 13, none⟩ = some (.int .i64 a.c.n) ∧ w'.cell? ⟨w.heap.size + 1, 13, none⟩ = some (.int .i64 b.c.n) ∧ w'.cell? ⟨w.heap.size, 14, none⟩ = some (.int .i64 a.rs) ∧ w'.cell? ⟨w.heap.size + 1, 14, none⟩ = some (.int .i64 b.rs) ∧ w'.cell? ⟨w.heap.size, 15, none⟩ = some (.int .i64 a.rq) ∧ w'.cell? ⟨w.heap.size + 1, 15, none⟩ = some (.int .i64 b.rq) ∧ w'.cell? ⟨w.heap.size, 16, none⟩ = some (.int .i64 a.re) ∧ w'.cell? ⟨w.heap.size + 1, 16, none⟩ = some (.int .i64 b.re) ∧ w'.cell? ⟨w.heap.size, 17, none⟩ = some (.int .u64 a.tk) ∧ w'.cell? ⟨w.heap.size + 1, 17, none⟩ = some (.int .u64 b.tk) ∧ w'.cell? ⟨w.heap.size, 18, none⟩ = some (.int .i64 a.rn) ∧ w'.cell? ⟨w.heap.size + 1, 18, none⟩ = some (.int .i64 b.rn) ∧ w'.cell? ⟨w.heap.size, 19, none⟩ = some (.string a.x) ∧ w'.cell? ⟨w.heap.size + 1, 19, none⟩ = some (.string b.x))) (by kernel_rfl) ?_ (fun hHeld => ?_)
          · try dsimp only
            go_keep
          refine tk0 (.agg #[.int .i64 a.k, .int .i64 a.f, .int .i64 a.t, .int .i64 a.b, .int .i64 a.sl, .int .i64 a.ro, .int .i64 a.se, .int .i64 a.er, va, .int .i64 a.c.kind, .int .i64 a.c.session, .int .i64 a.c.seq, .string a.c.name, .int .i64 a.c.n, .int .i64 a.rs, .int .i64 a.rq, .int .i64 a.re, .int .u64 a.tk, .int .i64 a.rn, .string a.x]) (by kernel_rfl) (by kernel_rfl) (by kernel_rfl) (fun _ _ _ h => h) rfl (fun w hSw => load_yields rfl rfl hSw.1) (by assumption) ?_
          try simp only [Act.put, List.setIfInBounds_toArray, List.set_cons_zero, List.set_cons_succ]
          refine tk2 (.agg #[.int .i64 b.k, .int .i64 b.f, .int .i64 b.t, .int .i64 b.b, .int .i64 b.sl, .int .i64 b.ro, .int .i64 b.se, .int .i64 b.er, vb, .int .i64 b.c.kind, .int .i64 b.c.session, .int .i64 b.c.seq, .string b.c.name, .int .i64 b.c.n, .int .i64 b.rs, .int .i64 b.rq, .int .i64 b.re, .int .u64 b.tk, .int .i64 b.rn, .string b.x]) (by kernel_rfl) (by kernel_rfl) (by kernel_rfl) (fun _ _ _ h => h) rfl (fun w hSw => load_yields rfl rfl hSw.2.1) (by assumption) ?_
          try simp only [Act.put, List.setIfInBounds_toArray, List.set_cons_zero, List.set_cons_succ]
          refine cl1 (by kernel_rfl) rfl (fun K hK => ?_)
          go_simp
          (go_at_call 17; refine (head_raw _ _ _ _ _ _ _ _ _ _ _ _ _ _ _ _ _ _ _ _ _).mono ?_; rintro e w3 ⟨rfl, b3'⟩; have b3 := undrew b3'; have x3 := x0.below b3; have ma3 := x3.la.here; have mb3 := x3.lb.here; have la3 := x3.la.lt; have lb3 := x3.lb.lt; have a3_8 := x3.la.box.c8; have b3_8 := x3.lb.box.c8; have a3_9 := x3.la.box.c9; have b3_9 := x3.lb.box.c9; have a3_10 := x3.la.box.c10; have b3_10 := x3.lb.box.c10; have a3_11 := x3.la.box.c11; have b3_11 := x3.lb.box.c11; have a3_12 := x3.la.box.c12; have b3_12 := x3.lb.box.c12; have a3_13 := x3.la.box.c13; have b3_13 := x3.lb.box.c13; have a3_14 := x3.la.box.c14; have b3_14 := x3.lb.box.c14; have a3_15 := x3.la.box.c15; have b3_15 := x3.lb.box.c15; have a3_16 := x3.la.box.c16; have b3_16 := x3.lb.box.c16; have a3_17 := x3.la.box.c17; have b3_17 := x3.lb.box.c17; have a3_18 := x3.la.box.c18; have b3_18 := x3.lb.box.c18; have a3_19 := x3.la.box.c19; have b3_19 := x3.lb.box.c19)
          refine hK.out _ _ ?_ (fun hHeld => ?_)
          · try dsimp only
            go_keep
          clear hK K
          try simp only [Act.put, List.setIfInBounds_toArray, List.set_cons_zero, List.set_cons_succ]
          refine cl3 (by kernel_rfl) rfl (fun K hK => ?_)
          go_simp
          (go_at_call 17; refine (head_raw _ _ _ _ _ _ _ _ _ _ _ _ _ _ _ _ _ _ _ _ _).mono ?_; rintro e w4 ⟨rfl, b4⟩; have x4 := x3.below b4; have ma4 := x4.la.here; have mb4 := x4.lb.here; have la4 := x4.la.lt; have lb4 := x4.lb.lt; have a4_8 := x4.la.box.c8; have b4_8 := x4.lb.box.c8; have a4_9 := x4.la.box.c9; have b4_9 := x4.lb.box.c9; have a4_10 := x4.la.box.c10; have b4_10 := x4.lb.box.c10; have a4_11 := x4.la.box.c11; have b4_11 := x4.lb.box.c11; have a4_12 := x4.la.box.c12; have b4_12 := x4.lb.box.c12; have a4_13 := x4.la.box.c13; have b4_13 := x4.lb.box.c13; have a4_14 := x4.la.box.c14; have b4_14 := x4.lb.box.c14; have a4_15 := x4.la.box.c15; have b4_15 := x4.lb.box.c15; have a4_16 := x4.la.box.c16; have b4_16 := x4.lb.box.c16; have a4_17 := x4.la.box.c17; have b4_17 := x4.lb.box.c17; have a4_18 := x4.la.box.c18; have b4_18 := x4.lb.box.c18; have a4_19 := x4.la.box.c19; have b4_19 := x4.lb.box.c19)
          refine hK.out _ _ ?_ (fun hHeld => ?_)
          · try dsimp only
            go_keep
          clear hK K
          try simp only [Act.put, List.setIfInBounds_toArray, List.set_cons_zero, List.set_cons_succ]
          refine tk4 (.bool true) (by kernel_rfl) (by kernel_rfl) (by kernel_rfl) (fun _ _ _ h => h) rfl (fun w hSw => by (try dsimp only at hSw); go_simp) (by assumption) ?_
          try simp only [Act.put, List.setIfInBounds_toArray, List.set_cons_zero, List.set_cons_succ]
          refine tk5 (.bool true) (by kernel_rfl) (by kernel_rfl) (by kernel_rfl) (fun _ _ _ h => h) rfl (fun w hSw => by (try dsimp only at hSw); go_simp) (by assumption) ?_
          try simp only [Act.put, List.setIfInBounds_toArray, List.set_cons_zero, List.set_cons_succ]
          refine tk6 (.pointer (some ⟨w.heap.size, 8, none⟩)) (by kernel_rfl) (by kernel_rfl) (by kernel_rfl) (fun _ _ _ h => h) rfl (fun w hSw => by (try dsimp only at hSw); go_simp) (by assumption) ?_
          try simp only [Act.put, List.setIfInBounds_toArray, List.set_cons_zero, List.set_cons_succ]
          refine tk7 (va) (by kernel_rfl) (by kernel_rfl) (by kernel_rfl) (fun _ _ _ h => h) rfl (fun w hSw => by (try dsimp only at hSw); go_simp) (by assumption) ?_
          try simp only [Act.put, List.setIfInBounds_toArray, List.set_cons_zero, List.set_cons_succ]
          refine tk8 (.pointer (some ⟨w.heap.size + 1, 8, none⟩)) (by kernel_rfl) (by kernel_rfl) (by kernel_rfl) (fun _ _ _ h => h) rfl (fun w hSw => by (try dsimp only at hSw); go_simp) (by assumption) ?_
          try simp only [Act.put, List.setIfInBounds_toArray, List.set_cons_zero, List.set_cons_succ]
          refine tk9 (vb) (by kernel_rfl) (by kernel_rfl) (by kernel_rfl) (fun _ _ _ h => h) rfl (fun w hSw => by (try dsimp only at hSw); go_simp) (by assumption) ?_
          try simp only [Act.put, List.setIfInBounds_toArray, List.set_cons_zero, List.set_cons_succ]
          refine cl10 (by kernel_rfl) rfl (fun K hK => ?_)
          go_simp
          (go_at_call 44; refine (equal_any a.es b.es va vb _ (by exact x4.ea) (by exact x4.eb) hn true (by simp [HE.out])).mono ?_; rintro e w5 ⟨rfl, b5⟩; have x5 := x4.below b5; have ma5 := x5.la.here; have mb5 := x5.lb.here; have la5 := x5.la.lt; have lb5 := x5.lb.lt; have a5_8 := x5.la.box.c8; have b5_8 := x5.lb.box.c8; have a5_9 := x5.la.box.c9; have b5_9 := x5.lb.box.c9; have a5_10 := x5.la.box.c10; have b5_10 := x5.lb.box.c10; have a5_11 := x5.la.box.c11; have b5_11 := x5.lb.box.c11; have a5_12 := x5.la.box.c12; have b5_12 := x5.lb.box.c12; have a5_13 := x5.la.box.c13; have b5_13 := x5.lb.box.c13; have a5_14 := x5.la.box.c14; have b5_14 := x5.lb.box.c14; have a5_15 := x5.la.box.c15; have b5_15 := x5.lb.box.c15; have a5_16 := x5.la.box.c16; have b5_16 := x5.lb.box.c16; have a5_17 := x5.la.box.c17; have b5_17 := x5.lb.box.c17; have a5_18 := x5.la.box.c18; have b5_18 := x5.lb.box.c18; have a5_19 := x5.la.box.c19; have b5_19 := x5.lb.box.c19)
          refine hK.out _ _ ?_ (fun hHeld => ?_)
          · try dsimp only
            go_keep
          clear hK K
          try simp only [Act.put, List.setIfInBounds_toArray, List.set_cons_zero, List.set_cons_succ]
          refine tk11 (.bool true) (by kernel_rfl) (by kernel_rfl) (by kernel_rfl) (fun _ _ _ h => h) rfl (fun w hSw => by (try dsimp only at hSw); go_simp) (by assumption) ?_
          try simp only [Act.put, List.setIfInBounds_toArray, List.set_cons_zero, List.set_cons_succ]
          refine tk12 (.bool true) (by kernel_rfl) (by kernel_rfl) (by kernel_rfl) (fun _ _ _ h => h) rfl (fun w hSw => by (try dsimp only at hSw); go_simp) (by assumption) ?_
          try simp only [Act.put, List.setIfInBounds_toArray, List.set_cons_zero, List.set_cons_succ]
          refine tk13 (.pointer (some ⟨w.heap.size, 9, none⟩)) (by kernel_rfl) (by kernel_rfl) (by kernel_rfl) (fun _ _ _ h => h) rfl (fun w hSw => by (try dsimp only at hSw); go_simp) (by assumption) ?_
          try simp only [Act.put, List.setIfInBounds_toArray, List.set_cons_zero, List.set_cons_succ]
          refine tk14 (.agg #[.int .i64 a.c.kind, .int .i64 a.c.session, .int .i64 a.c.seq, .string a.c.name, .int .i64 a.c.n]) (by kernel_rfl) (by kernel_rfl) (by kernel_rfl) (fun _ _ _ h => h) rfl (fun w hSw => by (try dsimp only at hSw); go_simp) (by assumption) ?_
          try simp only [Act.put, List.setIfInBounds_toArray, List.set_cons_zero, List.set_cons_succ]
          refine tk15 (.pointer (some ⟨w.heap.size + 1, 9, none⟩)) (by kernel_rfl) (by kernel_rfl) (by kernel_rfl) (fun _ _ _ h => h) rfl (fun w hSw => by (try dsimp only at hSw); go_simp) (by assumption) ?_
          try simp only [Act.put, List.setIfInBounds_toArray, List.set_cons_zero, List.set_cons_succ]
          refine tk16 (.agg #[.int .i64 b.c.kind, .int .i64 b.c.session, .int .i64 b.c.seq, .string b.c.name, .int .i64 b.c.n]) (by kernel_rfl) (by kernel_rfl) (by kernel_rfl) (fun _ _ _ h => h) rfl (fun w hSw => by (try dsimp only at hSw); go_simp) (by assumption) ?_
          try simp only [Act.put, List.setIfInBounds_toArray, List.set_cons_zero, List.set_cons_succ]
          refine tk17 (.bool true) (by kernel_rfl) (by kernel_rfl) (by kernel_rfl) (fun _ _ _ h => h) rfl (fun w hSw => by (try dsimp only at hSw); go_simp) (by assumption) ?_
          try simp only [Act.put, List.setIfInBounds_toArray, List.set_cons_zero, List.set_cons_succ]
          refine tk18 (.bool true) (by kernel_rfl) (by kernel_rfl) (by kernel_rfl) (fun _ _ _ h => h) rfl (fun w hSw => by (try dsimp only at hSw); go_simp) (by assumption) ?_
          try simp only [Act.put, List.setIfInBounds_toArray, List.set_cons_zero, List.set_cons_succ]
          refine tk19 (.bool true) (by kernel_rfl) (by kernel_rfl) (by kernel_rfl) (fun _ _ _ h => h) rfl (fun w hSw => by (try dsimp only at hSw); go_simp) (by assumption) ?_
          try simp only [Act.put, List.setIfInBounds_toArray, List.set_cons_zero, List.set_cons_succ]
          refine tk20 (.pointer (some ⟨w.heap.size, 14, none⟩)) (by kernel_rfl) (by kernel_rfl) (by kernel_rfl) (fun _ _ _ h => h) rfl (fun w hSw => by (try dsimp only at hSw); go_simp) (by assumption) ?_
          try simp only [Act.put, List.setIfInBounds_toArray, List.set_cons_zero, List.set_cons_succ]
          refine tk21 (.agg #[.int .i64 a.rs, .int .i64 a.rq, .int .i64 a.re, .int .u64 a.tk, .int .i64 a.rn]) (by kernel_rfl) (by kernel_rfl) (by kernel_rfl) (fun _ _ _ h => h) rfl (fun w hSw => by (try dsimp only at hSw); go_simp) (by assumption) ?_
          try simp only [Act.put, List.setIfInBounds_toArray, List.set_cons_zero, List.set_cons_succ]
          refine tk22 (.pointer (some ⟨w.heap.size + 1, 14, none⟩)) (by kernel_rfl) (by kernel_rfl) (by kernel_rfl) (fun _ _ _ h => h) rfl (fun w hSw => by (try dsimp only at hSw); go_simp) (by assumption) ?_
          try simp only [Act.put, List.setIfInBounds_toArray, List.set_cons_zero, List.set_cons_succ]
          refine tk23 (.agg #[.int .i64 b.rs, .int .i64 b.rq, .int .i64 b.re, .int .u64 b.tk, .int .i64 b.rn]) (by kernel_rfl) (by kernel_rfl) (by kernel_rfl) (fun _ _ _ h => h) rfl (fun w hSw => by (try dsimp only at hSw); go_simp) (by assumption) ?_
          try simp only [Act.put, List.setIfInBounds_toArray, List.set_cons_zero, List.set_cons_succ]
          refine tk24 (.bool false) (by kernel_rfl) (by kernel_rfl) (by kernel_rfl) (fun _ _ _ h => h) rfl (fun w hSw => by (try dsimp only at hSw); go_simp) (by assumption) ?_
          try simp only [Act.put, List.setIfInBounds_toArray, List.set_cons_zero, List.set_cons_succ]
          refine tk25 (.bool false) (by kernel_rfl) (by kernel_rfl) (by kernel_rfl) (fun _ _ _ h => h) rfl (fun w hSw => by (try dsimp only at hSw); go_simp) (by assumption) ?_
          try simp only [Act.put, List.setIfInBounds_toArray, List.set_cons_zero, List.set_cons_succ]
          refine tk26 (.bool false) (by kernel_rfl) (by kernel_rfl) (by kernel_rfl) (fun _ _ _ h => h) rfl (fun w hSw => by (try dsimp only at hSw); go_simp) (by assumption) ?_
          try simp only [Act.put, List.setIfInBounds_toArray, List.set_cons_zero, List.set_cons_succ]
          refine sk27 (by kernel_rfl) (by kernel_rfl) (by kernel_rfl) (fun _ _ _ h => h) rfl (by assumption) ?_
          try simp only [Act.put, List.setIfInBounds_toArray, List.set_cons_zero, List.set_cons_succ]
          refine sk28 (by kernel_rfl) (by kernel_rfl) (by kernel_rfl) (fun _ _ _ h => h) rfl (by assumption) ?_
          try simp only [Act.put, List.setIfInBounds_toArray, List.set_cons_zero, List.set_cons_succ]
          refine sk29 (by kernel_rfl) (by kernel_rfl) (by kernel_rfl) (fun _ _ _ h => h) rfl (by assumption) ?_
          try simp only [Act.put, List.setIfInBounds_toArray, List.set_cons_zero, List.set_cons_succ]
          refine sk30 (by kernel_rfl) (by kernel_rfl) (by kernel_rfl) (fun _ _ _ h => h) rfl (by assumption) ?_
          try simp only [Act.put, List.setIfInBounds_toArray, List.set_cons_zero, List.set_cons_succ]
          refine sk31 (by kernel_rfl) (by kernel_rfl) (by kernel_rfl) (fun _ _ _ h => h) rfl (by assumption) ?_
          try simp only [Act.put, List.setIfInBounds_toArray, List.set_cons_zero, List.set_cons_succ]
          refine tk32 (.bool false) (by kernel_rfl) (by kernel_rfl) (by kernel_rfl) (fun _ _ _ h => h) rfl (fun w hSw => by (try dsimp only at hSw); go_simp) (by assumption) ?_
          try simp only [Act.put, List.setIfInBounds_toArray, List.set_cons_zero, List.set_cons_succ]
          refine tk33 (.bool false) (by kernel_rfl) (by kernel_rfl) (by kernel_rfl) (fun _ _ _ h => h) rfl (fun w hSw => by (try dsimp only at hSw); go_simp) (by assumption) ?_
          try simp only [Act.put, List.setIfInBounds_toArray, List.set_cons_zero, List.set_cons_succ]
          refine wpAnyH_done (by kernel_rfl) ?_ _
          go_wp2
          go_ret
          have f3 := bmm b0 b0.size b3
          have f4 := bmm f3 f3.size b4
          exact ⟨rfl, bmm f4 f4.size b5⟩
        | true =>
          rw [hq] at qr
          cases hx : (a.x.toList == b.x.toList) with
          | false =>
            have HF : Hid (r = false) := ms_ne GR.out (fun h => by rw [h] at hx; simp at hx)
            rw [HF.out]
            go_enter Try.func13, Try.ntmps13
            go_wp2
            refine wp_region_held_drew (S := (fun w' => msgHere w' (.pointer (some ⟨w.heap.size, 0, none⟩)) = some (.agg #[.int .i64 a.k, .int .i64 a.f, .int .i64 a.t, .int .i64 a.b, .int .i64 a.sl, .int .i64 a.ro, .int .i64 a.se, .int .i64 a.er, va, .int .i64 a.c.kind, .int .i64 a.c.session, .int .i64 a.c.seq, .string a.c.name, .int .i64 a.c.n, .int .i64 a.rs, .int .i64 a.rq, .int .i64 a.re, .int .u64 a.tk, .int .i64 a.rn, .string a.x]) ∧ msgHere w' (.pointer (some ⟨w.heap.size + 1, 0, none⟩)) = some (.agg #[.int .i64 b.k, .int .i64 b.f, .int .i64 b.t, .int .i64 b.b, .int .i64 b.sl, .int .i64 b.ro, .int .i64 b.se, .int .i64 b.er, vb, .int .i64 b.c.kind, .int .i64 b.c.session, .int .i64 b.c.seq, .string b.c.name, .int .i64 b.c.n, .int .i64 b.rs, .int .i64 b.rq, .int .i64 b.re, .int .u64 b.tk, .int .i64 b.rn, .string b.x]) ∧ w'.cell? ⟨w.heap.size, 8, none⟩ = some (va) ∧ w'.cell? ⟨w.heap.size + 1, 8, none⟩ = some (vb) ∧ w'.cell? ⟨w.heap.size, 9, none⟩ = some (.int .i64 a.c.kind) ∧ w'.cell? ⟨w.heap.size + 1, 9, none⟩ = some (.int .i64 b.c.kind) ∧ w'.cell? ⟨w.heap.size, 10, none⟩ = some (.int .i64 a.c.session) ∧ w'.cell? ⟨w.heap.size + 1, 10, none⟩ = some (.int .i64 b.c.session) ∧ w'.cell? ⟨w.heap.size, 11, none⟩ = some (.int .i64 a.c.seq) ∧ w'.cell? ⟨w.heap.size + 1, 11, none⟩ = some (.int .i64 b.c.seq) ∧ w'.cell? ⟨w.heap.size, 12, none⟩ = some (.string a.c.name) ∧ w'.cell? ⟨w.heap.size + 1, 12, none⟩ = some (.string b.c.name) ∧ w'.cell? ⟨w.heap.size, 13, none⟩ = some (.int .i64 a.c.n) ∧ w'.cell? ⟨w.heap.size + 1, 13, none⟩ = some (.int .i64 b.c.n) ∧ w'.cell? ⟨w.heap.size, 14, none⟩ = some (.int .i64 a.rs) ∧ w'.cell? ⟨w.heap.size + 1, 14, none⟩ = some (.int .i64 b.rs) ∧ w'.cell? ⟨w.heap.size, 15, none⟩ = some (.int .i64 a.rq) ∧ w'.cell? ⟨w.heap.size + 1, 15, none⟩ = some (.int .i64 b.rq) ∧ w'.cell? ⟨w.heap.size, 16, none⟩ = some (.int .i64 a.re) ∧ w'.cell? ⟨w.heap.size + 1, 16, none⟩ = some (.int .i64 b.re) ∧ w'.cell? ⟨w.heap.size, 17, none⟩ = some (.int .u64 a.tk) ∧ w'.cell? ⟨w.heap.size + 1, 17, none⟩ = some (.int .u64 b.tk) ∧ w'.cell? ⟨w.heap.size, 18, none⟩ = some (.int .i64 a.rn) ∧ w'.cell? ⟨w.heap.size + 1, 18, none⟩ = some (.int .i64 b.rn) ∧ w'.cell? ⟨w.heap.size, 19, none⟩ = some (.string a.x) ∧ w'.cell? ⟨w.heap.size + 1, 19, none⟩ = some (.string b.x))) (by kernel_rfl) ?_ (fun hHeld => ?_)
            · try dsimp only
              go_keep
            refine tk0 (.agg #[.int .i64 a.k, .int .i64 a.f, .int .i64 a.t, .int .i64 a.b, .int .i64 a.sl, .int .i64 a.ro, .int .i64 a.se, .int .i64 a.er, va, .int .i64 a.c.kind, .int .i64 a.c.session, .int .i64 a.c.seq, .string a.c.name, .int .i64 a.c.n, .int .i64 a.rs, .int .i64 a.rq, .int .i64 a.re, .int .u64 a.tk, .int .i64 a.rn, .string a.x]) (by kernel_rfl) (by kernel_rfl) (by kernel_rfl) (fun _ _ _ h => h) rfl (fun w hSw => load_yields rfl rfl hSw.1) (by assumption) ?_
            try simp only [Act.put, List.setIfInBounds_toArray, List.set_cons_zero, List.set_cons_succ]
            refine tk2 (.agg #[.int .i64 b.k, .int .i64 b.f, .int .i64 b.t, .int .i64 b.b, .int .i64 b.sl, .int .i64 b.ro, .int .i64 b.se, .int .i64 b.er, vb, .int .i64 b.c.kind, .int .i64 b.c.session, .int .i64 b.c.seq, .string b.c.name, .int .i64 b.c.n, .int .i64 b.rs, .int .i64 b.rq, .int .i64 b.re, .int .u64 b.tk, .int .i64 b.rn, .string b.x]) (by kernel_rfl) (by kernel_rfl) (by kernel_rfl) (fun _ _ _ h => h) rfl (fun w hSw => load_yields rfl rfl hSw.2.1) (by assumption) ?_
            try simp only [Act.put, List.setIfInBounds_toArray, List.set_cons_zero, List.set_cons_succ]
            refine cl1 (by kernel_rfl) rfl (fun K hK => ?_)
            go_simp
            (go_at_call 17; refine (head_raw _ _ _ _ _ _ _ _ _ _ _ _ _ _ _ _ _ _ _ _ _).mono ?_; rintro e w3 ⟨rfl, b3'⟩; have b3 := undrew b3'; have x3 := x0.below b3; have ma3 := x3.la.here; have mb3 := x3.lb.here; have la3 := x3.la.lt; have lb3 := x3.lb.lt; have a3_8 := x3.la.box.c8; have b3_8 := x3.lb.box.c8; have a3_9 := x3.la.box.c9; have b3_9 := x3.lb.box.c9; have a3_10 := x3.la.box.c10; have b3_10 := x3.lb.box.c10; have a3_11 := x3.la.box.c11; have b3_11 := x3.lb.box.c11; have a3_12 := x3.la.box.c12; have b3_12 := x3.lb.box.c12; have a3_13 := x3.la.box.c13; have b3_13 := x3.lb.box.c13; have a3_14 := x3.la.box.c14; have b3_14 := x3.lb.box.c14; have a3_15 := x3.la.box.c15; have b3_15 := x3.lb.box.c15; have a3_16 := x3.la.box.c16; have b3_16 := x3.lb.box.c16; have a3_17 := x3.la.box.c17; have b3_17 := x3.lb.box.c17; have a3_18 := x3.la.box.c18; have b3_18 := x3.lb.box.c18; have a3_19 := x3.la.box.c19; have b3_19 := x3.lb.box.c19)
            refine hK.out _ _ ?_ (fun hHeld => ?_)
            · try dsimp only
              go_keep
            clear hK K
            try simp only [Act.put, List.setIfInBounds_toArray, List.set_cons_zero, List.set_cons_succ]
            refine cl3 (by kernel_rfl) rfl (fun K hK => ?_)
            go_simp
            (go_at_call 17; refine (head_raw _ _ _ _ _ _ _ _ _ _ _ _ _ _ _ _ _ _ _ _ _).mono ?_; rintro e w4 ⟨rfl, b4⟩; have x4 := x3.below b4; have ma4 := x4.la.here; have mb4 := x4.lb.here; have la4 := x4.la.lt; have lb4 := x4.lb.lt; have a4_8 := x4.la.box.c8; have b4_8 := x4.lb.box.c8; have a4_9 := x4.la.box.c9; have b4_9 := x4.lb.box.c9; have a4_10 := x4.la.box.c10; have b4_10 := x4.lb.box.c10; have a4_11 := x4.la.box.c11; have b4_11 := x4.lb.box.c11; have a4_12 := x4.la.box.c12; have b4_12 := x4.lb.box.c12; have a4_13 := x4.la.box.c13; have b4_13 := x4.lb.box.c13; have a4_14 := x4.la.box.c14; have b4_14 := x4.lb.box.c14; have a4_15 := x4.la.box.c15; have b4_15 := x4.lb.box.c15; have a4_16 := x4.la.box.c16; have b4_16 := x4.lb.box.c16; have a4_17 := x4.la.box.c17; have b4_17 := x4.lb.box.c17; have a4_18 := x4.la.box.c18; have b4_18 := x4.lb.box.c18; have a4_19 := x4.la.box.c19; have b4_19 := x4.lb.box.c19)
            refine hK.out _ _ ?_ (fun hHeld => ?_)
            · try dsimp only
              go_keep
            clear hK K
            try simp only [Act.put, List.setIfInBounds_toArray, List.set_cons_zero, List.set_cons_succ]
            refine tk4 (.bool true) (by kernel_rfl) (by kernel_rfl) (by kernel_rfl) (fun _ _ _ h => h) rfl (fun w hSw => by (try dsimp only at hSw); go_simp) (by assumption) ?_
            try simp only [Act.put, List.setIfInBounds_toArray, List.set_cons_zero, List.set_cons_succ]
            refine tk5 (.bool true) (by kernel_rfl) (by kernel_rfl) (by kernel_rfl) (fun _ _ _ h => h) rfl (fun w hSw => by (try dsimp only at hSw); go_simp) (by assumption) ?_
            try simp only [Act.put, List.setIfInBounds_toArray, List.set_cons_zero, List.set_cons_succ]
            refine tk6 (.pointer (some ⟨w.heap.size, 8, none⟩)) (by kernel_rfl) (by kernel_rfl) (by kernel_rfl) (fun _ _ _ h => h) rfl (fun w hSw => by (try dsimp only at hSw); go_simp) (by assumption) ?_
            try simp only [Act.put, List.setIfInBounds_toArray, List.set_cons_zero, List.set_cons_succ]
            refine tk7 (va) (by kernel_rfl) (by kernel_rfl) (by kernel_rfl) (fun _ _ _ h => h) rfl (fun w hSw => by (try dsimp only at hSw); go_simp) (by assumption) ?_
            try simp only [Act.put, List.setIfInBounds_toArray, List.set_cons_zero, List.set_cons_succ]
            refine tk8 (.pointer (some ⟨w.heap.size + 1, 8, none⟩)) (by kernel_rfl) (by kernel_rfl) (by kernel_rfl) (fun _ _ _ h => h) rfl (fun w hSw => by (try dsimp only at hSw); go_simp) (by assumption) ?_
            try simp only [Act.put, List.setIfInBounds_toArray, List.set_cons_zero, List.set_cons_succ]
            refine tk9 (vb) (by kernel_rfl) (by kernel_rfl) (by kernel_rfl) (fun _ _ _ h => h) rfl (fun w hSw => by (try dsimp only at hSw); go_simp) (by assumption) ?_
            try simp only [Act.put, List.setIfInBounds_toArray, List.set_cons_zero, List.set_cons_succ]
            refine cl10 (by kernel_rfl) rfl (fun K hK => ?_)
            go_simp
            (go_at_call 44; refine (equal_any a.es b.es va vb _ (by exact x4.ea) (by exact x4.eb) hn true (by simp [HE.out])).mono ?_; rintro e w5 ⟨rfl, b5⟩; have x5 := x4.below b5; have ma5 := x5.la.here; have mb5 := x5.lb.here; have la5 := x5.la.lt; have lb5 := x5.lb.lt; have a5_8 := x5.la.box.c8; have b5_8 := x5.lb.box.c8; have a5_9 := x5.la.box.c9; have b5_9 := x5.lb.box.c9; have a5_10 := x5.la.box.c10; have b5_10 := x5.lb.box.c10; have a5_11 := x5.la.box.c11; have b5_11 := x5.lb.box.c11; have a5_12 := x5.la.box.c12; have b5_12 := x5.lb.box.c12; have a5_13 := x5.la.box.c13; have b5_13 := x5.lb.box.c13; have a5_14 := x5.la.box.c14; have b5_14 := x5.lb.box.c14; have a5_15 := x5.la.box.c15; have b5_15 := x5.lb.box.c15; have a5_16 := x5.la.box.c16; have b5_16 := x5.lb.box.c16; have a5_17 := x5.la.box.c17; have b5_17 := x5.lb.box.c17; have a5_18 := x5.la.box.c18; have b5_18 := x5.lb.box.c18; have a5_19 := x5.la.box.c19; have b5_19 := x5.lb.box.c19)
            refine hK.out _ _ ?_ (fun hHeld => ?_)
            · try dsimp only
              go_keep
            clear hK K
            try simp only [Act.put, List.setIfInBounds_toArray, List.set_cons_zero, List.set_cons_succ]
            refine tk11 (.bool true) (by kernel_rfl) (by kernel_rfl) (by kernel_rfl) (fun _ _ _ h => h) rfl (fun w hSw => by (try dsimp only at hSw); go_simp) (by assumption) ?_
            try simp only [Act.put, List.setIfInBounds_toArray, List.set_cons_zero, List.set_cons_succ]
            refine tk12 (.bool true) (by kernel_rfl) (by kernel_rfl) (by kernel_rfl) (fun _ _ _ h => h) rfl (fun w hSw => by (try dsimp only at hSw); go_simp) (by assumption) ?_
            try simp only [Act.put, List.setIfInBounds_toArray, List.set_cons_zero, List.set_cons_succ]
            refine tk13 (.pointer (some ⟨w.heap.size, 9, none⟩)) (by kernel_rfl) (by kernel_rfl) (by kernel_rfl) (fun _ _ _ h => h) rfl (fun w hSw => by (try dsimp only at hSw); go_simp) (by assumption) ?_
            try simp only [Act.put, List.setIfInBounds_toArray, List.set_cons_zero, List.set_cons_succ]
            refine tk14 (.agg #[.int .i64 a.c.kind, .int .i64 a.c.session, .int .i64 a.c.seq, .string a.c.name, .int .i64 a.c.n]) (by kernel_rfl) (by kernel_rfl) (by kernel_rfl) (fun _ _ _ h => h) rfl (fun w hSw => by (try dsimp only at hSw); go_simp) (by assumption) ?_
            try simp only [Act.put, List.setIfInBounds_toArray, List.set_cons_zero, List.set_cons_succ]
            refine tk15 (.pointer (some ⟨w.heap.size + 1, 9, none⟩)) (by kernel_rfl) (by kernel_rfl) (by kernel_rfl) (fun _ _ _ h => h) rfl (fun w hSw => by (try dsimp only at hSw); go_simp) (by assumption) ?_
            try simp only [Act.put, List.setIfInBounds_toArray, List.set_cons_zero, List.set_cons_succ]
            refine tk16 (.agg #[.int .i64 b.c.kind, .int .i64 b.c.session, .int .i64 b.c.seq, .string b.c.name, .int .i64 b.c.n]) (by kernel_rfl) (by kernel_rfl) (by kernel_rfl) (fun _ _ _ h => h) rfl (fun w hSw => by (try dsimp only at hSw); go_simp) (by assumption) ?_
            try simp only [Act.put, List.setIfInBounds_toArray, List.set_cons_zero, List.set_cons_succ]
            refine tk17 (.bool true) (by kernel_rfl) (by kernel_rfl) (by kernel_rfl) (fun _ _ _ h => h) rfl (fun w hSw => by (try dsimp only at hSw); go_simp) (by assumption) ?_
            try simp only [Act.put, List.setIfInBounds_toArray, List.set_cons_zero, List.set_cons_succ]
            refine tk18 (.bool true) (by kernel_rfl) (by kernel_rfl) (by kernel_rfl) (fun _ _ _ h => h) rfl (fun w hSw => by (try dsimp only at hSw); go_simp) (by assumption) ?_
            try simp only [Act.put, List.setIfInBounds_toArray, List.set_cons_zero, List.set_cons_succ]
            refine tk19 (.bool true) (by kernel_rfl) (by kernel_rfl) (by kernel_rfl) (fun _ _ _ h => h) rfl (fun w hSw => by (try dsimp only at hSw); go_simp) (by assumption) ?_
            try simp only [Act.put, List.setIfInBounds_toArray, List.set_cons_zero, List.set_cons_succ]
            refine tk20 (.pointer (some ⟨w.heap.size, 14, none⟩)) (by kernel_rfl) (by kernel_rfl) (by kernel_rfl) (fun _ _ _ h => h) rfl (fun w hSw => by (try dsimp only at hSw); go_simp) (by assumption) ?_
            try simp only [Act.put, List.setIfInBounds_toArray, List.set_cons_zero, List.set_cons_succ]
            refine tk21 (.agg #[.int .i64 a.rs, .int .i64 a.rq, .int .i64 a.re, .int .u64 a.tk, .int .i64 a.rn]) (by kernel_rfl) (by kernel_rfl) (by kernel_rfl) (fun _ _ _ h => h) rfl (fun w hSw => by (try dsimp only at hSw); go_simp) (by assumption) ?_
            try simp only [Act.put, List.setIfInBounds_toArray, List.set_cons_zero, List.set_cons_succ]
            refine tk22 (.pointer (some ⟨w.heap.size + 1, 14, none⟩)) (by kernel_rfl) (by kernel_rfl) (by kernel_rfl) (fun _ _ _ h => h) rfl (fun w hSw => by (try dsimp only at hSw); go_simp) (by assumption) ?_
            try simp only [Act.put, List.setIfInBounds_toArray, List.set_cons_zero, List.set_cons_succ]
            refine tk23 (.agg #[.int .i64 b.rs, .int .i64 b.rq, .int .i64 b.re, .int .u64 b.tk, .int .i64 b.rn]) (by kernel_rfl) (by kernel_rfl) (by kernel_rfl) (fun _ _ _ h => h) rfl (fun w hSw => by (try dsimp only at hSw); go_simp) (by assumption) ?_
            try simp only [Act.put, List.setIfInBounds_toArray, List.set_cons_zero, List.set_cons_succ]
            refine tk24 (.bool true) (by kernel_rfl) (by kernel_rfl) (by kernel_rfl) (fun _ _ _ h => h) rfl (fun w hSw => by (try dsimp only at hSw); go_simp) (by assumption) ?_
            try simp only [Act.put, List.setIfInBounds_toArray, List.set_cons_zero, List.set_cons_succ]
            refine tk25 (.bool true) (by kernel_rfl) (by kernel_rfl) (by kernel_rfl) (fun _ _ _ h => h) rfl (fun w hSw => by (try dsimp only at hSw); go_simp) (by assumption) ?_
            try simp only [Act.put, List.setIfInBounds_toArray, List.set_cons_zero, List.set_cons_succ]
            refine tk26 (.bool true) (by kernel_rfl) (by kernel_rfl) (by kernel_rfl) (fun _ _ _ h => h) rfl (fun w hSw => by (try dsimp only at hSw); go_simp) (by assumption) ?_
            try simp only [Act.put, List.setIfInBounds_toArray, List.set_cons_zero, List.set_cons_succ]
            refine tk27 (.pointer (some ⟨w.heap.size, 19, none⟩)) (by kernel_rfl) (by kernel_rfl) (by kernel_rfl) (fun _ _ _ h => h) rfl (fun w hSw => by (try dsimp only at hSw); go_simp) (by assumption) ?_
            try simp only [Act.put, List.setIfInBounds_toArray, List.set_cons_zero, List.set_cons_succ]
            refine tk28 (.string a.x) (by kernel_rfl) (by kernel_rfl) (by kernel_rfl) (fun _ _ _ h => h) rfl (fun w hSw => by (try dsimp only at hSw); go_simp) (by assumption) ?_
            try simp only [Act.put, List.setIfInBounds_toArray, List.set_cons_zero, List.set_cons_succ]
            refine tk29 (.pointer (some ⟨w.heap.size + 1, 19, none⟩)) (by kernel_rfl) (by kernel_rfl) (by kernel_rfl) (fun _ _ _ h => h) rfl (fun w hSw => by (try dsimp only at hSw); go_simp) (by assumption) ?_
            try simp only [Act.put, List.setIfInBounds_toArray, List.set_cons_zero, List.set_cons_succ]
            refine tk30 (.string b.x) (by kernel_rfl) (by kernel_rfl) (by kernel_rfl) (fun _ _ _ h => h) rfl (fun w hSw => by (try dsimp only at hSw); go_simp) (by assumption) ?_
            try simp only [Act.put, List.setIfInBounds_toArray, List.set_cons_zero, List.set_cons_succ]
            refine tk31 (.bool false) (by kernel_rfl) (by kernel_rfl) (by kernel_rfl) (fun _ _ _ h => h) rfl (fun w hSw => by (try dsimp only at hSw); go_simp) (by assumption) ?_
            try simp only [Act.put, List.setIfInBounds_toArray, List.set_cons_zero, List.set_cons_succ]
            refine tk32 (.bool false) (by kernel_rfl) (by kernel_rfl) (by kernel_rfl) (fun _ _ _ h => h) rfl (fun w hSw => by (try dsimp only at hSw); go_simp) (by assumption) ?_
            try simp only [Act.put, List.setIfInBounds_toArray, List.set_cons_zero, List.set_cons_succ]
            refine tk33 (.bool false) (by kernel_rfl) (by kernel_rfl) (by kernel_rfl) (fun _ _ _ h => h) rfl (fun w hSw => by (try dsimp only at hSw); go_simp) (by assumption) ?_
            try simp only [Act.put, List.setIfInBounds_toArray, List.set_cons_zero, List.set_cons_succ]
            refine wpAnyH_done (by kernel_rfl) ?_ _
            go_wp2
            go_ret
            have f3 := bmm b0 b0.size b3
            have f4 := bmm f3 f3.size b4
            exact ⟨rfl, bmm f4 f4.size b5⟩
          | true =>
            have HT : Hid (r = true) := GR.out.2 ((ms_eq a b).2 ⟨hH, HE.out, hc, hq, (toList_beq _ _).1 hx⟩)
            rw [HT.out]
            go_enter Try.func13, Try.ntmps13
            go_wp2
            refine wp_region_held_drew (S := (fun w' => msgHere w' (.pointer (some ⟨w.heap.size, 0, none⟩)) = some (.agg #[.int .i64 a.k, .int .i64 a.f, .int .i64 a.t, .int .i64 a.b, .int .i64 a.sl, .int .i64 a.ro, .int .i64 a.se, .int .i64 a.er, va, .int .i64 a.c.kind, .int .i64 a.c.session, .int .i64 a.c.seq, .string a.c.name, .int .i64 a.c.n, .int .i64 a.rs, .int .i64 a.rq, .int .i64 a.re, .int .u64 a.tk, .int .i64 a.rn, .string a.x]) ∧ msgHere w' (.pointer (some ⟨w.heap.size + 1, 0, none⟩)) = some (.agg #[.int .i64 b.k, .int .i64 b.f, .int .i64 b.t, .int .i64 b.b, .int .i64 b.sl, .int .i64 b.ro, .int .i64 b.se, .int .i64 b.er, vb, .int .i64 b.c.kind, .int .i64 b.c.session, .int .i64 b.c.seq, .string b.c.name, .int .i64 b.c.n, .int .i64 b.rs, .int .i64 b.rq, .int .i64 b.re, .int .u64 b.tk, .int .i64 b.rn, .string b.x]) ∧ w'.cell? ⟨w.heap.size, 8, none⟩ = some (va) ∧ w'.cell? ⟨w.heap.size + 1, 8, none⟩ = some (vb) ∧ w'.cell? ⟨w.heap.size, 9, none⟩ = some (.int .i64 a.c.kind) ∧ w'.cell? ⟨w.heap.size + 1, 9, none⟩ = some (.int .i64 b.c.kind) ∧ w'.cell? ⟨w.heap.size, 10, none⟩ = some (.int .i64 a.c.session) ∧ w'.cell? ⟨w.heap.size + 1, 10, none⟩ = some (.int .i64 b.c.session) ∧ w'.cell? ⟨w.heap.size, 11, none⟩ = some (.int .i64 a.c.seq) ∧ w'.cell? ⟨w.heap.size + 1, 11, none⟩ = some (.int .i64 b.c.seq) ∧ w'.cell? ⟨w.heap.size, 12, none⟩ = some (.string a.c.name) ∧ w'.cell? ⟨w.heap.size + 1, 12, none⟩ = some (.string b.c.name) ∧ w'.cell? ⟨w.heap.size, 13, none⟩ = some (.int .i64 a.c.n) ∧ w'.cell? ⟨w.heap.size + 1, 13, none⟩ = some (.int .i64 b.c.n) ∧ w'.cell? ⟨w.heap.size, 14, none⟩ = some (.int .i64 a.rs) ∧ w'.cell? ⟨w.heap.size + 1, 14, none⟩ = some (.int .i64 b.rs) ∧ w'.cell? ⟨w.heap.size, 15, none⟩ = some (.int .i64 a.rq) ∧ w'.cell? ⟨w.heap.size + 1, 15, none⟩ = some (.int .i64 b.rq) ∧ w'.cell? ⟨w.heap.size, 16, none⟩ = some (.int .i64 a.re) ∧ w'.cell? ⟨w.heap.size + 1, 16, none⟩ = some (.int .i64 b.re) ∧ w'.cell? ⟨w.heap.size, 17, none⟩ = some (.int .u64 a.tk) ∧ w'.cell? ⟨w.heap.size + 1, 17, none⟩ = some (.int .u64 b.tk) ∧ w'.cell? ⟨w.heap.size, 18, none⟩ = some (.int .i64 a.rn) ∧ w'.cell? ⟨w.heap.size + 1, 18, none⟩ = some (.int .i64 b.rn) ∧ w'.cell? ⟨w.heap.size, 19, none⟩ = some (.string a.x) ∧ w'.cell? ⟨w.heap.size + 1, 19, none⟩ = some (.string b.x))) (by kernel_rfl) ?_ (fun hHeld => ?_)
            · try dsimp only
              go_keep
            refine tk0 (.agg #[.int .i64 a.k, .int .i64 a.f, .int .i64 a.t, .int .i64 a.b, .int .i64 a.sl, .int .i64 a.ro, .int .i64 a.se, .int .i64 a.er, va, .int .i64 a.c.kind, .int .i64 a.c.session, .int .i64 a.c.seq, .string a.c.name, .int .i64 a.c.n, .int .i64 a.rs, .int .i64 a.rq, .int .i64 a.re, .int .u64 a.tk, .int .i64 a.rn, .string a.x]) (by kernel_rfl) (by kernel_rfl) (by kernel_rfl) (fun _ _ _ h => h) rfl (fun w hSw => load_yields rfl rfl hSw.1) (by assumption) ?_
            try simp only [Act.put, List.setIfInBounds_toArray, List.set_cons_zero, List.set_cons_succ]
            refine tk2 (.agg #[.int .i64 b.k, .int .i64 b.f, .int .i64 b.t, .int .i64 b.b, .int .i64 b.sl, .int .i64 b.ro, .int .i64 b.se, .int .i64 b.er, vb, .int .i64 b.c.kind, .int .i64 b.c.session, .int .i64 b.c.seq, .string b.c.name, .int .i64 b.c.n, .int .i64 b.rs, .int .i64 b.rq, .int .i64 b.re, .int .u64 b.tk, .int .i64 b.rn, .string b.x]) (by kernel_rfl) (by kernel_rfl) (by kernel_rfl) (fun _ _ _ h => h) rfl (fun w hSw => load_yields rfl rfl hSw.2.1) (by assumption) ?_
            try simp only [Act.put, List.setIfInBounds_toArray, List.set_cons_zero, List.set_cons_succ]
            refine cl1 (by kernel_rfl) rfl (fun K hK => ?_)
            go_simp
            (go_at_call 17; refine (head_raw _ _ _ _ _ _ _ _ _ _ _ _ _ _ _ _ _ _ _ _ _).mono ?_; rintro e w3 ⟨rfl, b3'⟩; have b3 := undrew b3'; have x3 := x0.below b3; have ma3 := x3.la.here; have mb3 := x3.lb.here; have la3 := x3.la.lt; have lb3 := x3.lb.lt; have a3_8 := x3.la.box.c8; have b3_8 := x3.lb.box.c8; have a3_9 := x3.la.box.c9; have b3_9 := x3.lb.box.c9; have a3_10 := x3.la.box.c10; have b3_10 := x3.lb.box.c10; have a3_11 := x3.la.box.c11; have b3_11 := x3.lb.box.c11; have a3_12 := x3.la.box.c12; have b3_12 := x3.lb.box.c12; have a3_13 := x3.la.box.c13; have b3_13 := x3.lb.box.c13; have a3_14 := x3.la.box.c14; have b3_14 := x3.lb.box.c14; have a3_15 := x3.la.box.c15; have b3_15 := x3.lb.box.c15; have a3_16 := x3.la.box.c16; have b3_16 := x3.lb.box.c16; have a3_17 := x3.la.box.c17; have b3_17 := x3.lb.box.c17; have a3_18 := x3.la.box.c18; have b3_18 := x3.lb.box.c18; have a3_19 := x3.la.box.c19; have b3_19 := x3.lb.box.c19)
            refine hK.out _ _ ?_ (fun hHeld => ?_)
            · try dsimp only
              go_keep
            clear hK K
            try simp only [Act.put, List.setIfInBounds_toArray, List.set_cons_zero, List.set_cons_succ]
            refine cl3 (by kernel_rfl) rfl (fun K hK => ?_)
            go_simp
            (go_at_call 17; refine (head_raw _ _ _ _ _ _ _ _ _ _ _ _ _ _ _ _ _ _ _ _ _).mono ?_; rintro e w4 ⟨rfl, b4⟩; have x4 := x3.below b4; have ma4 := x4.la.here; have mb4 := x4.lb.here; have la4 := x4.la.lt; have lb4 := x4.lb.lt; have a4_8 := x4.la.box.c8; have b4_8 := x4.lb.box.c8; have a4_9 := x4.la.box.c9; have b4_9 := x4.lb.box.c9; have a4_10 := x4.la.box.c10; have b4_10 := x4.lb.box.c10; have a4_11 := x4.la.box.c11; have b4_11 := x4.lb.box.c11; have a4_12 := x4.la.box.c12; have b4_12 := x4.lb.box.c12; have a4_13 := x4.la.box.c13; have b4_13 := x4.lb.box.c13; have a4_14 := x4.la.box.c14; have b4_14 := x4.lb.box.c14; have a4_15 := x4.la.box.c15; have b4_15 := x4.lb.box.c15; have a4_16 := x4.la.box.c16; have b4_16 := x4.lb.box.c16; have a4_17 := x4.la.box.c17; have b4_17 := x4.lb.box.c17; have a4_18 := x4.la.box.c18; have b4_18 := x4.lb.box.c18; have a4_19 := x4.la.box.c19; have b4_19 := x4.lb.box.c19)
            refine hK.out _ _ ?_ (fun hHeld => ?_)
            · try dsimp only
              go_keep
            clear hK K
            try simp only [Act.put, List.setIfInBounds_toArray, List.set_cons_zero, List.set_cons_succ]
            refine tk4 (.bool true) (by kernel_rfl) (by kernel_rfl) (by kernel_rfl) (fun _ _ _ h => h) rfl (fun w hSw => by (try dsimp only at hSw); go_simp) (by assumption) ?_
            try simp only [Act.put, List.setIfInBounds_toArray, List.set_cons_zero, List.set_cons_succ]
            refine tk5 (.bool true) (by kernel_rfl) (by kernel_rfl) (by kernel_rfl) (fun _ _ _ h => h) rfl (fun w hSw => by (try dsimp only at hSw); go_simp) (by assumption) ?_
            try simp only [Act.put, List.setIfInBounds_toArray, List.set_cons_zero, List.set_cons_succ]
            refine tk6 (.pointer (some ⟨w.heap.size, 8, none⟩)) (by kernel_rfl) (by kernel_rfl) (by kernel_rfl) (fun _ _ _ h => h) rfl (fun w hSw => by (try dsimp only at hSw); go_simp) (by assumption) ?_
            try simp only [Act.put, List.setIfInBounds_toArray, List.set_cons_zero, List.set_cons_succ]
            refine tk7 (va) (by kernel_rfl) (by kernel_rfl) (by kernel_rfl) (fun _ _ _ h => h) rfl (fun w hSw => by (try dsimp only at hSw); go_simp) (by assumption) ?_
            try simp only [Act.put, List.setIfInBounds_toArray, List.set_cons_zero, List.set_cons_succ]
            refine tk8 (.pointer (some ⟨w.heap.size + 1, 8, none⟩)) (by kernel_rfl) (by kernel_rfl) (by kernel_rfl) (fun _ _ _ h => h) rfl (fun w hSw => by (try dsimp only at hSw); go_simp) (by assumption) ?_
            try simp only [Act.put, List.setIfInBounds_toArray, List.set_cons_zero, List.set_cons_succ]
            refine tk9 (vb) (by kernel_rfl) (by kernel_rfl) (by kernel_rfl) (fun _ _ _ h => h) rfl (fun w hSw => by (try dsimp only at hSw); go_simp) (by assumption) ?_
            try simp only [Act.put, List.setIfInBounds_toArray, List.set_cons_zero, List.set_cons_succ]
            refine cl10 (by kernel_rfl) rfl (fun K hK => ?_)
            go_simp
            (go_at_call 44; refine (equal_any a.es b.es va vb _ (by exact x4.ea) (by exact x4.eb) hn true (by simp [HE.out])).mono ?_; rintro e w5 ⟨rfl, b5⟩; have x5 := x4.below b5; have ma5 := x5.la.here; have mb5 := x5.lb.here; have la5 := x5.la.lt; have lb5 := x5.lb.lt; have a5_8 := x5.la.box.c8; have b5_8 := x5.lb.box.c8; have a5_9 := x5.la.box.c9; have b5_9 := x5.lb.box.c9; have a5_10 := x5.la.box.c10; have b5_10 := x5.lb.box.c10; have a5_11 := x5.la.box.c11; have b5_11 := x5.lb.box.c11; have a5_12 := x5.la.box.c12; have b5_12 := x5.lb.box.c12; have a5_13 := x5.la.box.c13; have b5_13 := x5.lb.box.c13; have a5_14 := x5.la.box.c14; have b5_14 := x5.lb.box.c14; have a5_15 := x5.la.box.c15; have b5_15 := x5.lb.box.c15; have a5_16 := x5.la.box.c16; have b5_16 := x5.lb.box.c16; have a5_17 := x5.la.box.c17; have b5_17 := x5.lb.box.c17; have a5_18 := x5.la.box.c18; have b5_18 := x5.lb.box.c18; have a5_19 := x5.la.box.c19; have b5_19 := x5.lb.box.c19)
            refine hK.out _ _ ?_ (fun hHeld => ?_)
            · try dsimp only
              go_keep
            clear hK K
            try simp only [Act.put, List.setIfInBounds_toArray, List.set_cons_zero, List.set_cons_succ]
            refine tk11 (.bool true) (by kernel_rfl) (by kernel_rfl) (by kernel_rfl) (fun _ _ _ h => h) rfl (fun w hSw => by (try dsimp only at hSw); go_simp) (by assumption) ?_
            try simp only [Act.put, List.setIfInBounds_toArray, List.set_cons_zero, List.set_cons_succ]
            refine tk12 (.bool true) (by kernel_rfl) (by kernel_rfl) (by kernel_rfl) (fun _ _ _ h => h) rfl (fun w hSw => by (try dsimp only at hSw); go_simp) (by assumption) ?_
            try simp only [Act.put, List.setIfInBounds_toArray, List.set_cons_zero, List.set_cons_succ]
            refine tk13 (.pointer (some ⟨w.heap.size, 9, none⟩)) (by kernel_rfl) (by kernel_rfl) (by kernel_rfl) (fun _ _ _ h => h) rfl (fun w hSw => by (try dsimp only at hSw); go_simp) (by assumption) ?_
            try simp only [Act.put, List.setIfInBounds_toArray, List.set_cons_zero, List.set_cons_succ]
            refine tk14 (.agg #[.int .i64 a.c.kind, .int .i64 a.c.session, .int .i64 a.c.seq, .string a.c.name, .int .i64 a.c.n]) (by kernel_rfl) (by kernel_rfl) (by kernel_rfl) (fun _ _ _ h => h) rfl (fun w hSw => by (try dsimp only at hSw); go_simp) (by assumption) ?_
            try simp only [Act.put, List.setIfInBounds_toArray, List.set_cons_zero, List.set_cons_succ]
            refine tk15 (.pointer (some ⟨w.heap.size + 1, 9, none⟩)) (by kernel_rfl) (by kernel_rfl) (by kernel_rfl) (fun _ _ _ h => h) rfl (fun w hSw => by (try dsimp only at hSw); go_simp) (by assumption) ?_
            try simp only [Act.put, List.setIfInBounds_toArray, List.set_cons_zero, List.set_cons_succ]
            refine tk16 (.agg #[.int .i64 b.c.kind, .int .i64 b.c.session, .int .i64 b.c.seq, .string b.c.name, .int .i64 b.c.n]) (by kernel_rfl) (by kernel_rfl) (by kernel_rfl) (fun _ _ _ h => h) rfl (fun w hSw => by (try dsimp only at hSw); go_simp) (by assumption) ?_
            try simp only [Act.put, List.setIfInBounds_toArray, List.set_cons_zero, List.set_cons_succ]
            refine tk17 (.bool true) (by kernel_rfl) (by kernel_rfl) (by kernel_rfl) (fun _ _ _ h => h) rfl (fun w hSw => by (try dsimp only at hSw); go_simp) (by assumption) ?_
            try simp only [Act.put, List.setIfInBounds_toArray, List.set_cons_zero, List.set_cons_succ]
            refine tk18 (.bool true) (by kernel_rfl) (by kernel_rfl) (by kernel_rfl) (fun _ _ _ h => h) rfl (fun w hSw => by (try dsimp only at hSw); go_simp) (by assumption) ?_
            try simp only [Act.put, List.setIfInBounds_toArray, List.set_cons_zero, List.set_cons_succ]
            refine tk19 (.bool true) (by kernel_rfl) (by kernel_rfl) (by kernel_rfl) (fun _ _ _ h => h) rfl (fun w hSw => by (try dsimp only at hSw); go_simp) (by assumption) ?_
            try simp only [Act.put, List.setIfInBounds_toArray, List.set_cons_zero, List.set_cons_succ]
            refine tk20 (.pointer (some ⟨w.heap.size, 14, none⟩)) (by kernel_rfl) (by kernel_rfl) (by kernel_rfl) (fun _ _ _ h => h) rfl (fun w hSw => by (try dsimp only at hSw); go_simp) (by assumption) ?_
            try simp only [Act.put, List.setIfInBounds_toArray, List.set_cons_zero, List.set_cons_succ]
            refine tk21 (.agg #[.int .i64 a.rs, .int .i64 a.rq, .int .i64 a.re, .int .u64 a.tk, .int .i64 a.rn]) (by kernel_rfl) (by kernel_rfl) (by kernel_rfl) (fun _ _ _ h => h) rfl (fun w hSw => by (try dsimp only at hSw); go_simp) (by assumption) ?_
            try simp only [Act.put, List.setIfInBounds_toArray, List.set_cons_zero, List.set_cons_succ]
            refine tk22 (.pointer (some ⟨w.heap.size + 1, 14, none⟩)) (by kernel_rfl) (by kernel_rfl) (by kernel_rfl) (fun _ _ _ h => h) rfl (fun w hSw => by (try dsimp only at hSw); go_simp) (by assumption) ?_
            try simp only [Act.put, List.setIfInBounds_toArray, List.set_cons_zero, List.set_cons_succ]
            refine tk23 (.agg #[.int .i64 b.rs, .int .i64 b.rq, .int .i64 b.re, .int .u64 b.tk, .int .i64 b.rn]) (by kernel_rfl) (by kernel_rfl) (by kernel_rfl) (fun _ _ _ h => h) rfl (fun w hSw => by (try dsimp only at hSw); go_simp) (by assumption) ?_
            try simp only [Act.put, List.setIfInBounds_toArray, List.set_cons_zero, List.set_cons_succ]
            refine tk24 (.bool true) (by kernel_rfl) (by kernel_rfl) (by kernel_rfl) (fun _ _ _ h => h) rfl (fun w hSw => by (try dsimp only at hSw); go_simp) (by assumption) ?_
            try simp only [Act.put, List.setIfInBounds_toArray, List.set_cons_zero, List.set_cons_succ]
            refine tk25 (.bool true) (by kernel_rfl) (by kernel_rfl) (by kernel_rfl) (fun _ _ _ h => h) rfl (fun w hSw => by (try dsimp only at hSw); go_simp) (by assumption) ?_
            try simp only [Act.put, List.setIfInBounds_toArray, List.set_cons_zero, List.set_cons_succ]
            refine tk26 (.bool true) (by kernel_rfl) (by kernel_rfl) (by kernel_rfl) (fun _ _ _ h => h) rfl (fun w hSw => by (try dsimp only at hSw); go_simp) (by assumption) ?_
            try simp only [Act.put, List.setIfInBounds_toArray, List.set_cons_zero, List.set_cons_succ]
            refine tk27 (.pointer (some ⟨w.heap.size, 19, none⟩)) (by kernel_rfl) (by kernel_rfl) (by kernel_rfl) (fun _ _ _ h => h) rfl (fun w hSw => by (try dsimp only at hSw); go_simp) (by assumption) ?_
            try simp only [Act.put, List.setIfInBounds_toArray, List.set_cons_zero, List.set_cons_succ]
            refine tk28 (.string a.x) (by kernel_rfl) (by kernel_rfl) (by kernel_rfl) (fun _ _ _ h => h) rfl (fun w hSw => by (try dsimp only at hSw); go_simp) (by assumption) ?_
            try simp only [Act.put, List.setIfInBounds_toArray, List.set_cons_zero, List.set_cons_succ]
            refine tk29 (.pointer (some ⟨w.heap.size + 1, 19, none⟩)) (by kernel_rfl) (by kernel_rfl) (by kernel_rfl) (fun _ _ _ h => h) rfl (fun w hSw => by (try dsimp only at hSw); go_simp) (by assumption) ?_
            try simp only [Act.put, List.setIfInBounds_toArray, List.set_cons_zero, List.set_cons_succ]
            refine tk30 (.string b.x) (by kernel_rfl) (by kernel_rfl) (by kernel_rfl) (fun _ _ _ h => h) rfl (fun w hSw => by (try dsimp only at hSw); go_simp) (by assumption) ?_
            try simp only [Act.put, List.setIfInBounds_toArray, List.set_cons_zero, List.set_cons_succ]
            refine tk31 (.bool true) (by kernel_rfl) (by kernel_rfl) (by kernel_rfl) (fun _ _ _ h => h) rfl (fun w hSw => by (try dsimp only at hSw); go_simp) (by assumption) ?_
            try simp only [Act.put, List.setIfInBounds_toArray, List.set_cons_zero, List.set_cons_succ]
            refine tk32 (.bool true) (by kernel_rfl) (by kernel_rfl) (by kernel_rfl) (fun _ _ _ h => h) rfl (fun w hSw => by (try dsimp only at hSw); go_simp) (by assumption) ?_
            try simp only [Act.put, List.setIfInBounds_toArray, List.set_cons_zero, List.set_cons_succ]
            refine tk33 (.bool true) (by kernel_rfl) (by kernel_rfl) (by kernel_rfl) (fun _ _ _ h => h) rfl (fun w hSw => by (try dsimp only at hSw); go_simp) (by assumption) ?_
            try simp only [Act.put, List.setIfInBounds_toArray, List.set_cons_zero, List.set_cons_succ]
            refine wpAnyH_done (by kernel_rfl) ?_ _
            go_wp2
            go_ret
            have f3 := bmm b0 b0.size b3
            have f4 := bmm f3 f3.size b4
            exact ⟨rfl, bmm f4 f4.size b5⟩
    · have HE : Hid (¬ a.es = b.es) := hes
      clear hes
      have HF : Hid (r = false) := ms_ne GR.out (fun h => HE.out (by rw [h]))
      rw [HF.out]
      go_enter Try.func13, Try.ntmps13
      go_wp2
      refine wp_region_held_drew (S := (fun w' => msgHere w' (.pointer (some ⟨w.heap.size, 0, none⟩)) = some (.agg #[.int .i64 a.k, .int .i64 a.f, .int .i64 a.t, .int .i64 a.b, .int .i64 a.sl, .int .i64 a.ro, .int .i64 a.se, .int .i64 a.er, va, .int .i64 a.c.kind, .int .i64 a.c.session, .int .i64 a.c.seq, .string a.c.name, .int .i64 a.c.n, .int .i64 a.rs, .int .i64 a.rq, .int .i64 a.re, .int .u64 a.tk, .int .i64 a.rn, .string a.x]) ∧ msgHere w' (.pointer (some ⟨w.heap.size + 1, 0, none⟩)) = some (.agg #[.int .i64 b.k, .int .i64 b.f, .int .i64 b.t, .int .i64 b.b, .int .i64 b.sl, .int .i64 b.ro, .int .i64 b.se, .int .i64 b.er, vb, .int .i64 b.c.kind, .int .i64 b.c.session, .int .i64 b.c.seq, .string b.c.name, .int .i64 b.c.n, .int .i64 b.rs, .int .i64 b.rq, .int .i64 b.re, .int .u64 b.tk, .int .i64 b.rn, .string b.x]) ∧ w'.cell? ⟨w.heap.size, 8, none⟩ = some (va) ∧ w'.cell? ⟨w.heap.size + 1, 8, none⟩ = some (vb) ∧ w'.cell? ⟨w.heap.size, 9, none⟩ = some (.int .i64 a.c.kind) ∧ w'.cell? ⟨w.heap.size + 1, 9, none⟩ = some (.int .i64 b.c.kind) ∧ w'.cell? ⟨w.heap.size, 10, none⟩ = some (.int .i64 a.c.session) ∧ w'.cell? ⟨w.heap.size + 1, 10, none⟩ = some (.int .i64 b.c.session) ∧ w'.cell? ⟨w.heap.size, 11, none⟩ = some (.int .i64 a.c.seq) ∧ w'.cell? ⟨w.heap.size + 1, 11, none⟩ = some (.int .i64 b.c.seq) ∧ w'.cell? ⟨w.heap.size, 12, none⟩ = some (.string a.c.name) ∧ w'.cell? ⟨w.heap.size + 1, 12, none⟩ = some (.string b.c.name) ∧ w'.cell? ⟨w.heap.size, 13, none⟩ = some (.int .i64 a.c.n) ∧ w'.cell? ⟨w.heap.size + 1, 13, none⟩ = some (.int .i64 b.c.n) ∧ w'.cell? ⟨w.heap.size, 14, none⟩ = some (.int .i64 a.rs) ∧ w'.cell? ⟨w.heap.size + 1, 14, none⟩ = some (.int .i64 b.rs) ∧ w'.cell? ⟨w.heap.size, 15, none⟩ = some (.int .i64 a.rq) ∧ w'.cell? ⟨w.heap.size + 1, 15, none⟩ = some (.int .i64 b.rq) ∧ w'.cell? ⟨w.heap.size, 16, none⟩ = some (.int .i64 a.re) ∧ w'.cell? ⟨w.heap.size + 1, 16, none⟩ = some (.int .i64 b.re) ∧ w'.cell? ⟨w.heap.size, 17, none⟩ = some (.int .u64 a.tk) ∧ w'.cell? ⟨w.heap.size + 1, 17, none⟩ = some (.int .u64 b.tk) ∧ w'.cell? ⟨w.heap.size, 18, none⟩ = some (.int .i64 a.rn) ∧ w'.cell? ⟨w.heap.size + 1, 18, none⟩ = some (.int .i64 b.rn) ∧ w'.cell? ⟨w.heap.size, 19, none⟩ = some (.string a.x) ∧ w'.cell? ⟨w.heap.size + 1, 19, none⟩ = some (.string b.x))) (by kernel_rfl) ?_ (fun hHeld => ?_)
      · try dsimp only
        go_keep
      refine tk0 (.agg #[.int .i64 a.k, .int .i64 a.f, .int .i64 a.t, .int .i64 a.b, .int .i64 a.sl, .int .i64 a.ro, .int .i64 a.se, .int .i64 a.er, va, .int .i64 a.c.kind, .int .i64 a.c.session, .int .i64 a.c.seq, .string a.c.name, .int .i64 a.c.n, .int .i64 a.rs, .int .i64 a.rq, .int .i64 a.re, .int .u64 a.tk, .int .i64 a.rn, .string a.x]) (by kernel_rfl) (by kernel_rfl) (by kernel_rfl) (fun _ _ _ h => h) rfl (fun w hSw => load_yields rfl rfl hSw.1) (by assumption) ?_
      try simp only [Act.put, List.setIfInBounds_toArray, List.set_cons_zero, List.set_cons_succ]
      refine tk2 (.agg #[.int .i64 b.k, .int .i64 b.f, .int .i64 b.t, .int .i64 b.b, .int .i64 b.sl, .int .i64 b.ro, .int .i64 b.se, .int .i64 b.er, vb, .int .i64 b.c.kind, .int .i64 b.c.session, .int .i64 b.c.seq, .string b.c.name, .int .i64 b.c.n, .int .i64 b.rs, .int .i64 b.rq, .int .i64 b.re, .int .u64 b.tk, .int .i64 b.rn, .string b.x]) (by kernel_rfl) (by kernel_rfl) (by kernel_rfl) (fun _ _ _ h => h) rfl (fun w hSw => load_yields rfl rfl hSw.2.1) (by assumption) ?_
      try simp only [Act.put, List.setIfInBounds_toArray, List.set_cons_zero, List.set_cons_succ]
      refine cl1 (by kernel_rfl) rfl (fun K hK => ?_)
      go_simp
      (go_at_call 17; refine (head_raw _ _ _ _ _ _ _ _ _ _ _ _ _ _ _ _ _ _ _ _ _).mono ?_; rintro e w3 ⟨rfl, b3'⟩; have b3 := undrew b3'; have x3 := x0.below b3; have ma3 := x3.la.here; have mb3 := x3.lb.here; have la3 := x3.la.lt; have lb3 := x3.lb.lt; have a3_8 := x3.la.box.c8; have b3_8 := x3.lb.box.c8; have a3_9 := x3.la.box.c9; have b3_9 := x3.lb.box.c9; have a3_10 := x3.la.box.c10; have b3_10 := x3.lb.box.c10; have a3_11 := x3.la.box.c11; have b3_11 := x3.lb.box.c11; have a3_12 := x3.la.box.c12; have b3_12 := x3.lb.box.c12; have a3_13 := x3.la.box.c13; have b3_13 := x3.lb.box.c13; have a3_14 := x3.la.box.c14; have b3_14 := x3.lb.box.c14; have a3_15 := x3.la.box.c15; have b3_15 := x3.lb.box.c15; have a3_16 := x3.la.box.c16; have b3_16 := x3.lb.box.c16; have a3_17 := x3.la.box.c17; have b3_17 := x3.lb.box.c17; have a3_18 := x3.la.box.c18; have b3_18 := x3.lb.box.c18; have a3_19 := x3.la.box.c19; have b3_19 := x3.lb.box.c19)
      refine hK.out _ _ ?_ (fun hHeld => ?_)
      · try dsimp only
        go_keep
      clear hK K
      try simp only [Act.put, List.setIfInBounds_toArray, List.set_cons_zero, List.set_cons_succ]
      refine cl3 (by kernel_rfl) rfl (fun K hK => ?_)
      go_simp
      (go_at_call 17; refine (head_raw _ _ _ _ _ _ _ _ _ _ _ _ _ _ _ _ _ _ _ _ _).mono ?_; rintro e w4 ⟨rfl, b4⟩; have x4 := x3.below b4; have ma4 := x4.la.here; have mb4 := x4.lb.here; have la4 := x4.la.lt; have lb4 := x4.lb.lt; have a4_8 := x4.la.box.c8; have b4_8 := x4.lb.box.c8; have a4_9 := x4.la.box.c9; have b4_9 := x4.lb.box.c9; have a4_10 := x4.la.box.c10; have b4_10 := x4.lb.box.c10; have a4_11 := x4.la.box.c11; have b4_11 := x4.lb.box.c11; have a4_12 := x4.la.box.c12; have b4_12 := x4.lb.box.c12; have a4_13 := x4.la.box.c13; have b4_13 := x4.lb.box.c13; have a4_14 := x4.la.box.c14; have b4_14 := x4.lb.box.c14; have a4_15 := x4.la.box.c15; have b4_15 := x4.lb.box.c15; have a4_16 := x4.la.box.c16; have b4_16 := x4.lb.box.c16; have a4_17 := x4.la.box.c17; have b4_17 := x4.lb.box.c17; have a4_18 := x4.la.box.c18; have b4_18 := x4.lb.box.c18; have a4_19 := x4.la.box.c19; have b4_19 := x4.lb.box.c19)
      refine hK.out _ _ ?_ (fun hHeld => ?_)
      · try dsimp only
        go_keep
      clear hK K
      try simp only [Act.put, List.setIfInBounds_toArray, List.set_cons_zero, List.set_cons_succ]
      refine tk4 (.bool true) (by kernel_rfl) (by kernel_rfl) (by kernel_rfl) (fun _ _ _ h => h) rfl (fun w hSw => by (try dsimp only at hSw); go_simp) (by assumption) ?_
      try simp only [Act.put, List.setIfInBounds_toArray, List.set_cons_zero, List.set_cons_succ]
      refine tk5 (.bool true) (by kernel_rfl) (by kernel_rfl) (by kernel_rfl) (fun _ _ _ h => h) rfl (fun w hSw => by (try dsimp only at hSw); go_simp) (by assumption) ?_
      try simp only [Act.put, List.setIfInBounds_toArray, List.set_cons_zero, List.set_cons_succ]
      refine tk6 (.pointer (some ⟨w.heap.size, 8, none⟩)) (by kernel_rfl) (by kernel_rfl) (by kernel_rfl) (fun _ _ _ h => h) rfl (fun w hSw => by (try dsimp only at hSw); go_simp) (by assumption) ?_
      try simp only [Act.put, List.setIfInBounds_toArray, List.set_cons_zero, List.set_cons_succ]
      refine tk7 (va) (by kernel_rfl) (by kernel_rfl) (by kernel_rfl) (fun _ _ _ h => h) rfl (fun w hSw => by (try dsimp only at hSw); go_simp) (by assumption) ?_
      try simp only [Act.put, List.setIfInBounds_toArray, List.set_cons_zero, List.set_cons_succ]
      refine tk8 (.pointer (some ⟨w.heap.size + 1, 8, none⟩)) (by kernel_rfl) (by kernel_rfl) (by kernel_rfl) (fun _ _ _ h => h) rfl (fun w hSw => by (try dsimp only at hSw); go_simp) (by assumption) ?_
      try simp only [Act.put, List.setIfInBounds_toArray, List.set_cons_zero, List.set_cons_succ]
      refine tk9 (vb) (by kernel_rfl) (by kernel_rfl) (by kernel_rfl) (fun _ _ _ h => h) rfl (fun w hSw => by (try dsimp only at hSw); go_simp) (by assumption) ?_
      try simp only [Act.put, List.setIfInBounds_toArray, List.set_cons_zero, List.set_cons_succ]
      refine cl10 (by kernel_rfl) rfl (fun K hK => ?_)
      go_simp
      (go_at_call 44; refine (equal_any a.es b.es va vb _ (by exact x4.ea) (by exact x4.eb) hn false (by simp [HE.out])).mono ?_; rintro e w5 ⟨rfl, b5⟩; have x5 := x4.below b5; have ma5 := x5.la.here; have mb5 := x5.lb.here; have la5 := x5.la.lt; have lb5 := x5.lb.lt; have a5_8 := x5.la.box.c8; have b5_8 := x5.lb.box.c8; have a5_9 := x5.la.box.c9; have b5_9 := x5.lb.box.c9; have a5_10 := x5.la.box.c10; have b5_10 := x5.lb.box.c10; have a5_11 := x5.la.box.c11; have b5_11 := x5.lb.box.c11; have a5_12 := x5.la.box.c12; have b5_12 := x5.lb.box.c12; have a5_13 := x5.la.box.c13; have b5_13 := x5.lb.box.c13; have a5_14 := x5.la.box.c14; have b5_14 := x5.lb.box.c14; have a5_15 := x5.la.box.c15; have b5_15 := x5.lb.box.c15; have a5_16 := x5.la.box.c16; have b5_16 := x5.lb.box.c16; have a5_17 := x5.la.box.c17; have b5_17 := x5.lb.box.c17; have a5_18 := x5.la.box.c18; have b5_18 := x5.lb.box.c18; have a5_19 := x5.la.box.c19; have b5_19 := x5.lb.box.c19)
      refine hK.out _ _ ?_ (fun hHeld => ?_)
      · try dsimp only
        go_keep
      clear hK K
      try simp only [Act.put, List.setIfInBounds_toArray, List.set_cons_zero, List.set_cons_succ]
      refine tk11 (.bool false) (by kernel_rfl) (by kernel_rfl) (by kernel_rfl) (fun _ _ _ h => h) rfl (fun w hSw => by (try dsimp only at hSw); go_simp) (by assumption) ?_
      try simp only [Act.put, List.setIfInBounds_toArray, List.set_cons_zero, List.set_cons_succ]
      refine tk12 (.bool false) (by kernel_rfl) (by kernel_rfl) (by kernel_rfl) (fun _ _ _ h => h) rfl (fun w hSw => by (try dsimp only at hSw); go_simp) (by assumption) ?_
      try simp only [Act.put, List.setIfInBounds_toArray, List.set_cons_zero, List.set_cons_succ]
      refine sk13 (by kernel_rfl) (by kernel_rfl) (by kernel_rfl) (fun _ _ _ h => h) rfl (by assumption) ?_
      try simp only [Act.put, List.setIfInBounds_toArray, List.set_cons_zero, List.set_cons_succ]
      refine sk14 (by kernel_rfl) (by kernel_rfl) (by kernel_rfl) (fun _ _ _ h => h) rfl (by assumption) ?_
      try simp only [Act.put, List.setIfInBounds_toArray, List.set_cons_zero, List.set_cons_succ]
      refine sk15 (by kernel_rfl) (by kernel_rfl) (by kernel_rfl) (fun _ _ _ h => h) rfl (by assumption) ?_
      try simp only [Act.put, List.setIfInBounds_toArray, List.set_cons_zero, List.set_cons_succ]
      refine sk16 (by kernel_rfl) (by kernel_rfl) (by kernel_rfl) (fun _ _ _ h => h) rfl (by assumption) ?_
      try simp only [Act.put, List.setIfInBounds_toArray, List.set_cons_zero, List.set_cons_succ]
      refine sk17 (by kernel_rfl) (by kernel_rfl) (by kernel_rfl) (fun _ _ _ h => h) rfl (by assumption) ?_
      try simp only [Act.put, List.setIfInBounds_toArray, List.set_cons_zero, List.set_cons_succ]
      refine tk18 (.bool false) (by kernel_rfl) (by kernel_rfl) (by kernel_rfl) (fun _ _ _ h => h) rfl (fun w hSw => by (try dsimp only at hSw); go_simp) (by assumption) ?_
      try simp only [Act.put, List.setIfInBounds_toArray, List.set_cons_zero, List.set_cons_succ]
      refine tk19 (.bool false) (by kernel_rfl) (by kernel_rfl) (by kernel_rfl) (fun _ _ _ h => h) rfl (fun w hSw => by (try dsimp only at hSw); go_simp) (by assumption) ?_
      try simp only [Act.put, List.setIfInBounds_toArray, List.set_cons_zero, List.set_cons_succ]
      refine sk20 (by kernel_rfl) (by kernel_rfl) (by kernel_rfl) (fun _ _ _ h => h) rfl (by assumption) ?_
      try simp only [Act.put, List.setIfInBounds_toArray, List.set_cons_zero, List.set_cons_succ]
      refine sk21 (by kernel_rfl) (by kernel_rfl) (by kernel_rfl) (fun _ _ _ h => h) rfl (by assumption) ?_
      try simp only [Act.put, List.setIfInBounds_toArray, List.set_cons_zero, List.set_cons_succ]
      refine sk22 (by kernel_rfl) (by kernel_rfl) (by kernel_rfl) (fun _ _ _ h => h) rfl (by assumption) ?_
      try simp only [Act.put, List.setIfInBounds_toArray, List.set_cons_zero, List.set_cons_succ]
      refine sk23 (by kernel_rfl) (by kernel_rfl) (by kernel_rfl) (fun _ _ _ h => h) rfl (by assumption) ?_
      try simp only [Act.put, List.setIfInBounds_toArray, List.set_cons_zero, List.set_cons_succ]
      refine sk24 (by kernel_rfl) (by kernel_rfl) (by kernel_rfl) (fun _ _ _ h => h) rfl (by assumption) ?_
      try simp only [Act.put, List.setIfInBounds_toArray, List.set_cons_zero, List.set_cons_succ]
      refine tk25 (.bool false) (by kernel_rfl) (by kernel_rfl) (by kernel_rfl) (fun _ _ _ h => h) rfl (fun w hSw => by (try dsimp only at hSw); go_simp) (by assumption) ?_
      try simp only [Act.put, List.setIfInBounds_toArray, List.set_cons_zero, List.set_cons_succ]
      refine tk26 (.bool false) (by kernel_rfl) (by kernel_rfl) (by kernel_rfl) (fun _ _ _ h => h) rfl (fun w hSw => by (try dsimp only at hSw); go_simp) (by assumption) ?_
      try simp only [Act.put, List.setIfInBounds_toArray, List.set_cons_zero, List.set_cons_succ]
      refine sk27 (by kernel_rfl) (by kernel_rfl) (by kernel_rfl) (fun _ _ _ h => h) rfl (by assumption) ?_
      try simp only [Act.put, List.setIfInBounds_toArray, List.set_cons_zero, List.set_cons_succ]
      refine sk28 (by kernel_rfl) (by kernel_rfl) (by kernel_rfl) (fun _ _ _ h => h) rfl (by assumption) ?_
      try simp only [Act.put, List.setIfInBounds_toArray, List.set_cons_zero, List.set_cons_succ]
      refine sk29 (by kernel_rfl) (by kernel_rfl) (by kernel_rfl) (fun _ _ _ h => h) rfl (by assumption) ?_
      try simp only [Act.put, List.setIfInBounds_toArray, List.set_cons_zero, List.set_cons_succ]
      refine sk30 (by kernel_rfl) (by kernel_rfl) (by kernel_rfl) (fun _ _ _ h => h) rfl (by assumption) ?_
      try simp only [Act.put, List.setIfInBounds_toArray, List.set_cons_zero, List.set_cons_succ]
      refine sk31 (by kernel_rfl) (by kernel_rfl) (by kernel_rfl) (fun _ _ _ h => h) rfl (by assumption) ?_
      try simp only [Act.put, List.setIfInBounds_toArray, List.set_cons_zero, List.set_cons_succ]
      refine tk32 (.bool false) (by kernel_rfl) (by kernel_rfl) (by kernel_rfl) (fun _ _ _ h => h) rfl (fun w hSw => by (try dsimp only at hSw); go_simp) (by assumption) ?_
      try simp only [Act.put, List.setIfInBounds_toArray, List.set_cons_zero, List.set_cons_succ]
      refine tk33 (.bool false) (by kernel_rfl) (by kernel_rfl) (by kernel_rfl) (fun _ _ _ h => h) rfl (fun w hSw => by (try dsimp only at hSw); go_simp) (by assumption) ?_
      try simp only [Act.put, List.setIfInBounds_toArray, List.set_cons_zero, List.set_cons_succ]
      refine wpAnyH_done (by kernel_rfl) ?_ _
      go_wp2
      go_ret
      have f3 := bmm b0 b0.size b3
      have f4 := bmm f3 f3.size b4
      exact ⟨rfl, bmm f4 f4.size b5⟩
end Go.Proofs.Ytmmdcbgmhjheeaa
