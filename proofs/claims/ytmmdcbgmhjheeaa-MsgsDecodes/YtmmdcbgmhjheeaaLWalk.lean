/-
  The laws of layer 4, walked: MsgsEncodes, MsgsDecodes, MsgsBack answer true, and nothing that was there has turned. The conditions: a message's token is of 64 bits, there are no more entries, and a text is no longer, than may be.
-/
import Derived.Test.YtmmdcbgmhjheeaaLAwake
namespace Go.Proofs.Ytmmdcbgmhjheeaa
open Go.RowKit


theorem MAt.fresh (w : World) (m : Ms) (v : Value) (hv : EntAt w v m.es) : MAt (w.alloc (.cells #[.int .i64 m.k, .int .i64 m.f, .int .i64 m.t, .int .i64 m.b, .int .i64 m.sl, .int .i64 m.ro, .int .i64 m.se, .int .i64 m.er, v, .int .i64 m.c.kind, .int .i64 m.c.session, .int .i64 m.c.seq, .string m.c.name, .int .i64 m.c.n, .int .i64 m.rs, .int .i64 m.rq, .int .i64 m.re, .int .u64 m.tk, .int .i64 m.rn, .string m.x] 30)) w.heap.size m v := ⟨MLies.fresh w m v, hv.below ((Below.refl _ w).alloc (Nat.le_refl _) _)⟩

set_option maxHeartbeats 6400000 in
set_option maxRecDepth 100000 in
theorem encodes_walk (m : Ms) (v : Value) (w : World) (hv : EntAt w v m.es) (hn : m.es.length ≤ 9223372036854775807) (ht : m.tk < 18446744073709551616) :
    Calls Try.prog 3 #[.agg #[.int .i64 m.k, .int .i64 m.f, .int .i64 m.t, .int .i64 m.b, .int .i64 m.sl, .int .i64 m.ro, .int .i64 m.se, .int .i64 m.er, v, .int .i64 m.c.kind, .int .i64 m.c.session, .int .i64 m.c.seq, .string m.c.name, .int .i64 m.c.n, .int .i64 m.rs, .int .i64 m.rq, .int .i64 m.re, .int .u64 m.tk, .int .i64 m.rn, .string m.x]] w fun e w' => e = .returned (.bool true) ∧ Below w.heap.size w w' := by
  have q1 := fun w h => gencode_any m v w h hn ht
  have q2 := fun w h => mencode_any m v w h hn ht
  obtain ⟨S, f, hSf⟩ : ∃ S f, encMT m = (S, f) := ⟨_, _, (Prod.eta _).symm⟩
  rw [hSf] at q1 q2
  clear hSf
  have ba : Below w.heap.size w (w.alloc (.cells #[.int .i64 m.k, .int .i64 m.f, .int .i64 m.t, .int .i64 m.b, .int .i64 m.sl, .int .i64 m.ro, .int .i64 m.se, .int .i64 m.er, v, .int .i64 m.c.kind, .int .i64 m.c.session, .int .i64 m.c.seq, .string m.c.name, .int .i64 m.c.n, .int .i64 m.rs, .int .i64 m.rq, .int .i64 m.re, .int .u64 m.tk, .int .i64 m.rn, .string m.x] 30)) := (Below.refl _ w).alloc (Nat.le_refl _) _
  have x0 := MAt.fresh w m v hv
  go_enter Try.func3, Try.ntmps3
  go_wp2_with (first
    | (go_at_call 9; refine (awake_any _).mono ?_; rintro e w3 ⟨rfl, b3⟩; have f3 := bmm f2 f2.size b3)
    | (go_at_call 8; refine (q2 _ (by exact x1.en)).mono ?_; rintro e w2 ⟨rfl, b2⟩; have f2 := bmm f1 f1.size b2)
    | (go_at_call 7; refine (q1 _ (by exact x0.en)).mono ?_; rintro e w1 ⟨rfl, b1⟩; have x1 := x0.below b1; have f1 := bmm ba ba.size b1)
    | (show wpList _ _ _ (⟨_, Op.load 30 _, _, _, _, _⟩ :: _) _ _; refine load_msg rfl _ rfl rfl (by first | exact x1.li | exact x0.li) ?_))
  go_ret
  exact ⟨rfl, f3⟩

set_option maxHeartbeats 6400000 in
set_option maxRecDepth 100000 in
theorem decodes_walk (s : ByteArray) (hs : s.size ≤ 9223372036854775807) (w : World) :
    Calls Try.prog 4 #[.string s] w fun e w' => e = .returned (.bool true) ∧ Below w.heap.size w w' := by
  have q1 := fun w => gdecode_any s w
  have q2 := fun w => mdecode_any s hs w
  have hf := (decMT_fine s).2
  obtain ⟨m, f, hSf⟩ : ∃ S f, decMT s = (S, f) := ⟨_, _, (Prod.eta _).symm⟩
  rw [hSf] at q1 q2 hf
  simp only at q1 q2 hf
  have hn : m.es.length ≤ 9223372036854775807 := by omega
  clear hSf hf
  go_enter Try.func4, Try.ntmps4
  go_wp2_with (first
    | (go_at_call 9; refine (awake_any _).mono ?_; rintro e w6 ⟨rfl, b6⟩; have f6 := bmm f5 f5.size b6)
    | (go_at_call 12; refine (msame_any m m _ _ _ (by exact x4.en) (by exact y4.en) hn true (by simp)).mono ?_; rintro e w5 ⟨rfl, b5⟩; have f5 := bmm f4 f4.size b5)
    | (go_at_call 11; refine (q2 _).mono ?_; rintro e w3 ⟨v3, rfl, e3, b3⟩; obtain ⟨p3, n3, rfl, _⟩ := e3.ex; have x3 := x2.below b3; have f3 := bmm f2 f2.size b3; have z3 := zero_lies w3)
    | (go_at_call 10; refine (q1 _).mono ?_; rintro e w1 ⟨v1, rfl, e1, f1⟩; obtain ⟨p1, n1, rfl, _⟩ := e1.ex; have z1 := zero_lies w1)
    | (show wpList _ _ _ (⟨_, Op.load 30 _, _, _, _, _⟩ :: _) _ _; refine load_msg rfl _ rfl rfl (by first | exact x4.li | exact y4.li) ?_)
    | (show wpList _ _ _ (⟨_, Op.store 30 _ _, _, _, _, _⟩ :: _) _ _; have no := z3; refine store_msg rfl _ _ rfl rfl (by exact z3) _ _ _ (m := m) rfl ?_; intro w4 l4 g4; have d4 := below_store g4; have x4 := x3.below d4; have f4 := bmm f3 f3.size d4; have y4 : MAt w4 w3.heap.size m _ := ⟨l4, e3.below d4⟩)
    | (show wpList _ _ _ (⟨_, Op.store 30 _ _, _, _, _, _⟩ :: _) _ _; refine store_msg rfl _ _ rfl rfl (by exact z1) _ _ _ (m := m) rfl ?_; intro w2 l2 g2; have d2 := below_store g2; have f2 := bmm f1 f1.size d2; have x2 : MAt w2 w1.heap.size m _ := ⟨l2, e1.below d2⟩))
  go_ret
  exact ⟨rfl, f6⟩

theorem enc_back {m : Ms} {S : ByteArray} (ht : m.tk < 18446744073709551616) (h : encMT m = (S, 0)) : decMT S = (m, 0) := by
  unfold encMT at h
  by_cases hm : mayM m = true ∧ (encM m).length ≤ 524288
  · rw [if_pos hm] at h
    have e := (Prod.mk.inj h).1
    unfold decMT
    rw [← e, decM_enc hm.1 ht hm.2]
  · rw [if_neg hm] at h
    have := (Prod.mk.inj h).2
    omega
theorem enc_kinds (m : Ms) : (∃ S, encMT m = (S, 0)) ∨ encMT m = (⟨#[]⟩, 1) := by
  unfold encMT
  split
  · exact Or.inl ⟨_, rfl⟩
  · exact Or.inr rfl
theorem dec_kinds (s : ByteArray) : (∃ m, decMT s = (m, 0) ∧ encMT m = (s, 0)) ∨ decMT s = (Ms.zero, 2) := by
  unfold decMT
  cases h : decM s with
  | none => exact Or.inr rfl
  | some m =>
    obtain ⟨h1, h2, h3⟩ := decM_only h
    refine Or.inl ⟨m, rfl, ?_⟩
    unfold encMT
    rw [if_pos ⟨h1, h3⟩, ← h2]

set_option maxHeartbeats 12800000 in
set_option maxRecDepth 100000 in
theorem back_walk (m : Ms) (v : Value) (s : ByteArray) (w : World) (hv : EntAt w v m.es) (hn : m.es.length ≤ 9223372036854775807) (ht : m.tk < 18446744073709551616) :
    Calls Try.prog 5 #[.agg #[.int .i64 m.k, .int .i64 m.f, .int .i64 m.t, .int .i64 m.b, .int .i64 m.sl, .int .i64 m.ro, .int .i64 m.se, .int .i64 m.er, v, .int .i64 m.c.kind, .int .i64 m.c.session, .int .i64 m.c.seq, .string m.c.name, .int .i64 m.c.n, .int .i64 m.rs, .int .i64 m.rq, .int .i64 m.re, .int .u64 m.tk, .int .i64 m.rn, .string m.x], .string s] w fun e w' => e = .returned (.bool true) ∧ Below w.heap.size w w' := by
  have q1 := fun w h => gencode_any m v w h hn ht
  have q3 := fun w => gdecode_any s w
  have ba : Below w.heap.size w (w.alloc (.cells #[.int .i64 m.k, .int .i64 m.f, .int .i64 m.t, .int .i64 m.b, .int .i64 m.sl, .int .i64 m.ro, .int .i64 m.se, .int .i64 m.er, v, .int .i64 m.c.kind, .int .i64 m.c.session, .int .i64 m.c.seq, .string m.c.name, .int .i64 m.c.n, .int .i64 m.rs, .int .i64 m.rq, .int .i64 m.re, .int .u64 m.tk, .int .i64 m.rn, .string m.x] 30)) := (Below.refl _ w).alloc (Nat.le_refl _) _
  have x0 := MAt.fresh w m v hv
  have c : True := trivial
  clear hv
  have HE := enc_kinds m
  have HD := dec_kinds s
  have hfine := decMT_fine s
  rcases HE with ⟨S, hE⟩ | hE
  · have q2 := fun w => gdecode_any S w
    rw [enc_back ht hE] at q2
    rw [hE] at q1
    clear hE
    rcases HD with ⟨k, hD, hk⟩ | hD
    · rw [hD] at q3 hfine
      simp only at q3 hfine
      have q4 := fun v w h => gencode_any k v w h (by omega) hfine.1
      rw [hk] at q4
      clear hD hk hfine
      go_enter Try.func5, Try.ntmps5
      go_wp2_with (first
        | (go_at_call 9; refine (awake_any _).mono ?_; rintro e w8 ⟨rfl, b8⟩; have f8 := bmm f7 f7.size b8)
        | (go_at_call 7; have no := c3; refine (q4 _ _ (by exact x6.en)).mono ?_; rintro e w7 ⟨rfl, b7⟩; have f7 := bmm f6 f6.size b7)
        | (go_at_call 10; have no := c2; refine (q3 _).mono ?_; rintro e w5 ⟨v5, rfl, e5, b5⟩; obtain ⟨p5, n5, rfl, _⟩ := e5.ex; have f5 := bmm f4 f4.size b5; have z5 := zero_lies w5; have c3 : True := trivial; clear c2)
        | (go_at_call 12; have no := c1; refine (msame_any m m _ _ _ (by exact x3.en) (by exact y3.en) hn true (by simp)).mono ?_; rintro e w4 ⟨rfl, b4⟩; have x4 := x3.below b4; have f4 := bmm f3 f3.size b4; have c2 : True := trivial; clear c1)
        | (go_at_call 10; have no := c0; refine (q2 _).mono ?_; rintro e w2 ⟨v2, rfl, e2, b2⟩; obtain ⟨p2, n2, rfl, _⟩ := e2.ex; have x2 := x1.below b2; have f2 := bmm f1 f1.size b2; have z2 := zero_lies w2; have c1 : True := trivial; clear c0)
        | (go_at_call 7; have no := c; refine (q1 _ (by exact x0.en)).mono ?_; rintro e w1 ⟨rfl, b1⟩; have x1 := x0.below b1; have f1 := bmm ba ba.size b1; have c0 : True := trivial; clear c)
        | (show wpList _ _ _ (⟨_, Op.load 30 _, _, _, _, _⟩ :: _) _ _; have no := c3; refine load_msg rfl _ rfl rfl (by exact x6.li) ?_)
        | (show wpList _ _ _ (⟨_, Op.store 30 _ _, _, _, _, _⟩ :: _) _ _; have no := c3; refine store_msg rfl _ _ rfl rfl (by exact z5) _ _ _ (m := k) rfl ?_; intro w6 l6 g6; have d6 := below_store g6; have f6 := bmm f5 f5.size d6; have x6 : MAt w6 w5.heap.size k _ := ⟨l6, e5.below d6⟩)
        | (show wpList _ _ _ (⟨_, Op.load 30 _, _, _, _, _⟩ :: _) _ _; have no := c1; refine load_msg rfl _ rfl rfl (by first | exact x3.li | exact y3.li) ?_)
        | (show wpList _ _ _ (⟨_, Op.load 30 _, _, _, _, _⟩ :: _) _ _; have no := c; refine load_msg rfl _ rfl rfl (by exact x0.li) ?_)
        | (show wpList _ _ _ (⟨_, Op.store 30 _ _, _, _, _, _⟩ :: _) _ _; have no := c1; refine store_msg rfl _ _ rfl rfl (by exact z2) _ _ _ (m := m) rfl ?_; intro w3 l3 g3; have d3 := below_store g3; have x3 := x2.below d3; have f3 := bmm f2 f2.size d3; have y3 : MAt w3 w2.heap.size m _ := ⟨l3, e2.below d3⟩))
      go_ret
      exact ⟨rfl, f8⟩
    · rw [hD] at q3
      have q4 : ∀ v w, EntAt w v Ms.zero.es → Calls Try.prog 12 #[.agg #[.int .i64 Ms.zero.k, .int .i64 Ms.zero.f, .int .i64 Ms.zero.t, .int .i64 Ms.zero.b, .int .i64 Ms.zero.sl, .int .i64 Ms.zero.ro, .int .i64 Ms.zero.se, .int .i64 Ms.zero.er, v, .int .i64 Ms.zero.c.kind, .int .i64 Ms.zero.c.session, .int .i64 Ms.zero.c.seq, .string Ms.zero.c.name, .int .i64 Ms.zero.c.n, .int .i64 Ms.zero.rs, .int .i64 Ms.zero.rq, .int .i64 Ms.zero.re, .int .u64 Ms.zero.tk, .int .i64 Ms.zero.rn, .string Ms.zero.x], .agg #[.int .i64 0, .int .i64 0, .int .i64 0, .int .i64 0, .int .i64 0, .int .i64 0, .int .i64 0, .int .i64 0, .slice none 0 0, .int .i64 0, .int .i64 0, .int .i64 0, .string ⟨#[]⟩, .int .i64 0, .int .i64 0, .int .i64 0, .int .i64 0, .int .u64 0, .int .i64 0, .string ⟨#[]⟩]] w fun e w' => e = .returned (.bool true) ∧ Below w.heap.size w w' := fun v w h => msame_any Ms.zero Ms.zero v (.slice none 0 0) w h (EntAt.nothing _) (by show (0 : Nat) ≤ _; omega) true (by simp)
      clear hD hfine
      go_enter Try.func5, Try.ntmps5
      go_wp2_with (first
        | (go_at_call 9; refine (awake_any _).mono ?_; rintro e w8 ⟨rfl, b8⟩; have f8 := bmm f7 f7.size b8)
        | (go_at_call 12; have no := c3; refine (q4 _ _ (by exact x6.en)).mono ?_; rintro e w7 ⟨rfl, b7⟩; have f7 := bmm f6 f6.size b7)
        | (go_at_call 10; have no := c2; refine (q3 _).mono ?_; rintro e w5 ⟨v5, rfl, e5, b5⟩; obtain ⟨p5, n5, rfl, _⟩ := e5.ex; have f5 := bmm f4 f4.size b5; have z5 := zero_lies w5; have c3 : True := trivial; clear c2)
        | (go_at_call 12; have no := c1; refine (msame_any m m _ _ _ (by exact x3.en) (by exact y3.en) hn true (by simp)).mono ?_; rintro e w4 ⟨rfl, b4⟩; have x4 := x3.below b4; have f4 := bmm f3 f3.size b4; have c2 : True := trivial; clear c1)
        | (go_at_call 10; have no := c0; refine (q2 _).mono ?_; rintro e w2 ⟨v2, rfl, e2, b2⟩; obtain ⟨p2, n2, rfl, _⟩ := e2.ex; have x2 := x1.below b2; have f2 := bmm f1 f1.size b2; have z2 := zero_lies w2; have c1 : True := trivial; clear c0)
        | (go_at_call 7; have no := c; refine (q1 _ (by exact x0.en)).mono ?_; rintro e w1 ⟨rfl, b1⟩; have x1 := x0.below b1; have f1 := bmm ba ba.size b1; have c0 : True := trivial; clear c)
        | (show wpList _ _ _ (⟨_, Op.load 30 _, _, _, _, _⟩ :: _) _ _; have no := c3; refine load_msg rfl _ rfl rfl (by exact x6.li) ?_)
        | (show wpList _ _ _ (⟨_, Op.store 30 _ _, _, _, _, _⟩ :: _) _ _; have no := c3; refine store_msg rfl _ _ rfl rfl (by exact z5) _ _ _ (m := Ms.zero) rfl ?_; intro w6 l6 g6; have d6 := below_store g6; have f6 := bmm f5 f5.size d6; have x6 : MAt w6 w5.heap.size Ms.zero _ := ⟨l6, e5.below d6⟩)
        | (show wpList _ _ _ (⟨_, Op.load 30 _, _, _, _, _⟩ :: _) _ _; have no := c1; refine load_msg rfl _ rfl rfl (by first | exact x3.li | exact y3.li) ?_)
        | (show wpList _ _ _ (⟨_, Op.load 30 _, _, _, _, _⟩ :: _) _ _; have no := c; refine load_msg rfl _ rfl rfl (by exact x0.li) ?_)
        | (show wpList _ _ _ (⟨_, Op.store 30 _ _, _, _, _, _⟩ :: _) _ _; have no := c1; refine store_msg rfl _ _ rfl rfl (by exact z2) _ _ _ (m := m) rfl ?_; intro w3 l3 g3; have d3 := below_store g3; have x3 := x2.below d3; have f3 := bmm f2 f2.size d3; have y3 : MAt w3 w2.heap.size m _ := ⟨l3, e2.below d3⟩))
      go_ret
      exact ⟨rfl, f8⟩

  · rw [hE] at q1
    clear hE
    rcases HD with ⟨k, hD, hk⟩ | hD
    · rw [hD] at q3 hfine
      simp only at q3 hfine
      have q4 := fun v w h => gencode_any k v w h (by omega) hfine.1
      rw [hk] at q4
      clear hD hk hfine
      go_enter Try.func5, Try.ntmps5
      go_wp2_with (first
        | (go_at_call 9; refine (awake_any _).mono ?_; rintro e w8 ⟨rfl, b8⟩; have f8 := bmm f7 f7.size b8)
        | (go_at_call 7; have no := c3; refine (q4 _ _ (by exact x6.en)).mono ?_; rintro e w7 ⟨rfl, b7⟩; have f7 := bmm f6 f6.size b7)
        | (go_at_call 10; have no := c2; refine (q3 _).mono ?_; rintro e w5 ⟨v5, rfl, e5, b5⟩; obtain ⟨p5, n5, rfl, _⟩ := e5.ex; have f5 := bmm f4 f4.size b5; have z5 := zero_lies w5; have c3 : True := trivial; clear c2)
        | (go_at_call 7; have no := c; refine (q1 _ (by exact x0.en)).mono ?_; rintro e w4 ⟨rfl, b4⟩; have x4 := x0.below b4; have f4 := bmm ba ba.size b4; have c2 : True := trivial; clear c)
        | (show wpList _ _ _ (⟨_, Op.load 30 _, _, _, _, _⟩ :: _) _ _; have no := c3; refine load_msg rfl _ rfl rfl (by exact x6.li) ?_)
        | (show wpList _ _ _ (⟨_, Op.store 30 _ _, _, _, _, _⟩ :: _) _ _; have no := c3; refine store_msg rfl _ _ rfl rfl (by exact z5) _ _ _ (m := k) rfl ?_; intro w6 l6 g6; have d6 := below_store g6; have f6 := bmm f5 f5.size d6; have x6 : MAt w6 w5.heap.size k _ := ⟨l6, e5.below d6⟩)
        | (show wpList _ _ _ (⟨_, Op.load 30 _, _, _, _, _⟩ :: _) _ _; have no := c; refine load_msg rfl _ rfl rfl (by exact x0.li) ?_))
      go_ret
      exact ⟨rfl, f8⟩
    · rw [hD] at q3
      have q4 : ∀ v w, EntAt w v Ms.zero.es → Calls Try.prog 12 #[.agg #[.int .i64 Ms.zero.k, .int .i64 Ms.zero.f, .int .i64 Ms.zero.t, .int .i64 Ms.zero.b, .int .i64 Ms.zero.sl, .int .i64 Ms.zero.ro, .int .i64 Ms.zero.se, .int .i64 Ms.zero.er, v, .int .i64 Ms.zero.c.kind, .int .i64 Ms.zero.c.session, .int .i64 Ms.zero.c.seq, .string Ms.zero.c.name, .int .i64 Ms.zero.c.n, .int .i64 Ms.zero.rs, .int .i64 Ms.zero.rq, .int .i64 Ms.zero.re, .int .u64 Ms.zero.tk, .int .i64 Ms.zero.rn, .string Ms.zero.x], .agg #[.int .i64 0, .int .i64 0, .int .i64 0, .int .i64 0, .int .i64 0, .int .i64 0, .int .i64 0, .int .i64 0, .slice none 0 0, .int .i64 0, .int .i64 0, .int .i64 0, .string ⟨#[]⟩, .int .i64 0, .int .i64 0, .int .i64 0, .int .i64 0, .int .u64 0, .int .i64 0, .string ⟨#[]⟩]] w fun e w' => e = .returned (.bool true) ∧ Below w.heap.size w w' := fun v w h => msame_any Ms.zero Ms.zero v (.slice none 0 0) w h (EntAt.nothing _) (by show (0 : Nat) ≤ _; omega) true (by simp)
      clear hD hfine
      go_enter Try.func5, Try.ntmps5
      go_wp2_with (first
        | (go_at_call 9; refine (awake_any _).mono ?_; rintro e w8 ⟨rfl, b8⟩; have f8 := bmm f7 f7.size b8)
        | (go_at_call 12; have no := c3; refine (q4 _ _ (by exact x6.en)).mono ?_; rintro e w7 ⟨rfl, b7⟩; have f7 := bmm f6 f6.size b7)
        | (go_at_call 10; have no := c2; refine (q3 _).mono ?_; rintro e w5 ⟨v5, rfl, e5, b5⟩; obtain ⟨p5, n5, rfl, _⟩ := e5.ex; have f5 := bmm f4 f4.size b5; have z5 := zero_lies w5; have c3 : True := trivial; clear c2)
        | (go_at_call 7; have no := c; refine (q1 _ (by exact x0.en)).mono ?_; rintro e w4 ⟨rfl, b4⟩; have x4 := x0.below b4; have f4 := bmm ba ba.size b4; have c2 : True := trivial; clear c)
        | (show wpList _ _ _ (⟨_, Op.load 30 _, _, _, _, _⟩ :: _) _ _; have no := c3; refine load_msg rfl _ rfl rfl (by exact x6.li) ?_)
        | (show wpList _ _ _ (⟨_, Op.store 30 _ _, _, _, _, _⟩ :: _) _ _; have no := c3; refine store_msg rfl _ _ rfl rfl (by exact z5) _ _ _ (m := Ms.zero) rfl ?_; intro w6 l6 g6; have d6 := below_store g6; have f6 := bmm f5 f5.size d6; have x6 : MAt w6 w5.heap.size Ms.zero _ := ⟨l6, e5.below d6⟩)
        | (show wpList _ _ _ (⟨_, Op.load 30 _, _, _, _, _⟩ :: _) _ _; have no := c; refine load_msg rfl _ rfl rfl (by exact x0.li) ?_))
      go_ret
      exact ⟨rfl, f8⟩
end Go.Proofs.Ytmmdcbgmhjheeaa
