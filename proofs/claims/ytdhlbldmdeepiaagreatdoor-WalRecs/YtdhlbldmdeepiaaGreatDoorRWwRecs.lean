/-
  WalRecs, for every record and every text: the program's bytes of a record and its record of bytes are the document's. The conditions: the text is no longer than a text may be; package frame's table stands.
-/
import Derived.Test.YtdhlbldmdeepiaaGreatDoorRPackM
import Derived.Test.YtdhlbldmdeepiaaGreatDoorRWwAwake
namespace Go.Proofs.YtdhlbldmdeepiaaGreatDoor
open Go.RowKit

theorem past_set {w3 w4 : World} {x : Nat} {o o0 : Obj} (h : w3.heap[x]? = some o) (g : (w3.alloc o0).grownBy w4 (some w3.heap.size)) : w4.heap[x]? = some o := by
  have hl := lt_of_block h
  have b := (Below.refl w3.heap.size w3).alloc (Nat.le_refl _) o0
  exact (g.block x (Nat.lt_of_lt_of_le hl b.size) (fun e => by have := Option.some.inj e; omega)).trans ((b.block x hl).trans h)
theorem low_past {w w3 w4 : World} {B : Nat} {o0 : Obj} (b : Below B w w3) (hB : B ≤ w3.heap.size) (g : (w3.alloc o0).grownBy w4 (some w3.heap.size)) : Below B w w4 := by
  have b2 := b.alloc hB o0
  exact b2.grown g (Nat.le_trans hB (by simp)) (fun k hk => by have := Option.some.inj hk; omega)
set_option maxHeartbeats 6400000 in
set_option maxRecDepth 100000 in
theorem recs_no_none (w : World) (hT : Tab w) (K N A B k S Q n : Int) (T s : ByteArray) 
    (q1 : ∀ w, Calls Tryz.prog 8 #[.agg (rcA K N A B k S Q n T)] w fun e w' => e = .returned (.tuple #[.string ⟨#[]⟩, .int .i64 1]) ∧ Below w.heap.size w w') (q2 : ∀ w, Calls Tryz.prog 9 #[.agg (rcA K N A B k S Q n T)] w fun e w' => e = .returned (.tuple #[.string ⟨#[]⟩, .int .i64 1]) ∧ Below w.heap.size w w') (q3 : ∀ w, Calls Tryz.prog 10 #[.string s] w fun e w' => e = .returned (.tuple #[.agg rz, .int .i64 2]) ∧ Below w.heap.size w w') (q4 : ∀ w, Calls Tryz.prog 11 #[.string s] w fun e w' => e = .returned (.tuple #[.agg rz, .int .i64 2]) ∧ Below w.heap.size w w') :
    Calls Tryz.prog 3 #[.agg (rcA K N A B k S Q n T), .string s] w fun e w' => e = .returned (.bool true) ∧ Below w.heap.size w w' := by
  have xw0 : Hid ((w.alloc (.cells (rcA K N A B k S Q n T) 27)).heap[w.heap.size]? = some (.cells (rcA K N A B k S Q n T) 27 (0, 0))) := heap_alloc_new w _
  have fw0 : Hid (Below w.heap.size w (w.alloc (.cells (rcA K N A B k S Q n T) 27))) := (Below.refl _ w).alloc (Nat.le_refl _) _
  go_enter Tryz.func3, Tryz.ntmps3
  go_wp2_with (first
    | (go_at_call 12; have y0 := hw6; refine (awake_any _ (hT.low fw6.out hT.1)).mono ?_; rintro e w9 ⟨rfl, b9⟩)
    | (show wpList _ _ _ (⟨_, Op.load 27 _, _, _, _, _⟩ :: _) _ _; have y0 := hw6; refine load_row_g rfl 27 _ rfl (w5.heap.size) rfl 27 _ (0, 0) _ hw6.out Tryz.underlying27 rfl infoR9 ?_)
    | (show wpList _ _ _ (⟨_, Op.load 27 _, _, _, _, _⟩ :: _) _ _; have y0 := yw6; refine load_row_g rfl 27 _ rfl (w3.heap.size) rfl 27 _ (0, 0) _ yw6.out Tryz.underlying27 rfl infoR9 ?_)
    | (show wpList _ _ _ (⟨_, Op.store 27 _ _, _, _, _, _⟩ :: _) _ _; have y0 := nw5; refine store_row_g rfl 27 _ _ rfl w5.heap.size (rz) rfl rfl 27 rz nw5.out infoR9 rfl (by simp [Value.oneCell']) ?_; intro w6 hw6 gw6; have hw6 : Hid (w6.heap[w5.heap.size]? = some (.cells (rz) 27 (0, 0))) := hw6; have yw6 : Hid (w6.heap[w3.heap.size]? = some (.cells (rz) 27 (0, 0))) := past_set yw5.out gw6; have xw6 : Hid (w6.heap[w.heap.size]? = some (.cells (rcA K N A B k S Q n T) 27 (0, 0))) := past_set xw5.out gw6; have fw6 : Hid (Below w.heap.size w w6) := low_past fw5.out fw5.out.size gw6)
    | (go_at_call 11; have y0 := hw4; refine (q4 _).mono ?_; rintro e w5 ⟨rfl, b5⟩; have xw5 : Hid (w5.heap[w.heap.size]? = some (.cells (rcA K N A B k S Q n T) 27 (0, 0))) := (b5.block _ (lt_of_block xw4.out)).trans xw4.out; have yw5 : Hid (w5.heap[w3.heap.size]? = some (.cells (rz) 27 (0, 0))) := (b5.block _ (lt_of_block hw4.out)).trans hw4.out; have fw5 : Hid (Below w.heap.size w w5) := bmm fw4.out fw4.out.size b5; have nw5 : Hid ((w5.alloc (.cells rz 27)).heap[w5.heap.size]? = some (.cells (rz) 27 (0, 0))) := heap_alloc_new w5 _)
    | (show wpList _ _ _ (⟨_, Op.store 27 _ _, _, _, _, _⟩ :: _) _ _; have y0 := nw3; refine store_row_g rfl 27 _ _ rfl w3.heap.size (rz) rfl rfl 27 rz nw3.out infoR9 rfl (by simp [Value.oneCell']) ?_; intro w4 hw4 gw4; have hw4 : Hid (w4.heap[w3.heap.size]? = some (.cells (rz) 27 (0, 0))) := hw4; have xw4 : Hid (w4.heap[w.heap.size]? = some (.cells (rcA K N A B k S Q n T) 27 (0, 0))) := past_set xw3.out gw4; have fw4 : Hid (Below w.heap.size w w4) := low_past fw3.out fw3.out.size gw4)
    | (go_at_call 10; have y0 := xw2; refine (q3 _).mono ?_; rintro e w3 ⟨rfl, b3⟩; have xw3 : Hid (w3.heap[w.heap.size]? = some (.cells (rcA K N A B k S Q n T) 27 (0, 0))) := (b3.block _ (lt_of_block xw2.out)).trans xw2.out; have fw3 : Hid (Below w.heap.size w w3) := bmm fw2.out fw2.out.size b3; have nw3 : Hid ((w3.alloc (.cells rz 27)).heap[w3.heap.size]? = some (.cells (rz) 27 (0, 0))) := heap_alloc_new w3 _)
    | (go_at_call 9; have y0 := xw1; refine (q2 _).mono ?_; rintro e w2 ⟨rfl, b2⟩; have xw2 : Hid (w2.heap[w.heap.size]? = some (.cells (rcA K N A B k S Q n T) 27 (0, 0))) := (b2.block _ (lt_of_block xw1.out)).trans xw1.out; have fw2 : Hid (Below w.heap.size w w2) := bmm fw1.out fw1.out.size b2)
    | (show wpList _ _ _ (⟨_, Op.load 27 _, _, _, _, _⟩ :: _) _ _; have y0 := xw1; refine load_row_g rfl 27 _ rfl (w.heap.size) rfl 27 _ (0, 0) _ xw1.out Tryz.underlying27 rfl infoR9 ?_)
    | (go_at_call 8; refine (q1 _).mono ?_; rintro e w1 ⟨rfl, b1⟩; have xw1 : Hid (w1.heap[w.heap.size]? = some (.cells (rcA K N A B k S Q n T) 27 (0, 0))) := (b1.block _ (lt_of_block xw0.out)).trans xw0.out; have fw1 : Hid (Below w.heap.size w w1) := bmm fw0.out fw0.out.size b1)
    | (show wpList _ _ _ (⟨_, Op.load 27 _, _, _, _, _⟩ :: _) _ _; have y0 := xw0; refine load_row_g rfl 27 _ rfl (w.heap.size) rfl 27 _ (0, 0) _ xw0.out Tryz.underlying27 rfl infoR9 ?_))
  go_ret
  exact ⟨rfl, bmm fw6.out fw6.out.size b9⟩
set_option maxHeartbeats 6400000 in
set_option maxRecDepth 100000 in
theorem recs_no_some (w : World) (hT : Tab w) (K N A B k S Q n : Int) (T s : ByteArray) (K1 N1 A1 B1 k1 S1 Q1 n1 : Int) (T1 : ByteArray)
    (q1 : ∀ w, Calls Tryz.prog 8 #[.agg (rcA K N A B k S Q n T)] w fun e w' => e = .returned (.tuple #[.string ⟨#[]⟩, .int .i64 1]) ∧ Below w.heap.size w w') (q2 : ∀ w, Calls Tryz.prog 9 #[.agg (rcA K N A B k S Q n T)] w fun e w' => e = .returned (.tuple #[.string ⟨#[]⟩, .int .i64 1]) ∧ Below w.heap.size w w') (q3 : ∀ w, Calls Tryz.prog 10 #[.string s] w fun e w' => e = .returned (.tuple #[.agg (rcA K1 N1 A1 B1 k1 S1 Q1 n1 T1), .int .i64 0]) ∧ Below w.heap.size w w') (q4 : ∀ w, Calls Tryz.prog 11 #[.string s] w fun e w' => e = .returned (.tuple #[.agg (rcA K1 N1 A1 B1 k1 S1 Q1 n1 T1), .int .i64 0]) ∧ Below w.heap.size w w') :
    Calls Tryz.prog 3 #[.agg (rcA K N A B k S Q n T), .string s] w fun e w' => e = .returned (.bool true) ∧ Below w.heap.size w w' := by
  have xw0 : Hid ((w.alloc (.cells (rcA K N A B k S Q n T) 27)).heap[w.heap.size]? = some (.cells (rcA K N A B k S Q n T) 27 (0, 0))) := heap_alloc_new w _
  have fw0 : Hid (Below w.heap.size w (w.alloc (.cells (rcA K N A B k S Q n T) 27))) := (Below.refl _ w).alloc (Nat.le_refl _) _
  go_enter Tryz.func3, Tryz.ntmps3
  go_wp2_with (first
    | (go_at_call 12; have y0 := hw6; refine (awake_any _ (hT.low fw6.out hT.1)).mono ?_; rintro e w9 ⟨rfl, b9⟩)
    | (show wpList _ _ _ (⟨_, Op.load 27 _, _, _, _, _⟩ :: _) _ _; have y0 := hw6; refine load_row_g rfl 27 _ rfl (w5.heap.size) rfl 27 _ (0, 0) _ hw6.out Tryz.underlying27 rfl infoR9 ?_)
    | (show wpList _ _ _ (⟨_, Op.load 27 _, _, _, _, _⟩ :: _) _ _; have y0 := yw6; refine load_row_g rfl 27 _ rfl (w3.heap.size) rfl 27 _ (0, 0) _ yw6.out Tryz.underlying27 rfl infoR9 ?_)
    | (show wpList _ _ _ (⟨_, Op.store 27 _ _, _, _, _, _⟩ :: _) _ _; have y0 := nw5; refine store_row_g rfl 27 _ _ rfl w5.heap.size (rcA K1 N1 A1 B1 k1 S1 Q1 n1 T1) rfl rfl 27 rz nw5.out infoR9 rfl (by simp [Value.oneCell']) ?_; intro w6 hw6 gw6; have hw6 : Hid (w6.heap[w5.heap.size]? = some (.cells (rcA K1 N1 A1 B1 k1 S1 Q1 n1 T1) 27 (0, 0))) := hw6; have yw6 : Hid (w6.heap[w3.heap.size]? = some (.cells (rcA K1 N1 A1 B1 k1 S1 Q1 n1 T1) 27 (0, 0))) := past_set yw5.out gw6; have xw6 : Hid (w6.heap[w.heap.size]? = some (.cells (rcA K N A B k S Q n T) 27 (0, 0))) := past_set xw5.out gw6; have fw6 : Hid (Below w.heap.size w w6) := low_past fw5.out fw5.out.size gw6)
    | (go_at_call 11; have y0 := hw4; refine (q4 _).mono ?_; rintro e w5 ⟨rfl, b5⟩; have xw5 : Hid (w5.heap[w.heap.size]? = some (.cells (rcA K N A B k S Q n T) 27 (0, 0))) := (b5.block _ (lt_of_block xw4.out)).trans xw4.out; have yw5 : Hid (w5.heap[w3.heap.size]? = some (.cells (rcA K1 N1 A1 B1 k1 S1 Q1 n1 T1) 27 (0, 0))) := (b5.block _ (lt_of_block hw4.out)).trans hw4.out; have fw5 : Hid (Below w.heap.size w w5) := bmm fw4.out fw4.out.size b5; have nw5 : Hid ((w5.alloc (.cells rz 27)).heap[w5.heap.size]? = some (.cells (rz) 27 (0, 0))) := heap_alloc_new w5 _)
    | (show wpList _ _ _ (⟨_, Op.store 27 _ _, _, _, _, _⟩ :: _) _ _; have y0 := nw3; refine store_row_g rfl 27 _ _ rfl w3.heap.size (rcA K1 N1 A1 B1 k1 S1 Q1 n1 T1) rfl rfl 27 rz nw3.out infoR9 rfl (by simp [Value.oneCell']) ?_; intro w4 hw4 gw4; have hw4 : Hid (w4.heap[w3.heap.size]? = some (.cells (rcA K1 N1 A1 B1 k1 S1 Q1 n1 T1) 27 (0, 0))) := hw4; have xw4 : Hid (w4.heap[w.heap.size]? = some (.cells (rcA K N A B k S Q n T) 27 (0, 0))) := past_set xw3.out gw4; have fw4 : Hid (Below w.heap.size w w4) := low_past fw3.out fw3.out.size gw4)
    | (go_at_call 10; have y0 := xw2; refine (q3 _).mono ?_; rintro e w3 ⟨rfl, b3⟩; have xw3 : Hid (w3.heap[w.heap.size]? = some (.cells (rcA K N A B k S Q n T) 27 (0, 0))) := (b3.block _ (lt_of_block xw2.out)).trans xw2.out; have fw3 : Hid (Below w.heap.size w w3) := bmm fw2.out fw2.out.size b3; have nw3 : Hid ((w3.alloc (.cells rz 27)).heap[w3.heap.size]? = some (.cells (rz) 27 (0, 0))) := heap_alloc_new w3 _)
    | (go_at_call 9; have y0 := xw1; refine (q2 _).mono ?_; rintro e w2 ⟨rfl, b2⟩; have xw2 : Hid (w2.heap[w.heap.size]? = some (.cells (rcA K N A B k S Q n T) 27 (0, 0))) := (b2.block _ (lt_of_block xw1.out)).trans xw1.out; have fw2 : Hid (Below w.heap.size w w2) := bmm fw1.out fw1.out.size b2)
    | (show wpList _ _ _ (⟨_, Op.load 27 _, _, _, _, _⟩ :: _) _ _; have y0 := xw1; refine load_row_g rfl 27 _ rfl (w.heap.size) rfl 27 _ (0, 0) _ xw1.out Tryz.underlying27 rfl infoR9 ?_)
    | (go_at_call 8; refine (q1 _).mono ?_; rintro e w1 ⟨rfl, b1⟩; have xw1 : Hid (w1.heap[w.heap.size]? = some (.cells (rcA K N A B k S Q n T) 27 (0, 0))) := (b1.block _ (lt_of_block xw0.out)).trans xw0.out; have fw1 : Hid (Below w.heap.size w w1) := bmm fw0.out fw0.out.size b1)
    | (show wpList _ _ _ (⟨_, Op.load 27 _, _, _, _, _⟩ :: _) _ _; have y0 := xw0; refine load_row_g rfl 27 _ rfl (w.heap.size) rfl 27 _ (0, 0) _ xw0.out Tryz.underlying27 rfl infoR9 ?_))
  go_ret
  exact ⟨rfl, bmm fw6.out fw6.out.size b9⟩
set_option maxHeartbeats 6400000 in
set_option maxRecDepth 100000 in
theorem recs_yes_none (w : World) (hT : Tab w) (K N A B k S Q n : Int) (T s : ByteArray) (X : ByteArray) 
    (q1 : ∀ w, Calls Tryz.prog 8 #[.agg (rcA K N A B k S Q n T)] w fun e w' => e = .returned (.tuple #[.string X, .int .i64 0]) ∧ Below w.heap.size w w') (q2 : ∀ w, Calls Tryz.prog 9 #[.agg (rcA K N A B k S Q n T)] w fun e w' => e = .returned (.tuple #[.string X, .int .i64 0]) ∧ Below w.heap.size w w') (q3 : ∀ w, Calls Tryz.prog 10 #[.string s] w fun e w' => e = .returned (.tuple #[.agg rz, .int .i64 2]) ∧ Below w.heap.size w w') (q4 : ∀ w, Calls Tryz.prog 11 #[.string s] w fun e w' => e = .returned (.tuple #[.agg rz, .int .i64 2]) ∧ Below w.heap.size w w') (q5 : ∀ w, Calls Tryz.prog 10 #[.string X] w fun e w' => e = .returned (.tuple #[.agg (rcA K N A B k S Q n T), .int .i64 0]) ∧ Below w.heap.size w w') :
    Calls Tryz.prog 3 #[.agg (rcA K N A B k S Q n T), .string s] w fun e w' => e = .returned (.bool true) ∧ Below w.heap.size w w' := by
  have xw0 : Hid ((w.alloc (.cells (rcA K N A B k S Q n T) 27)).heap[w.heap.size]? = some (.cells (rcA K N A B k S Q n T) 27 (0, 0))) := heap_alloc_new w _
  have fw0 : Hid (Below w.heap.size w (w.alloc (.cells (rcA K N A B k S Q n T) 27))) := (Below.refl _ w).alloc (Nat.le_refl _) _
  go_enter Tryz.func3, Tryz.ntmps3
  go_wp2_with (first
    | (go_at_call 12; have y0 := hw8; refine (awake_any _ (hT.low fw8.out hT.1)).mono ?_; rintro e w9 ⟨rfl, b9⟩)
    | (show wpList _ _ _ (⟨_, Op.load 27 _, _, _, _, _⟩ :: _) _ _; have y0 := hw8; refine load_row_g rfl 27 _ rfl (w7.heap.size) rfl 27 _ (0, 0) _ hw8.out Tryz.underlying27 rfl infoR9 ?_)
    | (show wpList _ _ _ (⟨_, Op.load 27 _, _, _, _, _⟩ :: _) _ _; have y0 := xw8; refine load_row_g rfl 27 _ rfl (w.heap.size) rfl 27 _ (0, 0) _ xw8.out Tryz.underlying27 rfl infoR9 ?_)
    | (show wpList _ _ _ (⟨_, Op.store 27 _ _, _, _, _, _⟩ :: _) _ _; have y0 := nw7; refine store_row_g rfl 27 _ _ rfl w7.heap.size (rcA K N A B k S Q n T) rfl rfl 27 rz nw7.out infoR9 rfl (by simp [Value.oneCell']) ?_; intro w8 hw8 gw8; have hw8 : Hid (w8.heap[w7.heap.size]? = some (.cells (rcA K N A B k S Q n T) 27 (0, 0))) := hw8; have xw8 : Hid (w8.heap[w.heap.size]? = some (.cells (rcA K N A B k S Q n T) 27 (0, 0))) := past_set xw7.out gw8; have fw8 : Hid (Below w.heap.size w w8) := low_past fw7.out fw7.out.size gw8)
    | (go_at_call 10; have y0 := hw6; refine (q5 _).mono ?_; rintro e w7 ⟨rfl, b7⟩; have xw7 : Hid (w7.heap[w.heap.size]? = some (.cells (rcA K N A B k S Q n T) 27 (0, 0))) := (b7.block _ (lt_of_block xw6.out)).trans xw6.out; have fw7 : Hid (Below w.heap.size w w7) := bmm fw6.out fw6.out.size b7; have nw7 : Hid ((w7.alloc (.cells rz 27)).heap[w7.heap.size]? = some (.cells (rz) 27 (0, 0))) := heap_alloc_new w7 _)
    | (show wpList _ _ _ (⟨_, Op.load 27 _, _, _, _, _⟩ :: _) _ _; have y0 := hw6; refine load_row_g rfl 27 _ rfl (w5.heap.size) rfl 27 _ (0, 0) _ hw6.out Tryz.underlying27 rfl infoR9 ?_)
    | (show wpList _ _ _ (⟨_, Op.load 27 _, _, _, _, _⟩ :: _) _ _; have y0 := yw6; refine load_row_g rfl 27 _ rfl (w3.heap.size) rfl 27 _ (0, 0) _ yw6.out Tryz.underlying27 rfl infoR9 ?_)
    | (show wpList _ _ _ (⟨_, Op.store 27 _ _, _, _, _, _⟩ :: _) _ _; have y0 := nw5; refine store_row_g rfl 27 _ _ rfl w5.heap.size (rz) rfl rfl 27 rz nw5.out infoR9 rfl (by simp [Value.oneCell']) ?_; intro w6 hw6 gw6; have hw6 : Hid (w6.heap[w5.heap.size]? = some (.cells (rz) 27 (0, 0))) := hw6; have yw6 : Hid (w6.heap[w3.heap.size]? = some (.cells (rz) 27 (0, 0))) := past_set yw5.out gw6; have xw6 : Hid (w6.heap[w.heap.size]? = some (.cells (rcA K N A B k S Q n T) 27 (0, 0))) := past_set xw5.out gw6; have fw6 : Hid (Below w.heap.size w w6) := low_past fw5.out fw5.out.size gw6)
    | (go_at_call 11; have y0 := hw4; refine (q4 _).mono ?_; rintro e w5 ⟨rfl, b5⟩; have xw5 : Hid (w5.heap[w.heap.size]? = some (.cells (rcA K N A B k S Q n T) 27 (0, 0))) := (b5.block _ (lt_of_block xw4.out)).trans xw4.out; have yw5 : Hid (w5.heap[w3.heap.size]? = some (.cells (rz) 27 (0, 0))) := (b5.block _ (lt_of_block hw4.out)).trans hw4.out; have fw5 : Hid (Below w.heap.size w w5) := bmm fw4.out fw4.out.size b5; have nw5 : Hid ((w5.alloc (.cells rz 27)).heap[w5.heap.size]? = some (.cells (rz) 27 (0, 0))) := heap_alloc_new w5 _)
    | (show wpList _ _ _ (⟨_, Op.store 27 _ _, _, _, _, _⟩ :: _) _ _; have y0 := nw3; refine store_row_g rfl 27 _ _ rfl w3.heap.size (rz) rfl rfl 27 rz nw3.out infoR9 rfl (by simp [Value.oneCell']) ?_; intro w4 hw4 gw4; have hw4 : Hid (w4.heap[w3.heap.size]? = some (.cells (rz) 27 (0, 0))) := hw4; have xw4 : Hid (w4.heap[w.heap.size]? = some (.cells (rcA K N A B k S Q n T) 27 (0, 0))) := past_set xw3.out gw4; have fw4 : Hid (Below w.heap.size w w4) := low_past fw3.out fw3.out.size gw4)
    | (go_at_call 10; have y0 := xw2; refine (q3 _).mono ?_; rintro e w3 ⟨rfl, b3⟩; have xw3 : Hid (w3.heap[w.heap.size]? = some (.cells (rcA K N A B k S Q n T) 27 (0, 0))) := (b3.block _ (lt_of_block xw2.out)).trans xw2.out; have fw3 : Hid (Below w.heap.size w w3) := bmm fw2.out fw2.out.size b3; have nw3 : Hid ((w3.alloc (.cells rz 27)).heap[w3.heap.size]? = some (.cells (rz) 27 (0, 0))) := heap_alloc_new w3 _)
    | (go_at_call 9; have y0 := xw1; refine (q2 _).mono ?_; rintro e w2 ⟨rfl, b2⟩; have xw2 : Hid (w2.heap[w.heap.size]? = some (.cells (rcA K N A B k S Q n T) 27 (0, 0))) := (b2.block _ (lt_of_block xw1.out)).trans xw1.out; have fw2 : Hid (Below w.heap.size w w2) := bmm fw1.out fw1.out.size b2)
    | (show wpList _ _ _ (⟨_, Op.load 27 _, _, _, _, _⟩ :: _) _ _; have y0 := xw1; refine load_row_g rfl 27 _ rfl (w.heap.size) rfl 27 _ (0, 0) _ xw1.out Tryz.underlying27 rfl infoR9 ?_)
    | (go_at_call 8; refine (q1 _).mono ?_; rintro e w1 ⟨rfl, b1⟩; have xw1 : Hid (w1.heap[w.heap.size]? = some (.cells (rcA K N A B k S Q n T) 27 (0, 0))) := (b1.block _ (lt_of_block xw0.out)).trans xw0.out; have fw1 : Hid (Below w.heap.size w w1) := bmm fw0.out fw0.out.size b1)
    | (show wpList _ _ _ (⟨_, Op.load 27 _, _, _, _, _⟩ :: _) _ _; have y0 := xw0; refine load_row_g rfl 27 _ rfl (w.heap.size) rfl 27 _ (0, 0) _ xw0.out Tryz.underlying27 rfl infoR9 ?_))
  go_ret
  exact ⟨rfl, bmm fw8.out fw8.out.size b9⟩
set_option maxHeartbeats 6400000 in
set_option maxRecDepth 100000 in
theorem recs_yes_some (w : World) (hT : Tab w) (K N A B k S Q n : Int) (T s : ByteArray) (X : ByteArray) (K1 N1 A1 B1 k1 S1 Q1 n1 : Int) (T1 : ByteArray)
    (q1 : ∀ w, Calls Tryz.prog 8 #[.agg (rcA K N A B k S Q n T)] w fun e w' => e = .returned (.tuple #[.string X, .int .i64 0]) ∧ Below w.heap.size w w') (q2 : ∀ w, Calls Tryz.prog 9 #[.agg (rcA K N A B k S Q n T)] w fun e w' => e = .returned (.tuple #[.string X, .int .i64 0]) ∧ Below w.heap.size w w') (q3 : ∀ w, Calls Tryz.prog 10 #[.string s] w fun e w' => e = .returned (.tuple #[.agg (rcA K1 N1 A1 B1 k1 S1 Q1 n1 T1), .int .i64 0]) ∧ Below w.heap.size w w') (q4 : ∀ w, Calls Tryz.prog 11 #[.string s] w fun e w' => e = .returned (.tuple #[.agg (rcA K1 N1 A1 B1 k1 S1 Q1 n1 T1), .int .i64 0]) ∧ Below w.heap.size w w') (q5 : ∀ w, Calls Tryz.prog 10 #[.string X] w fun e w' => e = .returned (.tuple #[.agg (rcA K N A B k S Q n T), .int .i64 0]) ∧ Below w.heap.size w w') :
    Calls Tryz.prog 3 #[.agg (rcA K N A B k S Q n T), .string s] w fun e w' => e = .returned (.bool true) ∧ Below w.heap.size w w' := by
  have xw0 : Hid ((w.alloc (.cells (rcA K N A B k S Q n T) 27)).heap[w.heap.size]? = some (.cells (rcA K N A B k S Q n T) 27 (0, 0))) := heap_alloc_new w _
  have fw0 : Hid (Below w.heap.size w (w.alloc (.cells (rcA K N A B k S Q n T) 27))) := (Below.refl _ w).alloc (Nat.le_refl _) _
  go_enter Tryz.func3, Tryz.ntmps3
  go_wp2_with (first
    | (go_at_call 12; have y0 := hw8; refine (awake_any _ (hT.low fw8.out hT.1)).mono ?_; rintro e w9 ⟨rfl, b9⟩)
    | (show wpList _ _ _ (⟨_, Op.load 27 _, _, _, _, _⟩ :: _) _ _; have y0 := hw8; refine load_row_g rfl 27 _ rfl (w7.heap.size) rfl 27 _ (0, 0) _ hw8.out Tryz.underlying27 rfl infoR9 ?_)
    | (show wpList _ _ _ (⟨_, Op.load 27 _, _, _, _, _⟩ :: _) _ _; have y0 := xw8; refine load_row_g rfl 27 _ rfl (w.heap.size) rfl 27 _ (0, 0) _ xw8.out Tryz.underlying27 rfl infoR9 ?_)
    | (show wpList _ _ _ (⟨_, Op.store 27 _ _, _, _, _, _⟩ :: _) _ _; have y0 := nw7; refine store_row_g rfl 27 _ _ rfl w7.heap.size (rcA K N A B k S Q n T) rfl rfl 27 rz nw7.out infoR9 rfl (by simp [Value.oneCell']) ?_; intro w8 hw8 gw8; have hw8 : Hid (w8.heap[w7.heap.size]? = some (.cells (rcA K N A B k S Q n T) 27 (0, 0))) := hw8; have xw8 : Hid (w8.heap[w.heap.size]? = some (.cells (rcA K N A B k S Q n T) 27 (0, 0))) := past_set xw7.out gw8; have fw8 : Hid (Below w.heap.size w w8) := low_past fw7.out fw7.out.size gw8)
    | (go_at_call 10; have y0 := hw6; refine (q5 _).mono ?_; rintro e w7 ⟨rfl, b7⟩; have xw7 : Hid (w7.heap[w.heap.size]? = some (.cells (rcA K N A B k S Q n T) 27 (0, 0))) := (b7.block _ (lt_of_block xw6.out)).trans xw6.out; have fw7 : Hid (Below w.heap.size w w7) := bmm fw6.out fw6.out.size b7; have nw7 : Hid ((w7.alloc (.cells rz 27)).heap[w7.heap.size]? = some (.cells (rz) 27 (0, 0))) := heap_alloc_new w7 _)
    | (show wpList _ _ _ (⟨_, Op.load 27 _, _, _, _, _⟩ :: _) _ _; have y0 := hw6; refine load_row_g rfl 27 _ rfl (w5.heap.size) rfl 27 _ (0, 0) _ hw6.out Tryz.underlying27 rfl infoR9 ?_)
    | (show wpList _ _ _ (⟨_, Op.load 27 _, _, _, _, _⟩ :: _) _ _; have y0 := yw6; refine load_row_g rfl 27 _ rfl (w3.heap.size) rfl 27 _ (0, 0) _ yw6.out Tryz.underlying27 rfl infoR9 ?_)
    | (show wpList _ _ _ (⟨_, Op.store 27 _ _, _, _, _, _⟩ :: _) _ _; have y0 := nw5; refine store_row_g rfl 27 _ _ rfl w5.heap.size (rcA K1 N1 A1 B1 k1 S1 Q1 n1 T1) rfl rfl 27 rz nw5.out infoR9 rfl (by simp [Value.oneCell']) ?_; intro w6 hw6 gw6; have hw6 : Hid (w6.heap[w5.heap.size]? = some (.cells (rcA K1 N1 A1 B1 k1 S1 Q1 n1 T1) 27 (0, 0))) := hw6; have yw6 : Hid (w6.heap[w3.heap.size]? = some (.cells (rcA K1 N1 A1 B1 k1 S1 Q1 n1 T1) 27 (0, 0))) := past_set yw5.out gw6; have xw6 : Hid (w6.heap[w.heap.size]? = some (.cells (rcA K N A B k S Q n T) 27 (0, 0))) := past_set xw5.out gw6; have fw6 : Hid (Below w.heap.size w w6) := low_past fw5.out fw5.out.size gw6)
    | (go_at_call 11; have y0 := hw4; refine (q4 _).mono ?_; rintro e w5 ⟨rfl, b5⟩; have xw5 : Hid (w5.heap[w.heap.size]? = some (.cells (rcA K N A B k S Q n T) 27 (0, 0))) := (b5.block _ (lt_of_block xw4.out)).trans xw4.out; have yw5 : Hid (w5.heap[w3.heap.size]? = some (.cells (rcA K1 N1 A1 B1 k1 S1 Q1 n1 T1) 27 (0, 0))) := (b5.block _ (lt_of_block hw4.out)).trans hw4.out; have fw5 : Hid (Below w.heap.size w w5) := bmm fw4.out fw4.out.size b5; have nw5 : Hid ((w5.alloc (.cells rz 27)).heap[w5.heap.size]? = some (.cells (rz) 27 (0, 0))) := heap_alloc_new w5 _)
    | (show wpList _ _ _ (⟨_, Op.store 27 _ _, _, _, _, _⟩ :: _) _ _; have y0 := nw3; refine store_row_g rfl 27 _ _ rfl w3.heap.size (rcA K1 N1 A1 B1 k1 S1 Q1 n1 T1) rfl rfl 27 rz nw3.out infoR9 rfl (by simp [Value.oneCell']) ?_; intro w4 hw4 gw4; have hw4 : Hid (w4.heap[w3.heap.size]? = some (.cells (rcA K1 N1 A1 B1 k1 S1 Q1 n1 T1) 27 (0, 0))) := hw4; have xw4 : Hid (w4.heap[w.heap.size]? = some (.cells (rcA K N A B k S Q n T) 27 (0, 0))) := past_set xw3.out gw4; have fw4 : Hid (Below w.heap.size w w4) := low_past fw3.out fw3.out.size gw4)
    | (go_at_call 10; have y0 := xw2; refine (q3 _).mono ?_; rintro e w3 ⟨rfl, b3⟩; have xw3 : Hid (w3.heap[w.heap.size]? = some (.cells (rcA K N A B k S Q n T) 27 (0, 0))) := (b3.block _ (lt_of_block xw2.out)).trans xw2.out; have fw3 : Hid (Below w.heap.size w w3) := bmm fw2.out fw2.out.size b3; have nw3 : Hid ((w3.alloc (.cells rz 27)).heap[w3.heap.size]? = some (.cells (rz) 27 (0, 0))) := heap_alloc_new w3 _)
    | (go_at_call 9; have y0 := xw1; refine (q2 _).mono ?_; rintro e w2 ⟨rfl, b2⟩; have xw2 : Hid (w2.heap[w.heap.size]? = some (.cells (rcA K N A B k S Q n T) 27 (0, 0))) := (b2.block _ (lt_of_block xw1.out)).trans xw1.out; have fw2 : Hid (Below w.heap.size w w2) := bmm fw1.out fw1.out.size b2)
    | (show wpList _ _ _ (⟨_, Op.load 27 _, _, _, _, _⟩ :: _) _ _; have y0 := xw1; refine load_row_g rfl 27 _ rfl (w.heap.size) rfl 27 _ (0, 0) _ xw1.out Tryz.underlying27 rfl infoR9 ?_)
    | (go_at_call 8; refine (q1 _).mono ?_; rintro e w1 ⟨rfl, b1⟩; have xw1 : Hid (w1.heap[w.heap.size]? = some (.cells (rcA K N A B k S Q n T) 27 (0, 0))) := (b1.block _ (lt_of_block xw0.out)).trans xw0.out; have fw1 : Hid (Below w.heap.size w w1) := bmm fw0.out fw0.out.size b1)
    | (show wpList _ _ _ (⟨_, Op.load 27 _, _, _, _, _⟩ :: _) _ _; have y0 := xw0; refine load_row_g rfl 27 _ rfl (w.heap.size) rfl 27 _ (0, 0) _ xw0.out Tryz.underlying27 rfl infoR9 ?_))
  go_ret
  exact ⟨rfl, bmm fw8.out fw8.out.size b9⟩
theorem recs_walk (w : World) (hT : Tab w) (K N A B k S Q n : Int) (T s : ByteArray) (hs : s.size ≤ 9223372036854775807) :
    Calls Tryz.prog 3 #[.agg (rcA K N A B k S Q n T), .string s] w fun e w' => e = .returned (.bool true) ∧ Below w.heap.size w w' := by
  have q1 := wencR_any K N A B k S Q n T
  have q2 := rencR_any K N A B k S Q n T
  have q3 := fun w => wdecR_any s w hs
  have q4 := fun w => rdecR_any s w hs
  cases hm : mayR ⟨K, N, ⟨A, B, ⟨k, S, Q, T, n⟩⟩⟩ with
  | false =>
    rw [encRT_no hm] at q1 q2
    cases hd : decR s.data.toList with
    | none =>
      rw [hd] at q3 q4
      exact recs_no_none w hT K N A B k S Q n T s q1 q2 q3 q4
    | some r =>
      rw [hd] at q3 q4
      exact recs_no_some w hT K N A B k S Q n T s r.kind r.n r.en.slot r.en.ballot r.en.cmd.kind r.en.cmd.session r.en.cmd.seq r.en.cmd.n r.en.cmd.name q1 q2 q3 q4
  | true =>
    rw [encRT_yes hm] at q1 q2
    have hX : (⟨(encR ⟨K, N, ⟨A, B, ⟨k, S, Q, T, n⟩⟩⟩).toArray⟩ : ByteArray).size ≤ 9223372036854775807 := by
      have := (encR_len hm).2
      rw [Lib.size_eq]
      simp only at this ⊢
      omega
    have q5 := fun w => wdecR_any ⟨(encR ⟨K, N, ⟨A, B, ⟨k, S, Q, T, n⟩⟩⟩).toArray⟩ w hX
    rw [show decR (⟨(encR ⟨K, N, ⟨A, B, ⟨k, S, Q, T, n⟩⟩⟩).toArray⟩ : ByteArray).data.toList = some ⟨K, N, ⟨A, B, ⟨k, S, Q, T, n⟩⟩⟩ from decR_enc hm] at q5
    cases hd : decR s.data.toList with
    | none =>
      rw [hd] at q3 q4
      exact recs_yes_none w hT K N A B k S Q n T s _ q1 q2 q3 q4 q5
    | some r =>
      rw [hd] at q3 q4
      exact recs_yes_some w hT K N A B k S Q n T s _ r.kind r.n r.en.slot r.en.ballot r.en.cmd.kind r.en.cmd.session r.en.cmd.seq r.en.cmd.n r.en.cmd.name q1 q2 q3 q4 q5
end Go.Proofs.YtdhlbldmdeepiaaGreatDoor
