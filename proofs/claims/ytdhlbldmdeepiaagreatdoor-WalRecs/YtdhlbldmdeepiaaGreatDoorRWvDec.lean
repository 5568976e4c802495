/-
  Bytes as a record (package wal). The condition: the text is no longer than a text may be.
-/
import Derived.Test.YtdhlbldmdeepiaaGreatDoorRWvSmall
import Derived.Test.YtdhlbldmdeepiaaGreatDoorRWvBallot
import Derived.Test.YtdhlbldmdeepiaaGreatDoorRWvPlain
import Derived.Test.YtdhlbldmdeepiaaGreatDoorRDDecE
import Derived.Test.YtdhlbldmdeepiaaGreatDoorRGStore
namespace Go.Proofs.YtdhlbldmdeepiaaGreatDoor
open Go.RowKit

theorem infoR9 : (Tryz.prog.info? 27).map (·.size) = some 9 := by kernel_rfl
/-- A record and a number as results. -/
theorem results_rec {fn : Func} (h : fn.results = #[.cell 2 27, .tmp 3]) (tmps : Array Value) (w : World) {g : Nat} {K N A B k S Q n : Int} {T : ByteArray} (hp : tmps.getD 2 undef = .pointer (some ⟨g, 0, none⟩)) (hg : w.heap[g]? = some (.cells (rcA K N A B k S Q n T) 27 (0, 0))) :
    (results fn tmps).run Tryz.prog w = .ok (.tuple #[.agg (rcA K N A B k S Q n T), tmps.getD 3 undef]) w := by
  have hp' : tmps[2]?.getD undef = .pointer (some ⟨g, 0, none⟩) := by simpa using hp
  simp [results, h, hp', asAddr, run_loadVar_row w g 27 27 _ (0, 0) _ hg Tryz.underlying27 rfl infoR9]
abbrev rz : Array Value := #[.int .i64 0, .int .i64 0, .int .i64 0, .int .i64 0, .int .i64 0, .int .i64 0, .int .i64 0, .string ⟨#[]⟩, .int .i64 0]
abbrev rcV (r : Rc) : Array Value := rcA r.kind r.n r.en.slot r.en.ballot r.en.cmd.kind r.en.cmd.session r.en.cmd.seq r.en.cmd.n r.en.cmd.name
/-- A record or none, as two results. -/
def recV : Option Rc → Value
  | some r => .tuple #[.agg (rcV r), .int .i64 0]
  | none => .tuple #[.agg rz, .int .i64 2]
theorem two_new (w : World) (o1 o2 : Obj) : ((w.alloc o1).alloc o2).heap[w.heap.size]? = some o1 ∧ ((w.alloc o1).alloc o2).heap[w.heap.size + 1]? = some o2 := by
  refine ⟨(heap_alloc_old (w.alloc o1) o2 (by simp)).trans (heap_alloc_new w o1), ?_⟩
  have := heap_alloc_new (w.alloc o1) o2
  simpa using this
theorem low_set {w w1 w2 : World} {B : Nat} (b : Below B w w1) (hB : B ≤ w.heap.size) (g : w1.grownBy w2 (some B)) : Below B w w2 :=
  b.grown g (Nat.le_trans hB b.size) (fun k hk => by cases hk; exact Nat.le_refl _)
set_option maxHeartbeats 3200000 in
set_option maxRecDepth 100000 in
theorem decodeP_len (s : ByteArray) (w : World) (h : ¬ s.size = 8) :
    Calls Tryz.prog 34 #[.string s] w fun e w' => e = .returned (recV none) ∧ Below w.heap.size w w' := by
  have hd : ((s.size : Int) != 8) = true := by simp; omega
  go_enter Tryz.func34, Tryz.ntmps34
  go_wp2
  refine bodyPost_ret (results_rec Tryz.results34 _ _ rfl (heap_alloc_new w _)) rfl ?_
  exact ⟨rfl, (Below.refl _ w).alloc (Nat.le_refl _) _⟩
set_option maxHeartbeats 3200000 in
set_option maxRecDepth 100000 in
theorem decodeP_8 (s : ByteArray) (w : World) (h : s.size = 8) :
    Calls Tryz.prog 34 #[.string s] w fun e w' => e = .returned (recV (if 1 ≤ num8 s.data.toList ∧ num8 s.data.toList ≤ 1099511627776 then some ⟨1, (num8 s.data.toList : Int), En.zero⟩ else none)) ∧ Below w.heap.size w w' := by
  obtain ⟨v, hb, qb⟩ := ballot_any s h
  have qp := isPromise_any 1 v 0 0 0 0 0 0 ⟨#[]⟩
  rw [show promB ⟨1, v, ⟨0, 0, ⟨0, 0, 0, ⟨#[]⟩, 0⟩⟩⟩ = (decide (1 ≤ v) && decide (v ≤ 1099511627776)) from promB_zero v] at qp
  have hd : ((s.size : Int) != 8) = false := by simp; omega
  by_cases hp : 1 ≤ v ∧ v ≤ 1099511627776
  · have hv : v = (num8 s.data.toList : Int) := by
      rcases hb with hb | hb
      · exact hb.2
      · omega
    rw [if_pos (by omega), ← hv]
    show Calls Tryz.prog 34 #[.string s] w fun e w' => e = .returned (.tuple #[.agg (rcA 1 v 0 0 0 0 0 0 ⟨#[]⟩), .int .i64 0]) ∧ _
    rw [decide_eq_true hp.1, decide_eq_true hp.2, Bool.and_self] at qp
    clear hv hb
    go_enter Tryz.func34, Tryz.ntmps34
    go_wp2_with (first
      | (show wpList _ _ _ (⟨_, Op.store 27 _ _, _, _, _, _⟩ :: _) _ _; have y0 := hR; refine store_row_g rfl 27 _ _ rfl w.heap.size (rcA 1 v 0 0 0 0 0 0 ⟨#[]⟩) rfl rfl 27 rz hR infoR9 rfl (by simp [Value.oneCell']) ?_; intro w3 h3 g3)
      | (show wpList _ _ _ (⟨_, Op.load 27 _, _, _, _, _⟩ :: _) _ _; have y0 := hV; refine load_row_g rfl 27 _ rfl (w.heap.size + 1) rfl 27 _ (0, 0) _ hV Tryz.underlying27 rfl infoR9 ?_)
      | (go_at_call 29; refine (qp _).mono ?_; rintro e w2 ⟨rfl, b2⟩; have hR := (b2.block w.heap.size (by simp; omega)).trans (two_new w (.cells rz 27) (.cells (rcA 1 v 0 0 0 0 0 0 ⟨#[]⟩) 27)).1; have hV := (b2.block (w.heap.size + 1) (by simp)).trans (two_new w (.cells rz 27) (.cells (rcA 1 v 0 0 0 0 0 0 ⟨#[]⟩) 27)).2)
      | (go_at_call 76; refine (qb _).mono ?_; rintro e w1 ⟨rfl, rfl⟩))
    refine bodyPost_ret (results_rec Tryz.results34 _ _ rfl h3) rfl ?_
    have f0 : Below w.heap.size w ((w.alloc (.cells rz 27)).alloc (.cells (rcA 1 v 0 0 0 0 0 0 ⟨#[]⟩) 27)) := ((Below.refl _ w).alloc (Nat.le_refl _) _).alloc (by simp) _
    exact ⟨rfl, low_set (bmm f0 f0.size b2) (Nat.le_refl _) g3⟩
  · rw [if_neg (by rcases hb with hb | hb <;> omega)]
    show Calls Tryz.prog 34 #[.string s] w fun e w' => e = .returned (.tuple #[.agg rz, .int .i64 2]) ∧ _
    rw [show (decide (1 ≤ v) && decide (v ≤ 1099511627776)) = false by simp; omega] at qp
    clear hb
    go_enter Tryz.func34, Tryz.ntmps34
    go_wp2_with (first
      | (show wpList _ _ _ (⟨_, Op.store 27 _ _, _, _, _, _⟩ :: _) _ _; have y0 := hR; refine store_row_g rfl 27 _ _ rfl w.heap.size (rz) rfl rfl 27 rz hR infoR9 rfl (by simp [Value.oneCell']) ?_; intro w3 h3 g3)
      | (go_at_call 29; refine (qp _).mono ?_; rintro e w2 ⟨rfl, b2⟩; have hR := (b2.block w.heap.size (by simp; omega)).trans (two_new w (.cells rz 27) (.cells (rcA 1 v 0 0 0 0 0 0 ⟨#[]⟩) 27)).1; have hV := (b2.block (w.heap.size + 1) (by simp)).trans (two_new w (.cells rz 27) (.cells (rcA 1 v 0 0 0 0 0 0 ⟨#[]⟩) 27)).2)
      | (go_at_call 76; refine (qb _).mono ?_; rintro e w1 ⟨rfl, rfl⟩))
    refine bodyPost_ret (results_rec Tryz.results34 _ _ rfl h3) rfl ?_
    have f0 : Below w.heap.size w ((w.alloc (.cells rz 27)).alloc (.cells (rcA 1 v 0 0 0 0 0 0 ⟨#[]⟩) 27)) := ((Below.refl _ w).alloc (Nat.le_refl _) _).alloc (by simp) _
    exact ⟨rfl, low_set (bmm f0 f0.size b2) (Nat.le_refl _) g3⟩
theorem decodeP_any (s : ByteArray) (w : World) :
    Calls Tryz.prog 34 #[.string s] w fun e w' => e = .returned (recV (decR (1 :: s.data.toList))) ∧ Below w.heap.size w w' := by
  rw [decR_one]
  by_cases h : s.size = 8
  · have r := decodeP_8 s w h
    have hl : s.data.toList.length = 8 := by rw [← Lib.size_eq]; exact h
    by_cases hc : 1 ≤ num8 s.data.toList ∧ num8 s.data.toList ≤ 1099511627776
    · rw [if_pos ⟨hl, hc⟩]
      rw [if_pos hc] at r
      exact r
    · rw [if_neg (fun x => hc x.2)]
      rw [if_neg hc] at r
      exact r
  · rw [if_neg (fun x => h (by rw [Lib.size_eq]; exact x.1))]
    exact decodeP_len s w h
set_option maxHeartbeats 3200000 in
set_option maxRecDepth 100000 in
theorem decodeA_of (s : ByteArray) (w : World) (A B k S Q n z : Int) (T : ByteArray) (q : ∀ w, Calls Tryz.prog 77 #[.string s] w fun e w' => e = .returned (.tuple #[.agg #[.int .i64 A, .int .i64 B, .int .i64 k, .int .i64 S, .int .i64 Q, .string T, .int .i64 n], .int .i64 z]) ∧ Below w.heap.size w w') :
    Calls Tryz.prog 35 #[.string s] w fun e w' => e = .returned (recV (if z = 0 ∧ 1 ≤ B then some ⟨2, 0, ⟨A, B, ⟨k, S, Q, T, n⟩⟩⟩ else none)) ∧ Below w.heap.size w w' := by
  by_cases hz : z = 0
  · subst hz
    by_cases hB : 1 ≤ B
    · rw [if_pos ⟨rfl, hB⟩]
      show Calls Tryz.prog 35 #[.string s] w fun e w' => e = .returned (.tuple #[.agg (rcA 2 0 A B k S Q n T), .int .i64 0]) ∧ _
      have kB : (B < 1) = False := eq_false (by omega)
      go_enter Tryz.func35, Tryz.ntmps35
      go_wp2_with (first
        | (show wpList _ _ _ (⟨_, Op.store 27 _ _, _, _, _, _⟩ :: _) _ _; have y0 := hR; refine store_row_g rfl 27 _ _ rfl w.heap.size (rcA 2 0 A B k S Q n T) rfl rfl 27 rz hR infoR9 rfl (by simp [Value.oneCell']) ?_; intro w3 h3 g3)
        | (go_at_call 77; refine (q _).mono ?_; rintro e w1 ⟨rfl, b1⟩; have hR0 : w1.heap[w.heap.size]? = some (.cells rz 27 (0, 0)) := (b1.block w.heap.size (by simp)).trans (heap_alloc_new w _); have hR := (heap_alloc_old w1 (.cells #[.int .i64 A, .int .i64 B, .int .i64 k, .int .i64 S, .int .i64 Q, .string T, .int .i64 n] 25) (lt_of_block hR0)).trans hR0))
      refine bodyPost_ret (results_rec Tryz.results35 _ _ rfl h3) rfl ?_
      have f0 : Below w.heap.size w (w.alloc (.cells rz 27)) := (Below.refl _ w).alloc (Nat.le_refl _) _
      have f1 := bmm f0 f0.size b1
      exact ⟨rfl, low_set (f1.alloc f1.size _) (Nat.le_refl _) g3⟩
    · rw [if_neg (fun x => hB x.2)]
      show Calls Tryz.prog 35 #[.string s] w fun e w' => e = .returned (.tuple #[.agg (rz), .int .i64 2]) ∧ _
      have kB : (B < 1) = True := eq_true (by omega)
      go_enter Tryz.func35, Tryz.ntmps35
      go_wp2_with (first
        | (show wpList _ _ _ (⟨_, Op.store 27 _ _, _, _, _, _⟩ :: _) _ _; have y0 := hR; refine store_row_g rfl 27 _ _ rfl w.heap.size (rz) rfl rfl 27 rz hR infoR9 rfl (by simp [Value.oneCell']) ?_; intro w3 h3 g3)
        | (go_at_call 77; refine (q _).mono ?_; rintro e w1 ⟨rfl, b1⟩; have hR0 : w1.heap[w.heap.size]? = some (.cells rz 27 (0, 0)) := (b1.block w.heap.size (by simp)).trans (heap_alloc_new w _); have hR := (heap_alloc_old w1 (.cells #[.int .i64 A, .int .i64 B, .int .i64 k, .int .i64 S, .int .i64 Q, .string T, .int .i64 n] 25) (lt_of_block hR0)).trans hR0))
      refine bodyPost_ret (results_rec Tryz.results35 _ _ rfl h3) rfl ?_
      have f0 : Below w.heap.size w (w.alloc (.cells rz 27)) := (Below.refl _ w).alloc (Nat.le_refl _) _
      have f1 := bmm f0 f0.size b1
      exact ⟨rfl, low_set (f1.alloc f1.size _) (Nat.le_refl _) g3⟩
  · rw [if_neg (fun x => hz x.1)]
    show Calls Tryz.prog 35 #[.string s] w fun e w' => e = .returned (.tuple #[.agg (rz), .int .i64 2]) ∧ _
    have kz : (z != 0) = true := by simpa using hz
    go_enter Tryz.func35, Tryz.ntmps35
    go_wp2_with (first
      | (show wpList _ _ _ (⟨_, Op.store 27 _ _, _, _, _, _⟩ :: _) _ _; have y0 := hR; refine store_row_g rfl 27 _ _ rfl w.heap.size (rz) rfl rfl 27 rz hR infoR9 rfl (by simp [Value.oneCell']) ?_; intro w3 h3 g3)
      | (go_at_call 77; refine (q _).mono ?_; rintro e w1 ⟨rfl, b1⟩; have hR0 : w1.heap[w.heap.size]? = some (.cells rz 27 (0, 0)) := (b1.block w.heap.size (by simp)).trans (heap_alloc_new w _); have hR := (heap_alloc_old w1 (.cells #[.int .i64 A, .int .i64 B, .int .i64 k, .int .i64 S, .int .i64 Q, .string T, .int .i64 n] 25) (lt_of_block hR0)).trans hR0))
    refine bodyPost_ret (results_rec Tryz.results35 _ _ rfl h3) rfl ?_
    have f0 : Below w.heap.size w (w.alloc (.cells rz 27)) := (Below.refl _ w).alloc (Nat.le_refl _) _
    have f1 := bmm f0 f0.size b1
    exact ⟨rfl, low_set (f1.alloc f1.size _) (Nat.le_refl _) g3⟩
theorem decodeA_any (s : ByteArray) (w : World) (hs : s.size ≤ 9223372036854775807) :
    Calls Tryz.prog 35 #[.string s] w fun e w' => e = .returned (recV (decR (2 :: s.data.toList))) ∧ Below w.heap.size w w' := by
  rw [decR_two, show (⟨s.data.toList.toArray⟩ : ByteArray) = s by simp]
  have q := decodeE_any s hs
  generalize decET s = D at q ⊢
  obtain ⟨⟨A, B, ⟨k, S, Q, T, n⟩⟩, z⟩ := D
  exact decodeA_of s w A B k S Q n z T q
theorem tail_one (s : ByteArray) : (s.extract 1 s.size).data.toList = s.data.toList.drop 1 := by
  have hl := Lib.size_eq s
  rw [Lib.extract_data, List.take_of_length_le (by rw [List.length_drop]; omega)]
theorem cons_one (s : ByteArray) (h : 0 < s.size) : s.data.toList = s[0] :: s.data.toList.drop 1 := by
  have hl : 0 < s.data.toList.length := by rw [← Lib.size_eq]; exact h
  have := List.drop_eq_getElem_cons hl
  rw [List.drop_zero] at this
  exact this
set_option maxHeartbeats 3200000 in
set_option maxRecDepth 100000 in
theorem wdecR_any (s : ByteArray) (w : World) (hs : s.size ≤ 9223372036854775807) :
    Calls Tryz.prog 10 #[.string s] w fun e w' => e = .returned (recV (decR s.data.toList)) ∧ Below w.heap.size w w' := by
  by_cases h0 : s.size = 0
  · obtain rfl := empty_of_size h0
    rw [show decR ((⟨#[]⟩ : ByteArray).data.toList) = none from decR_nil]
    show Calls Tryz.prog 10 #[.string ⟨#[]⟩] w fun e w' => e = .returned (.tuple #[.agg rz, .int .i64 2]) ∧ _
    go_enter Tryz.func10, Tryz.ntmps10
    go_wp2
    refine bodyPost_ret (results_rec Tryz.results10 _ _ rfl (heap_alloc_new w _)) rfl ?_
    exact ⟨rfl, (Below.refl _ w).alloc (Nat.le_refl _) _⟩
  have k0 : 0 < s.size := by omega
  have hne : ¬ s = ⟨#[]⟩ := by
    intro e
    rw [e] at h0
    exact h0 rfl
  have hte : s.toList.isEmpty = false := by
    rcases name_kinds s with e | ⟨e, _⟩
    · exact absurd e hne
    · cases hl : s.toList with
      | nil => exact absurd hl e
      | cons a b => rfl
  have hcons := cons_one s k0
  have kx : (1 : Int) ≤ (s.size : Int) := by omega
  obtain ⟨c, hc⟩ : ∃ c, s[0] = c := ⟨_, rfl⟩
  obtain ⟨d, hd⟩ : ∃ d, s[0].toNat = d := ⟨_, rfl⟩
  have hdc : c.toNat = d := by rw [← hd, hc]
  rw [hc] at hcons
  by_cases h1 : d = 1
  · have ec : c = 1 := UInt8.toNat_inj.mp (hdc.trans h1)
    have q := fun w => decodeP_any (s.extract 1 s.size) w
    rw [tail_one, ← ec, ← hcons] at q
    subst h1
    clear ec hdc hc h0 hne
    cases ho : decR s.data.toList with
    | none =>
      have q' : ∀ w, Calls Tryz.prog 34 #[.string (s.extract 1 s.size)] w fun e w' => e = .returned (.tuple #[.agg (rz), .int .i64 2]) ∧ Below w.heap.size w w' := fun w => by
        have := q w
        rw [ho] at this
        exact this
      show Calls Tryz.prog 10 #[.string s] w fun e w' => e = .returned (.tuple #[.agg (rz), .int .i64 2]) ∧ _
      clear q ho hcons
      go_enter Tryz.func10, Tryz.ntmps10
      go_wp2_with (first
        | (show wpList _ _ _ (⟨_, Op.store 27 _ _, _, _, _, _⟩ :: _) _ _; have y0 := hR; refine store_row_g rfl 27 _ _ rfl w.heap.size (rz) rfl rfl 27 rz hR infoR9 rfl (by simp [Value.oneCell']) ?_; intro w3 h3 g3)
        | (go_at_call 34; refine (q' _).mono ?_; rintro e w1 ⟨rfl, b1⟩; have hR : w1.heap[w.heap.size]? = some (.cells rz 27 (0, 0)) := (b1.block w.heap.size (by simp)).trans (heap_alloc_new w _)))
      refine bodyPost_ret (results_rec Tryz.results10 _ _ rfl h3) rfl ?_
      have f0 : Below w.heap.size w (w.alloc (.cells rz 27)) := (Below.refl _ w).alloc (Nat.le_refl _) _
      exact ⟨rfl, low_set (bmm f0 f0.size b1) (Nat.le_refl _) g3⟩
    | some r =>
      have q' : ∀ w, Calls Tryz.prog 34 #[.string (s.extract 1 s.size)] w fun e w' => e = .returned (.tuple #[.agg (rcV r), .int .i64 0]) ∧ Below w.heap.size w w' := fun w => by
        have := q w
        rw [ho] at this
        exact this
      show Calls Tryz.prog 10 #[.string s] w fun e w' => e = .returned (.tuple #[.agg (rcV r), .int .i64 0]) ∧ _
      clear q ho hcons
      go_enter Tryz.func10, Tryz.ntmps10
      go_wp2_with (first
        | (show wpList _ _ _ (⟨_, Op.store 27 _ _, _, _, _, _⟩ :: _) _ _; have y0 := hR; refine store_row_g rfl 27 _ _ rfl w.heap.size (rcV r) rfl rfl 27 rz hR infoR9 rfl (by simp [Value.oneCell']) ?_; intro w3 h3 g3)
        | (go_at_call 34; refine (q' _).mono ?_; rintro e w1 ⟨rfl, b1⟩; have hR : w1.heap[w.heap.size]? = some (.cells rz 27 (0, 0)) := (b1.block w.heap.size (by simp)).trans (heap_alloc_new w _)))
      refine bodyPost_ret (results_rec Tryz.results10 _ _ rfl h3) rfl ?_
      have f0 : Below w.heap.size w (w.alloc (.cells rz 27)) := (Below.refl _ w).alloc (Nat.le_refl _) _
      exact ⟨rfl, low_set (bmm f0 f0.size b1) (Nat.le_refl _) g3⟩
  by_cases h2 : d = 2
  · have ec : c = 2 := UInt8.toNat_inj.mp (hdc.trans h2)
    have q := fun w => decodeA_any (s.extract 1 s.size) w (by rw [Lib.size_eq, tail_one, List.length_drop, ← Lib.size_eq]; omega)
    rw [tail_one, ← ec, ← hcons] at q
    subst h2
    clear ec hdc hc h0 hne
    cases ho : decR s.data.toList with
    | none =>
      have q' : ∀ w, Calls Tryz.prog 35 #[.string (s.extract 1 s.size)] w fun e w' => e = .returned (.tuple #[.agg (rz), .int .i64 2]) ∧ Below w.heap.size w w' := fun w => by
        have := q w
        rw [ho] at this
        exact this
      show Calls Tryz.prog 10 #[.string s] w fun e w' => e = .returned (.tuple #[.agg (rz), .int .i64 2]) ∧ _
      clear q ho hcons
      go_enter Tryz.func10, Tryz.ntmps10
      go_wp2_with (first
        | (show wpList _ _ _ (⟨_, Op.store 27 _ _, _, _, _, _⟩ :: _) _ _; have y0 := hR; refine store_row_g rfl 27 _ _ rfl w.heap.size (rz) rfl rfl 27 rz hR infoR9 rfl (by simp [Value.oneCell']) ?_; intro w3 h3 g3)
        | (go_at_call 35; refine (q' _).mono ?_; rintro e w1 ⟨rfl, b1⟩; have hR : w1.heap[w.heap.size]? = some (.cells rz 27 (0, 0)) := (b1.block w.heap.size (by simp)).trans (heap_alloc_new w _)))
      refine bodyPost_ret (results_rec Tryz.results10 _ _ rfl h3) rfl ?_
      have f0 : Below w.heap.size w (w.alloc (.cells rz 27)) := (Below.refl _ w).alloc (Nat.le_refl _) _
      exact ⟨rfl, low_set (bmm f0 f0.size b1) (Nat.le_refl _) g3⟩
    | some r =>
      have q' : ∀ w, Calls Tryz.prog 35 #[.string (s.extract 1 s.size)] w fun e w' => e = .returned (.tuple #[.agg (rcV r), .int .i64 0]) ∧ Below w.heap.size w w' := fun w => by
        have := q w
        rw [ho] at this
        exact this
      show Calls Tryz.prog 10 #[.string s] w fun e w' => e = .returned (.tuple #[.agg (rcV r), .int .i64 0]) ∧ _
      clear q ho hcons
      go_enter Tryz.func10, Tryz.ntmps10
      go_wp2_with (first
        | (show wpList _ _ _ (⟨_, Op.store 27 _ _, _, _, _, _⟩ :: _) _ _; have y0 := hR; refine store_row_g rfl 27 _ _ rfl w.heap.size (rcV r) rfl rfl 27 rz hR infoR9 rfl (by simp [Value.oneCell']) ?_; intro w3 h3 g3)
        | (go_at_call 35; refine (q' _).mono ?_; rintro e w1 ⟨rfl, b1⟩; have hR : w1.heap[w.heap.size]? = some (.cells rz 27 (0, 0)) := (b1.block w.heap.size (by simp)).trans (heap_alloc_new w _)))
      refine bodyPost_ret (results_rec Tryz.results10 _ _ rfl h3) rfl ?_
      have f0 : Below w.heap.size w (w.alloc (.cells rz 27)) := (Below.refl _ w).alloc (Nat.le_refl _) _
      exact ⟨rfl, low_set (bmm f0 f0.size b1) (Nat.le_refl _) g3⟩
  have n1 : c ≠ 1 := fun e => h1 (by rw [← hdc, e]; rfl)
  have n2 : c ≠ 2 := fun e => h2 (by rw [← hdc, e]; rfl)
  rw [hcons, decR_other n1 n2]
  show Calls Tryz.prog 10 #[.string s] w fun e w' => e = .returned (.tuple #[.agg rz, .int .i64 2]) ∧ _
  clear hcons hdc hc n1 n2 h0 hne
  have k1 : ((d : Int) == 1) = false := by simpa using (by omega : ¬ (d : Int) = 1)
  have k2 : ((d : Int) == 2) = false := by simpa using (by omega : ¬ (d : Int) = 2)
  go_enter Tryz.func10, Tryz.ntmps10
  go_wp2
  refine bodyPost_ret (results_rec Tryz.results10 _ _ rfl (heap_alloc_new w _)) rfl ?_
  exact ⟨rfl, (Below.refl _ w).alloc (Nat.le_refl _) _⟩
end Go.Proofs.YtdhlbldmdeepiaaGreatDoor
