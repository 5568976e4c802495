/-
  Parts of the proof, laid together: MxRef, GBox, MxMem, MxDrop, MxPut, MxLock, MxUnlock, RwMem, RwLock, RwUnlock, LgRef, LgOnce. The conditions stand at each part.
-/
import Derived.Laws.AppendOwnNone
import Derived.Test.YthhlglbohibekaaSPackA
import Derived.Test.YthhlglbohibekaaSPackB
namespace Go.Proofs.Ythhlglbohibekaa
open Go.RowKit

theorem undrB2 {w w' : World} {B : Nat} (k : Below B w w') : Below B w w'.drew := ⟨k.os, k.tape, k.output, k.size, k.block⟩
def hasB (l : List Int) (n : Int) : Bool := decide (n ∈ l)
set_option maxHeartbeats 3200000 in
set_option maxRecDepth 100000 in
theorem has_any (w : World) (v : Value) (l : List Int) (n : Int) (hv : IntsAt w v l) : Calls Try.prog 51 #[v, .int .i64 n] w fun e w' => e = .returned (.bool (hasB l n)) ∧ w' = w := by
  obtain ⟨a, cap, rfl, _, hx⟩ := hv.ex
  have HX : Hid _ := hx
  have hmx : l.length ≤ 9223372036854775807 := hv.mx
  clear hx hv
  go_enter Try.func51, Try.ntmps51
  go_wp2
  go_loop [5] (fun i => ∃ k : Nat, k ≤ l.length ∧ i = .int .i64 k ∧ Hid (∀ j (hj : j < l.length), j < k → l[j] ≠ n)) (fun i => l.length - (intOf i).toNat)
  case atStart => exact ⟨0, Nat.zero_le _, rfl, fun j hj h0 => absurd h0 (Nat.not_lt_zero _)⟩
  case round =>
    obtain ⟨k, hk, rfl, HN⟩ := hrel
    by_cases hkl : k < l.length
    · rcases HX.out with h0 | ⟨bk, off, rfl, hbk, hxx⟩
      · omega
      have z0 := hxx k hkl
      have q0 : decide ((k : Int) < (l.length : Int)) = true := decide_eq_true (by omega)
      clear hxx
      by_cases he : l[k] = n
      · have HC : Hid (hasB l n = true) := by
          show decide _ = _
          rw [decide_eq_true_eq, ← he]
          exact List.getElem_mem hkl
        have q1 : (l[k] == n) = true := beq_iff_eq.2 he
        clear he HN
        generalize l[k] = X at *
        go_wp2
        go_ret
        exact ⟨by rw [HC.out]; rfl, rfl⟩
      · have q1 : (l[k] == n) = false := beq_eq_false_iff_ne.2 he
        have HN2 : Hid (∀ j (hj : j < l.length), j < k + 1 → l[j] ≠ n) := fun j hj h0 => by
          by_cases e : j = k
          · subst e
            exact he
          · exact HN.out j hj (by omega)
        clear he HN
        generalize l[k] = X at *
        go_wp2
        go_round
        case rel => exact ⟨k + 1, hkl, by go_num, HN2⟩
        case measure => simp [intOf]; omega
    · have q0 : decide ((k : Int) < (l.length : Int)) = false := decide_eq_false (by omega)
      have HC : Hid (hasB l n = false) := by
        show decide _ = _
        rw [decide_eq_false_iff_not]
        intro hm
        obtain ⟨j, hj, e⟩ := List.getElem_of_mem hm
        exact HN.out j hj (by omega) e
      clear HN
      go_wp2
      go_ret
      exact ⟨by rw [HC.out]; rfl, rfl⟩
def sameB (l m : List Int) : Bool := decide (l = m)
set_option maxHeartbeats 3200000 in
set_option maxRecDepth 100000 in
theorem ints_same (w : World) (v u : Value) (l m : List Int) (hv : IntsAt w v l) (hu : IntsAt w u m) : Calls Try.prog 15 #[v, u] w fun e w' => e = .returned (.bool (sameB l m)) ∧ Below w.heap.size w w' := by
  obtain ⟨a, cap, rfl, _, hx⟩ := hv.ex
  obtain ⟨b, cup, rfl, _, hy⟩ := hu.ex
  have HX : Hid _ := hx
  have HY : Hid _ := hy
  have hmx : l.length ≤ 9223372036854775807 := hv.mx
  clear hx hv hy hu
  by_cases hL : l.length = m.length
  · have q0 : ((l.length : Int) == (m.length : Int)) = true := by rw [beq_iff_eq]; omega
    have HL : Hid (l.length = m.length) := hL
    clear hL
    go_enter Try.func15, Try.ntmps15
    go_wp2
    go_loopw [5] (fun i wr => ∃ k : Nat, k ≤ l.length ∧ i = .int .i64 k ∧ Hid (∀ j (hj : j < l.length) (hj' : j < m.length), j < k → l[j] = m[j]) ∧ Below w.heap.size w wr) (fun i _ => l.length - (intOf i).toNat)
    case atStart => exact ⟨0, Nat.zero_le _, rfl, fun j hj _ h0 => absurd h0 (Nat.not_lt_zero _), Below.refl _ _⟩
    case round =>
      obtain ⟨k, hk, rfl, HN, bel⟩ := hrel
      by_cases hkl : k < l.length
      · have hkm : k < m.length := by rw [← HL.out]; exact hkl
        rcases HX.out with h0 | ⟨bk, off, rfl, hbk, hxx⟩
        · omega
        rcases HY.out with h0 | ⟨dk, uff, rfl, hdk, hyy⟩
        · omega
        have z0 := (bel.cell (p := ⟨bk, off + k, none⟩) (by exact hbk)).trans (hxx k hkl)
        have z1 := (bel.cell (p := ⟨dk, uff + k, none⟩) (by exact hdk)).trans (hyy k hkm)
        have q1 : decide ((k : Int) < (l.length : Int)) = true := decide_eq_true (by omega)
        have q2 : decide ((k : Int) < (m.length : Int)) = true := decide_eq_true (by omega)
        clear hxx hyy
        by_cases he : l[k] = m[k]
        · have HQ : Hid (l[k] = m[k]) := he
          have HN2 : Hid (∀ j (hj : j < l.length) (hj' : j < m.length), j < k + 1 → l[j] = m[j]) := fun j hj hj' h0 => by
            by_cases e : j = k
            · subst e
              exact he
            · exact HN.out j hj hj' (by omega)
          clear he HN
          generalize l[k] = X at *
          generalize m[k] = Y at *
          go_wp2
          refine wp_region_held_drew (S := (fun w' : World => w'.cell? ⟨bk, off + k, none⟩ = some (.int .i64 X) ∧ w'.cell? ⟨dk, uff + k, none⟩ = some (.int .i64 Y))) (by kernel_rfl) ?_ (fun hHeld0 => ?_)
          · try dsimp only
            go_keep
          refine tk0 (.slice (some ⟨bk, off, none⟩) l.length cap) ?_ (fun w hSw => by (try dsimp only at hSw); obtain ⟨q0, q1⟩ := hSw; go_simp)
          try simp only [Act.put, pu1, pu2, pu3]
          refine tk1 (.int .i64 (k : Int)) ?_ (fun w hSw => by (try dsimp only at hSw); obtain ⟨q0, q1⟩ := hSw; go_simp)
          try simp only [Act.put, pu1, pu2, pu3]
          refine tk2 (.pointer (some ⟨bk, off + k, none⟩)) ?_ (fun w hSw => by (try dsimp only at hSw); obtain ⟨q0, q1⟩ := hSw; go_simp)
          try simp only [Act.put, pu1, pu2, pu3]
          refine tk3 (.int .i64 X) ?_ (fun w hSw => by (try dsimp only at hSw); obtain ⟨q0, q1⟩ := hSw; go_simp)
          try simp only [Act.put, pu1, pu2, pu3]
          refine tk4 (.slice (some ⟨dk, uff, none⟩) m.length cup) ?_ (fun w hSw => by (try dsimp only at hSw); obtain ⟨q0, q1⟩ := hSw; go_simp)
          try simp only [Act.put, pu1, pu2, pu3]
          refine tk5 (.int .i64 (k : Int)) ?_ (fun w hSw => by (try dsimp only at hSw); obtain ⟨q0, q1⟩ := hSw; go_simp)
          try simp only [Act.put, pu1, pu2, pu3]
          refine tk6 (.pointer (some ⟨dk, uff + k, none⟩)) ?_ (fun w hSw => by (try dsimp only at hSw); obtain ⟨q0, q1⟩ := hSw; go_simp)
          try simp only [Act.put, pu1, pu2, pu3]
          refine tk7 (.int .i64 Y) ?_ (fun w hSw => by (try dsimp only at hSw); obtain ⟨q0, q1⟩ := hSw; go_simp)
          try simp only [Act.put, pu1, pu2, pu3]
          refine tk8 (.bool false) ?_ (fun w hSw => by (try dsimp only at hSw); obtain ⟨q0, q1⟩ := hSw; go_simp; exact HQ.out)
          try simp only [Act.put, pu1, pu2, pu3]
          refine wpAnyH_done (by kernel_rfl) ?_ _
          go_wp2
          go_roundw
          case rel => exact ⟨k + 1, hkl, by go_num, HN2, undrB2 bel⟩
          case measure => simp [intOf]; omega
        · have HQ : Hid (¬ l[k] = m[k]) := he
          have HE : Hid (sameB l m = false) := by
            show decide _ = _
            rw [decide_eq_false_iff_not]
            intro e
            subst e
            exact he rfl
          clear he HN
          generalize l[k] = X at *
          generalize m[k] = Y at *
          go_wp2
          refine wp_region_held_drew (S := (fun w' : World => w'.cell? ⟨bk, off + k, none⟩ = some (.int .i64 X) ∧ w'.cell? ⟨dk, uff + k, none⟩ = some (.int .i64 Y))) (by kernel_rfl) ?_ (fun hHeld0 => ?_)
          · try dsimp only
            go_keep
          refine tk0 (.slice (some ⟨bk, off, none⟩) l.length cap) ?_ (fun w hSw => by (try dsimp only at hSw); obtain ⟨q0, q1⟩ := hSw; go_simp)
          try simp only [Act.put, pu1, pu2, pu3]
          refine tk1 (.int .i64 (k : Int)) ?_ (fun w hSw => by (try dsimp only at hSw); obtain ⟨q0, q1⟩ := hSw; go_simp)
          try simp only [Act.put, pu1, pu2, pu3]
          refine tk2 (.pointer (some ⟨bk, off + k, none⟩)) ?_ (fun w hSw => by (try dsimp only at hSw); obtain ⟨q0, q1⟩ := hSw; go_simp)
          try simp only [Act.put, pu1, pu2, pu3]
          refine tk3 (.int .i64 X) ?_ (fun w hSw => by (try dsimp only at hSw); obtain ⟨q0, q1⟩ := hSw; go_simp)
          try simp only [Act.put, pu1, pu2, pu3]
          refine tk4 (.slice (some ⟨dk, uff, none⟩) m.length cup) ?_ (fun w hSw => by (try dsimp only at hSw); obtain ⟨q0, q1⟩ := hSw; go_simp)
          try simp only [Act.put, pu1, pu2, pu3]
          refine tk5 (.int .i64 (k : Int)) ?_ (fun w hSw => by (try dsimp only at hSw); obtain ⟨q0, q1⟩ := hSw; go_simp)
          try simp only [Act.put, pu1, pu2, pu3]
          refine tk6 (.pointer (some ⟨dk, uff + k, none⟩)) ?_ (fun w hSw => by (try dsimp only at hSw); obtain ⟨q0, q1⟩ := hSw; go_simp)
          try simp only [Act.put, pu1, pu2, pu3]
          refine tk7 (.int .i64 Y) ?_ (fun w hSw => by (try dsimp only at hSw); obtain ⟨q0, q1⟩ := hSw; go_simp)
          try simp only [Act.put, pu1, pu2, pu3]
          refine tk8 (.bool true) ?_ (fun w hSw => by (try dsimp only at hSw); obtain ⟨q0, q1⟩ := hSw; go_simp; exact HQ.out)
          try simp only [Act.put, pu1, pu2, pu3]
          refine wpAnyH_done (by kernel_rfl) ?_ _
          go_wp2
          go_ret
          exact ⟨by rw [HE.out]; rfl, undrB2 bel⟩
      · have q1 : decide ((k : Int) < (l.length : Int)) = false := decide_eq_false (by omega)
        have HE : Hid (sameB l m = true) := by
          show decide _ = _
          rw [decide_eq_true_eq]
          exact List.ext_getElem HL.out (fun j h1 h2 => HN.out j h1 h2 (by omega))
        clear HN
        go_wp2
        go_ret
        exact ⟨by rw [HE.out]; rfl, bel⟩
  · have q0 : ((l.length : Int) == (m.length : Int)) = false := by rw [beq_eq_false_iff_ne]; omega
    have HE : Hid (sameB l m = false) := decide_eq_false (fun e => hL (by rw [e]))
    go_enter Try.func15, Try.ntmps15
    go_wp2
    go_ret
    exact ⟨by rw [HE.out]; rfl, Below.refl _ _⟩
end Go.Proofs.Ythhlglbohibekaa
namespace Go.Proofs.Ythhlglbohibekaa
open Go.RowKit

structure BoxAt (w : World) (base D : Nat) (S : Nat → Prop) (T : TypeId) (mk : Value → Array Value) (l : List Int) : Prop where
  ex : ∃ v, w.heap[D]? = some (.cells (mk v) T (0, 0)) ∧ OwnRow intC w S D v l
  sD : S D
  bd : ∀ b, S b → base ≤ b ∧ b < w.heap.size
  lo : ∀ x ∈ l, okI x
section
variable {w w' w1 : World} {base base' D : Nat} {S S' : Nat → Prop} {T : TypeId} {mk mk' : Value → Array Value} {l l' : List Int}
theorem BoxAt.keep (h : BoxAt w base D S T mk l) (hs : w.heap.size ≤ w'.heap.size) (hk : ∀ b, S b → w'.heap[b]? = w.heap[b]?) : BoxAt w' base D S T mk l := by
  obtain ⟨v, h1, h2⟩ := h.ex
  exact ⟨⟨v, (hk D h.sD).trans h1, h2.keep hs (fun b hb _ => hk b hb)⟩, h.sD, fun b hb => ⟨(h.bd b hb).1, Nat.lt_of_lt_of_le (h.bd b hb).2 hs⟩, h.lo⟩
theorem BoxAt.fresh (h : BoxAt w base D S T mk l) (k : Below w.heap.size w w') : BoxAt w' base D S T mk l := h.keep k.size (fun b hb => k.block b (h.bd b hb).2)
theorem BoxAt.drew (h : BoxAt w base D S T mk l) : BoxAt w.drew base D S T mk l := h.keep (Nat.le_refl _) (fun _ _ => rfl)
theorem BoxAt.low (h : BoxAt w base D S T mk l) (hb : base' ≤ base) : BoxAt w base' D S T mk l := ⟨h.ex, h.sD, fun b hs => ⟨Nat.le_trans hb (h.bd b hs).1, (h.bd b hs).2⟩, h.lo⟩
theorem BoxAt.base_le (h : BoxAt w base D S T mk l) : base ≤ w.heap.size := by have := h.bd D h.sD; omega
theorem BoxAt.below (h : BoxAt w base D S T mk l) (k : Kept w w' S S') : Below base w w' := k.low h.base_le (fun b hb => (h.bd b hb).1)
theorem BoxAt.turn (h : BoxAt w base D S T mk l) (b : Below w.heap.size w w1) {v : Value} (hD : w'.heap[D]? = some (.cells (mk' v) T (0, 0))) (ho : ∀ c, c ≠ D → w'.heap[c]? = w1.heap[c]?) (hs : w'.heap.size = w1.heap.size) (h3 : w'.os = w1.os ∧ w'.tape = w1.tape ∧ w'.output = w1.output)
    (hv : OwnRow intC w1 (fun x => S x ∨ w.heap.size ≤ x ∧ x < w1.heap.size) D v l') (hlo : ∀ x ∈ l', okI x) : BoxAt w' base D (fun x => S x ∨ w.heap.size ≤ x ∧ x < w1.heap.size) T mk' l' ∧ Kept w w' S (fun x => S x ∨ w.heap.size ≤ x ∧ x < w1.heap.size) := by
  have hbs := h.base_le
  refine ⟨⟨⟨v, hD, hv.keep (by omega) (fun c _ hc => ho c hc)⟩, Or.inl h.sD, fun x hx => ?_, hlo⟩, ⟨h3.1.trans b.os, h3.2.1.trans b.tape, h3.2.2.trans b.output, by have := b.size; omega, fun x hx => hx.imp id (fun h => h.1), fun x hx hn => ?_⟩⟩
  · rcases hx with hx | hx
    · have := h.bd x hx
      have := b.size
      exact ⟨by omega, by omega⟩
    · exact ⟨by omega, by omega⟩
  · rw [ho x (fun e => hn (by rw [e]; exact h.sD)), b.block x hx]
end
end Go.Proofs.Ythhlglbohibekaa
namespace Go.Proofs.Ythhlglbohibekaa
open Go.RowKit

abbrev MT : TypeId := 112
structure OwnInts (w : World) (S : Nat → Prop) (D : Nat) (v : Value) (l : List Int) : Prop where
  at' : IntsAt w v l
  own : ∀ a bk off n cap, 0 < n → v = .slice a n cap → a = some ⟨bk, off, none⟩ → S bk ∧ bk ≠ D
  mx : l.length ≤ 65536
  nn : ∀ n cap, v = .slice none n cap → n = 0 ∧ cap = 0
theorem OwnInts.keep {w w' : World} {S : Nat → Prop} {D : Nat} {v : Value} {l : List Int} (h : OwnInts w S D v l) (hs : w.heap.size ≤ w'.heap.size) (hk : ∀ b, S b → b ≠ D → w'.heap[b]? = w.heap[b]?) : OwnInts w' S D v l := by
  refine ⟨?_, h.own, h.mx, h.nn⟩
  obtain ⟨a, cap, hv, hc, he⟩ := h.at'.ex
  refine ⟨⟨a, cap, hv, hc, ?_⟩, h.at'.lo, h.at'.mx⟩
  rcases he with h0 | ⟨bk, off, ha, hb, hx⟩
  · exact Or.inl h0
  · by_cases h0 : l.length = 0
    · exact Or.inl h0
    have hS := h.own a bk off _ cap (by omega) hv ha
    exact Or.inr ⟨bk, off, ha, Nat.lt_of_lt_of_le hb hs, fun j hj => (World.cell?_of_block (hk bk hS.1 hS.2)).trans (hx j hj)⟩
theorem OwnInts.grow {w : World} {S S' : Nat → Prop} {D : Nat} {v : Value} {l : List Int} (h : OwnInts w S D v l) (hs : ∀ b, S b → S' b) : OwnInts w S' D v l := ⟨h.at', fun a bk off n cap h0 e1 e2 => ⟨hs _ (h.own a bk off n cap h0 e1 e2).1, (h.own a bk off n cap h0 e1 e2).2⟩, h.mx, h.nn⟩
theorem OwnInts.form {w : World} {S : Nat → Prop} {D : Nat} {v : Value} {l : List Int} (h : OwnInts w S D v l) : ∃ a cap, v = .slice a l.length cap := by
  obtain ⟨a, cap, e, _⟩ := h.at'.ex
  exact ⟨a, cap, e⟩
theorem OwnInts.new {w' : World} {base D : Nat} {v : Value} {l : List Int} (h : w'.ownsRow base 3 1 v l.length (intL l)) (hD : D < base) (hlo : ∀ x ∈ l, -9223372036854775808 ≤ x ∧ x ≤ 9223372036854775807) (hl : l.length ≤ 65536) : OwnInts w' (fun b => base ≤ b ∧ b < w'.heap.size) D v l := by
  refine ⟨⟨?_, hlo, by unfold maxLen; omega⟩, ?_, hl, ?_⟩
  · rcases h.2 with ⟨rfl, h0⟩ | ⟨g, cap, cur, rfl, _, hg, hc, _, _, _⟩
    · exact ⟨none, 0, by rw [h0], by omega, Or.inl h0⟩
    · refine ⟨_, _, rfl, hc, Or.inr ⟨g, 0, rfl, lt_of_block hg, fun j hj => ?_⟩⟩
      have := World.ownsRow.cellAt h j (by omega)
      rw [Nat.zero_add, this]
      unfold intL
      rw [List.getElem?_map, List.getElem?_eq_getElem hj]
      rfl
  · intro a bk off n cap _ e1 e2
    subst e1 e2
    have := h.lt bk rfl
    exact ⟨this, by omega⟩
  · intro n cap e
    subst e
    rcases h.2 with ⟨e, _⟩ | ⟨g, cap', cur, e, _⟩
    · simp only [Value.slice.injEq] at e
      exact e.2
    · simp only [Value.slice.injEq] at e
      cases e.1
theorem OwnInts.news {w : World} {S : Nat → Prop} {D n cap : Nat} {x : Addr} {l : List Int} (h : OwnInts w S D (.slice (some x) n cap) l) : ∀ j u, (intL l)[j]? = some u → w.cell? (x.add j) = some u := by
  intro j u hu
  unfold intL at hu
  rw [List.getElem?_map] at hu
  obtain ⟨y, hy, rfl⟩ := Option.map_eq_some_iff.1 hu
  obtain ⟨hj, rfl⟩ := List.getElem?_eq_some_iff.1 hy
  obtain ⟨a, c, e, _, h0 | ⟨bk, off, ha, _, hx⟩⟩ := h.at'.ex
  · omega
  · simp only [Value.slice.injEq] at e
    rw [← e.1] at ha
    cases ha
    rw [Addr.add_mid]
    exact hx j hj
structure MxAt (w : World) (base D : Nat) (S : Nat → Prop) (who : Int) (l : List Int) : Prop where
  ex : ∃ v, w.heap[D]? = some (.cells #[.int .i64 who, v] MT (0, 0)) ∧ OwnInts w S D v l
  sD : S D
  bd : ∀ b, S b → base ≤ b ∧ b < w.heap.size
section
variable {w w' : World} {base D : Nat} {S S' : Nat → Prop} {l l' : List Int} {who who' : Int}
theorem MxAt.keep (h : MxAt w base D S who l) (hs : w.heap.size ≤ w'.heap.size) (hk : ∀ b, S b → w'.heap[b]? = w.heap[b]?) : MxAt w' base D S who l := by
  obtain ⟨v, h1, h2⟩ := h.ex
  exact ⟨⟨v, (hk D h.sD).trans h1, h2.keep hs (fun b hb _ => hk b hb)⟩, h.sD, fun b hb => ⟨(h.bd b hb).1, Nat.lt_of_lt_of_le (h.bd b hb).2 hs⟩⟩
theorem MxAt.fresh (h : MxAt w base D S who l) (k : Below w.heap.size w w') : MxAt w' base D S who l := h.keep k.size (fun b hb => k.block b (h.bd b hb).2)
theorem MxAt.drew (h : MxAt w base D S who l) : MxAt w.drew base D S who l := h.keep (Nat.le_refl _) (fun _ _ => rfl)
theorem MxAt.base_le (h : MxAt w base D S who l) : base ≤ w.heap.size := by have := h.bd D h.sD; omega
theorem MxAt.below (h : MxAt w base D S who l) (k : Kept w w' S S') : Below base w w' := k.low h.base_le (fun b hb => (h.bd b hb).1)
theorem MxAt.setWho (h : MxAt w base D S who l) (x : Int) : MxAt (w.setCell ⟨D, 0, none⟩ (.int .i64 x)) base D S x l ∧ Kept w (w.setCell ⟨D, 0, none⟩ (.int .i64 x)) S S := by
  obtain ⟨v, h1, h2⟩ := h.ex
  have ho : ∀ q, q ≠ D → (w.setCell ⟨D, 0, none⟩ (.int .i64 x)).heap[q]? = w.heap[q]? := fun q hq => heap_setCell_other _ _ _ _ (by simpa using hq)
  have h5 : (w.setCell ⟨D, 0, none⟩ (.int .i64 x)).heap[D]? = some (.cells #[.int .i64 x, v] MT (0, 0)) := by
    rw [heap_setCell_same w D 0 _ _ _ h1]
    rfl
  exact ⟨⟨⟨v, h5, h2.keep (by simp) (fun b _ hb => ho b hb)⟩, h.sD, fun b hb => ⟨(h.bd b hb).1, by simpa using (h.bd b hb).2⟩⟩, ⟨rfl, rfl, rfl, by simp, fun _ hs => Or.inl hs, fun b _ hs => ho b (fun e => hs (by rw [e]; exact h.sD))⟩⟩
theorem MxAt.setL (h : MxAt w base D S who l) (b : Below w.heap.size w w') {v : Value} (hv : OwnInts w' S' D v l') (hS : ∀ b, S' b → (S b ∨ w.heap.size ≤ b) ∧ b < w'.heap.size) :
    MxAt (w'.setCell ⟨D, 1, none⟩ v) base D (fun b => b = D ∨ S' b) who l' ∧ Kept w (w'.setCell ⟨D, 1, none⟩ v) S (fun b => b = D ∨ S' b) := by
  obtain ⟨v0, h1, _⟩ := h.ex
  have hD := h.bd D h.sD
  have hbs := h.base_le
  have h1' := (b.block D hD.2).trans h1
  have ho : ∀ q, q ≠ D → (w'.setCell ⟨D, 1, none⟩ v).heap[q]? = w'.heap[q]? := fun q hq => heap_setCell_other _ _ _ _ (by simpa using hq)
  have h5 : (w'.setCell ⟨D, 1, none⟩ v).heap[D]? = some (.cells #[.int .i64 who, v] MT (0, 0)) := by
    rw [heap_setCell_same w' D 1 _ _ _ h1']
    rfl
  have hsz := b.size
  refine ⟨⟨⟨v, h5, (hv.keep (by simp) (fun b _ hb => ho b hb)).grow (fun b hb => Or.inr hb)⟩, Or.inl rfl, fun q hq => ?_⟩, ⟨b.os, b.tape, b.output, by simp; omega, fun q hq => ?_, fun q hq hn => ?_⟩⟩
  · rcases hq with rfl | hq
    · exact ⟨hD.1, by simp; omega⟩
    · obtain ⟨h6, h7⟩ := hS q hq
      refine ⟨?_, by simpa using h7⟩
      rcases h6 with h6 | h6
      · exact (h.bd q h6).1
      · omega
  · rcases hq with rfl | hq
    · exact Or.inl h.sD
    · exact (hS q hq).1
  · rw [ho q (fun e => hn (by rw [e]; exact h.sD)), b.block q hq]
theorem MxAt.cells (h : MxAt w base D S who l) : ∃ a cap, w.heap[D]? = some (.cells #[.int .i64 who, .slice a l.length cap] MT (0, 0)) ∧ w.cell? ⟨D, 0, none⟩ = some (.int .i64 who) ∧ w.cell? ⟨D, 1, none⟩ = some (.slice a l.length cap) ∧ w.frozen? ⟨D, 0, none⟩ = false ∧ w.frozen? ⟨D, 1, none⟩ = false ∧ OwnInts w S D (.slice a l.length cap) l := by
  obtain ⟨v, h1, h2⟩ := h.ex
  obtain ⟨a, cap, rfl⟩ := h2.form
  exact ⟨a, cap, h1, by simp [World.cell?, h1], by simp [World.cell?, h1], by simp [World.frozen?, h1], by simp [World.frozen?, h1], h2⟩
end
theorem rmnew (w : World) : Calls Try.prog 49 #[] w fun e w' => e = .returned (.pointer (some ⟨w.heap.size, 0, none⟩)) ∧ MxAt w' w.heap.size w.heap.size (fun b => b = w.heap.size) (-1) [] ∧ Below w.heap.size w w' := by
  have H1 : Hid _ := heap_alloc_new w (.cells #[.int .i64 (-1), .slice none 0 0] MT)
  have B1 : Hid _ := (Below.refl _ w).alloc (Nat.le_refl _) (.cells #[.int .i64 (-1), .slice none 0 0] MT)
  go_enter Try.func49, Try.ntmps49
  go_wp2
  go_ret
  refine ⟨rfl, ⟨⟨_, H1.out, ⟨⟨none, 0, rfl, Nat.le_refl _, Or.inl rfl⟩, fun x hx => (by cases hx), Nat.zero_le _⟩, fun a bk off n cap h0 e1 _ => ?_, Nat.zero_le _, fun n cap e => ?_⟩, rfl, fun b hb => ⟨by omega, by simp; omega⟩⟩, B1.out⟩
  · simp only [Value.slice.injEq] at e1
    omega
  · simp only [Value.slice.injEq] at e
    omega
theorem MxAt.low {w : World} {base base' D : Nat} {S : Nat → Prop} {who : Int} {l : List Int} (h : MxAt w base D S who l) (hb : base' ≤ base) : MxAt w base' D S who l :=
  ⟨h.ex, h.sD, fun b hb2 => ⟨Nat.le_trans hb (h.bd b hb2).1, (h.bd b hb2).2⟩⟩
end Go.Proofs.Ythhlglbohibekaa
namespace Go.Proofs.Ythhlglbohibekaa
open Go.RowKit

def dropL (l : List Int) (n : Int) : List Int := l.filter fun x => !(x == n)
theorem dropL_le (l : List Int) (n : Int) : (dropL l n).length ≤ l.length := List.length_filter_le _ _
theorem dropL_take (l : List Int) (n : Int) (k : Nat) (hk : k < l.length) : dropL (l.take (k + 1)) n = if l[k] = n then dropL (l.take k) n else dropL (l.take k) n ++ [l[k]] := by
  unfold dropL
  rw [List.take_succ_eq_append_getElem hk, List.filter_append]
  by_cases h : l[k] = n
  · rw [if_pos h]
    simp [h]
  · rw [if_neg h]
    simp [h]
set_option maxHeartbeats 3200000 in
set_option maxRecDepth 100000 in
theorem drop_any (w : World) (v : Value) (l : List Int) (n : Int) (hv : IntsAt w v l) (hl : l.length ≤ 65536) : Calls Try.prog 65 #[v, .int .i64 n] w fun e w' => ∃ u, e = .returned u ∧ w'.ownsRow w.heap.size 3 1 u (dropL l n).length (intL (dropL l n)) ∧ Below w.heap.size w w' := by
  obtain ⟨i0, hi, hz0, hz1, hz2⟩ := info_parts infoI
  obtain ⟨a, cap, rfl, _, hx⟩ := hv.ex
  have HX : Hid _ := hx
  clear hx hv
  go_enter Try.func65, Try.ntmps65
  go_wp2
  go_loopw [5, 6] (fun u i wr => ∃ k : Nat, k ≤ l.length ∧ i = .int .i64 k ∧ wr.ownsRow w.heap.size 3 1 u (dropL (l.take k) n).length (intL (dropL (l.take k) n)) ∧ Below w.heap.size w wr) (fun _ i _ => l.length - (intOf i).toNat)
  case atStart => exact ⟨0, Nat.zero_le _, rfl, World.ownsRow_nil _ _ _ _, Below.refl _ _⟩
  case round =>
    obtain ⟨k, hk, rfl, hown, bel⟩ := hrel
    obtain ⟨pu, nu, cu, rfl⟩ := own_form hown
    by_cases hkl : k < l.length
    · rcases HX.out with h0 | ⟨bk, off, rfl, hbk, hxx⟩
      · omega
      have z0 := (bel.cell (p := ⟨bk, off + k, none⟩) (by exact hbk)).trans (hxx k hkl)
      have q0 : decide ((k : Int) < (l.length : Int)) = true := decide_eq_true (by omega)
      have q5 : decide ((0 : Int) ≤ (k : Int)) = true := decide_eq_true (by omega)
      have HD : Hid _ := dropL_take l n k hkl
      have hdl : (dropL (l.take k) n).length ≤ 65536 := by
        have h1 := dropL_le (l.take k) n
        have h2 := List.length_take_le k l
        omega
      have hbs := bel.size
      clear hxx
      by_cases he : l[k] = n
      · have q1 : (l[k] == n) = true := beq_iff_eq.2 he
        have HD2 : Hid (dropL (l.take (k + 1)) n = dropL (l.take k) n) := by
          have := HD.out
          rw [if_pos he] at this
          exact this
        clear he HD
        generalize l[k] = X at *
        generalize hdd : dropL (l.take k) n = dd at *
        clear hdd
        go_wp2
        go_roundw
        case rel => exact ⟨k + 1, hkl, by go_num, by rw [HD2.out]; exact hown, bel⟩
        case measure => simp [intOf]; omega
      · have q1 : (l[k] == n) = false := beq_eq_false_iff_ne.2 he
        have HD2 : Hid (dropL (l.take (k + 1)) n = dropL (l.take k) n ++ [l[k]]) := by
          have := HD.out
          rw [if_neg he] at this
          exact this
        clear he HD
        generalize l[k] = X at *
        generalize hdd : dropL (l.take k) n = dd at *
        clear hdd
        go_wp2_with (at_builtin; refine wpList_append_own _ rfl (.tmp 19) (.tmp 24) 23 rfl w.heap.size 3 i0 _ 1 8 Try.underlying23 hi hz0 hz1 hz2 rfl (by decide) (.slice pu nu cu) dd.length _ rfl (hown.alloc _) ⟨wr.heap.size, 0, none⟩ 1 1 [.int .i64 X] rfl rfl (World.news_of_block (cs := #[.int .i64 X]) (t := 3) (fr := (0, 0)) (heap_alloc_new wr _)) (by simp [Value.oneCell']) (by unfold maxLen; omega) (by omega) (by simp; omega) ?_; intro v4 w4 hrow4 hg4 _)
        have b4 : Below w.heap.size w w4 := (bel.alloc bel.size _).grown hg4 (by simp; omega) (fun q hq => (hown.lt q hq).1)
        go_roundw
        case rel => exact ⟨k + 1, hkl, by go_num, by
          rw [HD2.out]
          have e4 : intL (dd ++ [X]) = intL dd ++ [.int .i64 X] := by unfold intL; simp
          rw [e4, List.length_append]
          exact hrow4, b4⟩
        case measure => simp [intOf]; omega
    · have hke : k = l.length := by omega
      subst hke
      rw [List.take_length] at hown
      have q0 : decide ((l.length : Int) < (l.length : Int)) = false := decide_eq_false (by omega)
      have HO : Hid _ := hown
      clear hown
      go_wp2
      go_ret
      exact ⟨_, rfl, HO.out, bel⟩
end Go.Proofs.Ythhlglbohibekaa
namespace Go.Proofs.Ythhlglbohibekaa
open Go.RowKit

def putL (l : List Int) (n : Int) : List Int := l.takeWhile (fun x => decide (x < n)) ++ n :: l.dropWhile (fun x => decide (x < n))
theorem put_at (n : Int) : ∀ (l : List Int) (k : Nat), k ≤ l.length → (∀ j (hj : j < l.length), j < k → l[j] < n) → (∀ (hk : k < l.length), ¬ l[k] < n) → putL l n = l.take k ++ n :: l.drop k
  | [], k, _, _, _ => by simp [putL]
  | x :: l, 0, _, _, h2 => by
    have h3 : ¬ x < n := h2 (by simp)
    simp [putL, h3]
  | x :: l, k + 1, h0, h1, h2 => by
    have h3 : x < n := h1 0 (by simp) (by omega)
    have ih := put_at n l k (by simpa using h0) (fun j hj hjk => h1 (j + 1) (by simp; omega) (by omega)) (fun hk => h2 (by simp; omega))
    unfold putL at ih ⊢
    simp only [List.takeWhile_cons, List.dropWhile_cons, decide_eq_true h3, if_true, List.cons_append, List.take_succ_cons, List.drop_succ_cons, ih]
theorem add_block (x : Addr) (j : Nat) : (x.add j).block = x.block := by
  unfold Addr.add
  split <;> rfl
def IntsIn (w : World) (v : Value) (l : List Int) : Prop := (v = .slice none 0 0 ∧ l = []) ∨ ∃ (x : Addr) (cap : Nat), v = .slice (some x) l.length cap ∧ l.length ≤ cap ∧ (l.length = 0 ∨ x.block < w.heap.size) ∧ ∀ j u, (intL l)[j]? = some u → w.cell? (x.add j) = some u
theorem IntsIn.fresh {w w' : World} {v : Value} {l : List Int} {B : Nat} (h : IntsIn w v l) (k : Below B w w') (hB : w.heap.size ≤ B) : IntsIn w' v l := by
  rcases h with h | ⟨x, cap, e, h1, h2, h3⟩
  · exact Or.inl h
  · refine Or.inr ⟨x, cap, e, h1, h2.imp id (fun h => Nat.lt_of_lt_of_le h k.size), fun j u hu => ?_⟩
    have hj : j < l.length := by
      have := (List.getElem?_eq_some_iff.1 hu).1
      rw [intL_length] at this
      exact this
    refine (k.cell (p := x.add j) ?_).trans (h3 j u hu)
    rw [add_block]
    omega
theorem OwnInts.inn {w : World} {S : Nat → Prop} {D : Nat} {v : Value} {l : List Int} (h : OwnInts w S D v l) : IntsIn w v l := by
  obtain ⟨a, cap, e, h1, h2⟩ := h.at'.ex
  cases a with
  | none =>
    obtain ⟨e1, e2⟩ := h.nn _ _ e
    rw [e1, e2] at e
    exact Or.inl ⟨e, List.eq_nil_of_length_eq_zero e1⟩
  | some x =>
    subst e
    refine Or.inr ⟨x, cap, rfl, h1, ?_, h.news⟩
    rcases h2 with h2 | ⟨bk, off, e2, h3, _⟩
    · exact Or.inl h2
    · cases e2
      exact Or.inr h3
theorem slice_from {w : World} {v : Value} {l : List Int} (h : IntsIn w v l) (k : Nat) (hk : k ≤ l.length) : ∃ u, (∀ w', (Instr.sliceAt 23 v (some (.int .i64 (k : Int))) none none).run Try.prog w' = .ok u w') ∧ IntsIn w u (l.drop k) := by
  obtain ⟨i0, hi, _, hz1, _⟩ := info_parts infoI
  have hu := Try.underlying23
  have he : Try.prog.elem 23 = 3 := by kernel_rfl
  have hu2 : Try.prog.underlying 23 = some (.slice (Try.prog.elem 23)) := by rw [he]; exact hu
  have hsz : ∀ w, (sizeOf 3).run Try.prog w = .ok 1 w := fun w => by simp [sizeOf, typeInfo, hi, hz1]
  rcases h with ⟨rfl, rfl⟩ | ⟨x, c, rfl, hc, hb, hcells⟩
  · have hk0 : k = 0 := by simpa using hk
    subst hk0
    refine ⟨.slice none 0 0, fun w' => ?_, Or.inl ⟨rfl, rfl⟩⟩
    rw [run_sliceAt_slice _ _ _ _ _ _ hu2, run_slice_l _ _ _ _ _ hu2 _ _ (by omega) (by omega), he, hsz]
    simp [Result.andThen_ok, sliced]
  · refine ⟨.slice (some (if c = k then x else x.add k)) (l.length - k) (c - k), fun w' => ?_, Or.inr ⟨_, c - k, by rw [List.length_drop], by rw [List.length_drop]; omega, ?_, fun j u hj => ?_⟩⟩
    · rw [run_sliceAt_slice _ _ _ _ _ _ hu2, run_slice_l _ _ _ _ _ hu2 _ _ (by omega) (by omega), he, hsz]
      simp only [Result.andThen_ok, sliced, Int.toNat_natCast]
      by_cases hck : c = k
      · rw [if_pos hck, if_pos hck]
      · rw [if_neg hck, if_neg hck]
        simp
    · rw [List.length_drop]
      rcases hb with hb | hb
      · exact Or.inl (by omega)
      · refine Or.inr ?_
        split
        · exact hb
        · rw [add_block]
          exact hb
    · have e : (intL l)[k + j]? = some u := by
        unfold intL at hj ⊢
        rw [List.map_drop, List.getElem?_drop] at hj
        exact hj
      have hlt : k + j < l.length := by
        have := (List.getElem?_eq_some_iff.1 e).1
        rw [intL_length] at this
        exact this
      rw [if_neg (by omega), Deep.add_add]
      exact hcells (k + j) u e
theorem wp_app_in {o : Oper} {a : Act} {w : World} {K : Act → World → Prop} {Q : Exit → Act → World → Prop} (s x : Operand) (ho : o.op = .call { callee := .builtin .append, args := #[s, x], argTypes := #[23, 23] }) {base n : Nat} {v u : Value} {l : List Int} {xs : List Value} (hs : a.eval s = v) (hx : a.eval x = u) (hown : w.ownsRow base 3 1 v n xs) (hu : IntsIn w u l) (hb : base ≤ w.heap.size) (hn : n + l.length ≤ 1048576)
    (h : ∀ u' w', w'.ownsRow base 3 1 u' (n + l.length) (xs ++ intL l) → Below base w w' → K (a.put o.dst u') w') : o.wp Try.prog a w K Q := by
  obtain ⟨i0, hi, hz0, hz1, hz2⟩ := info_parts infoI
  rcases hu with ⟨rfl, rfl⟩ | ⟨x0, cap, rfl, h2, _, h5⟩
  · have hrun := run_append_owned_none (P := Try.prog) (w := w) base 23 o.type 3 i0 1 Try.underlying23 hi v n xs hown
    have h' := h v w (by simpa [intL] using hown) (Below.refl _ _)
    unfold Oper.wp
    simp [execOp, ho, resolve, invoke, builtin, hx, hs, hrun, Result.andThen]
    exact h'
  · refine wp_append_own w s x 23 ho base 3 i0 _ 1 8 Try.underlying23 hi hz0 hz1 hz2 rfl (by omega) v n xs hs hown x0 l.length cap (intL l) hx (by rw [intL_length]; omega) h5 (one_intL l) (by unfold maxLen; omega) (by omega) hb ?_
    intro u' w' ho' hg _
    exact h u' w' ho' ((Below.refl _ w).grown hg hb (fun k hk => (hown.lt k hk).1))
theorem undrO {w : World} {o : Obj} {base size n : Nat} {e : TypeId} {v : Value} {xs : List Value} (h : w.ownsRow base e size v n xs) : (w.drew.alloc o).ownsRow base e size v n xs := World.ownsRow.alloc (w := w.drew) ⟨h.1, h.2⟩ o
set_option maxHeartbeats 6400000 in
set_option maxRecDepth 100000 in
theorem put_any (w : World) (S : Nat → Prop) (D : Nat) (v : Value) (l : List Int) (n : Int) (hv : OwnInts w S D v l) (hl : l.length < 65536) : Calls Try.prog 68 #[v, .int .i64 n] w fun e w' => ∃ u, e = .returned u ∧ w'.ownsRow w.heap.size 3 1 u (putL l n).length (intL (putL l n)) ∧ Below w.heap.size w w' := by
  obtain ⟨i0, hi, hz0, hz1, hz2⟩ := info_parts infoI
  obtain ⟨a, cap, rfl, hlc, hx⟩ := hv.at'.ex
  have HV : Hid _ := hv
  have HX : Hid _ := hx
  clear hx hv
  go_enter Try.func68, Try.ntmps68
  go_wp2
  go_loopw [5, 6] (fun u i wr => ∃ k : Nat, k ≤ l.length ∧ i = .int .i64 k ∧ wr.ownsRow w.heap.size 3 1 u k (intL (l.take k)) ∧ Hid (∀ j (hj : j < l.length), j < k → l[j] < n) ∧ Below w.heap.size w wr) (fun _ i _ => l.length - (intOf i).toNat)
  case atStart => exact ⟨0, Nat.zero_le _, rfl, World.ownsRow_nil _ _ _ _, fun j _ h0 => absurd h0 (Nat.not_lt_zero _), Below.refl _ _⟩
  case round =>
    obtain ⟨k, hk, rfl, hown, HN, bel⟩ := hrel
    obtain ⟨pu, nu, cu, rfl⟩ := own_form hown
    have hbs := bel.size
    by_cases hkl : k < l.length
    · rcases HX.out with h0 | ⟨bk, off, rfl, hbk, hxx⟩
      · omega
      have z0 := (bel.cell (p := ⟨bk, off + k, none⟩) (by exact hbk)).trans (hxx k hkl)
      have q0 : decide ((k : Int) < (l.length : Int)) = true := decide_eq_true (by omega)
      clear hxx
      by_cases he : l[k] < n
      · have q1 : decide (l[k] < n) = true := decide_eq_true he
        have HN2 : Hid (∀ j (hj : j < l.length), j < k + 1 → l[j] < n) := fun j hj h0 => by
          by_cases e : j = k
          · subst e
            exact he
          · exact HN.out j hj (by omega)
        have HB : Hid (intL (l.take (k + 1)) = intL (l.take k) ++ [.int .i64 l[k]]) := by
          show _ = _
          rw [List.take_succ_eq_append_getElem hkl]
          unfold intL
          rw [List.map_append]
          rfl
        clear he HN
        generalize l[k] = X at *
        go_wp2_with (at_builtin; refine wpList_append_own _ rfl (.tmp 19) (.tmp 24) 23 rfl w.heap.size 3 i0 _ 1 8 Try.underlying23 hi hz0 hz1 hz2 rfl (by decide) (.slice pu nu cu) k _ rfl (hown.alloc _) ⟨wr.heap.size, 0, none⟩ 1 1 [.int .i64 X] rfl rfl (World.news_of_block (cs := #[.int .i64 X]) (t := 3) (fr := (0, 0)) (heap_alloc_new wr _)) (by simp [Value.oneCell']) (by unfold maxLen; omega) (by omega) (by simp; omega) ?_; intro v4 w4 hrow4 hg4 _)
        have b4 : Below w.heap.size w w4 := (bel.alloc bel.size _).grown hg4 (by simp; omega) (fun q hq => (hown.lt q hq).1)
        go_roundw
        case rel => exact ⟨k + 1, hkl, by go_num, by rw [HB.out]; exact hrow4, HN2, b4⟩
        case measure => simp [intOf]; omega
      · have q1 : decide (l[k] < n) = false := decide_eq_false he
        have HP : Hid (putL l n = l.take k ++ n :: l.drop k) := put_at n l k hk HN.out (fun _ => he)
        obtain ⟨fv, hsl, hfv⟩ := slice_from HV.out.inn k hk
        have HC : Hid (IntsIn w fv (l.drop k)) := hfv
        clear he HN hfv
        generalize l[k] = X at *
        go_wp2
        refine wp_region_held_drew (S := (fun _ : World => True)) (by kernel_rfl) ?_ (fun hHeld0 => ?_)
        · trivial
        refine tk0 (.slice pu nu cu) ?_
        try simp only [Act.put, pu1, pu2, pu3]
        refine tk1 (.int .i64 n) ?_
        try simp only [Act.put, pu1, pu2, pu3]
        refine tk4 (.slice (some ⟨bk, off, none⟩) l.length cap) ?_
        try simp only [Act.put, pu1, pu2, pu3]
        refine tk5 (.int .i64 (k : Int)) ?_
        try simp only [Act.put, pu1, pu2, pu3]
        refine tk6 (fv) ?_
        try simp only [Act.put, pu1, pu2, pu3]
        refine cl2 (by kernel_rfl) rfl (fun K hK => ?_)
        go_simp
        refine hK.out _ _ ?_ (fun hHeld => ?_)
        · trivial
        clear hK K
        try simp only [Act.put, pu1, pu2, pu3]
        refine cl3 (by kernel_rfl) rfl (fun K hK => ?_)
        refine wp_append_own _ (.tmp 28) (.tmp 30) 23 rfl w.heap.size 3 i0 _ 1 8 Try.underlying23 hi hz0 hz1 hz2 rfl (by omega) (.slice pu nu cu) k _ rfl (undrO hown) ⟨wr.heap.size, 0, none⟩ 1 1 [.int .i64 n] rfl rfl (World.news_of_block (cs := #[.int .i64 n]) (t := 3) (fr := (0, 0)) (heap_alloc_new wr.drew _)) (by simp [Value.oneCell']) (by unfold maxLen; omega) (by omega) (by simp; omega) ?_
        intro u3 w3 h3 g3 _
        have b3 : Below w.heap.size w w3 := ((undrB2 bel).alloc bel.size _).grown g3 (by simp; omega) (fun q hq => (hown.lt q hq).1)
        refine hK.out _ _ ?_ (fun hHeld => ?_)
        · trivial
        clear hK K
        try simp only [Act.put, pu1, pu2, pu3]
        refine cl7 (by kernel_rfl) rfl (fun K hK => ?_)
        refine wp_app_in (.tmp 31) (.tmp 34) rfl (base := w.heap.size) rfl rfl h3 (IntsIn.fresh HC.out b3 (Nat.le_refl _)) b3.size (by rw [List.length_drop]; omega) ?_
        intro u4 w4 h4 g4
        obtain ⟨p4, n4, q4, rfl⟩ := own_form h4
        have b4 : Below w.heap.size w w4 := b3.trans g4
        refine hK.out _ _ ?_ (fun hHeld => ?_)
        · trivial
        clear hK K
        try simp only [Act.put, pu1, pu2, pu3]
        refine tk8 (.slice p4 n4 q4) ?_
        try simp only [Act.put, pu1, pu2, pu3]
        refine wpAnyH_done (by kernel_rfl) ?_ _
        go_wp2
        go_ret
        refine ⟨_, rfl, ?_, b4⟩
        rw [HP.out]
        have e4 : intL (l.take k ++ n :: l.drop k) = intL (l.take k) ++ [.int .i64 n] ++ intL (l.drop k) := by unfold intL; simp
        have e5 : (l.take k ++ n :: l.drop k).length = k + 1 + (l.drop k).length := by simp; omega
        rw [e4, e5]
        exact h4
    · have q0 : decide ((k : Int) < (l.length : Int)) = false := decide_eq_false (by omega)
      have HP : Hid (putL l n = l.take k ++ n :: l.drop k) := put_at n l k hk HN.out (fun h => absurd h hkl)
      clear HN
      obtain ⟨fv, hsl, hfv⟩ := slice_from HV.out.inn k hk
      have HC : Hid (IntsIn w fv (l.drop k)) := hfv
      clear hfv
      go_wp2
      refine wp_region_held_drew (S := (fun _ : World => True)) (by kernel_rfl) ?_ (fun hHeld0 => ?_)
      · trivial
      refine tk0 (.slice pu nu cu) ?_
      try simp only [Act.put, pu1, pu2, pu3]
      refine tk1 (.int .i64 n) ?_
      try simp only [Act.put, pu1, pu2, pu3]
      refine tk4 (.slice a l.length cap) ?_
      try simp only [Act.put, pu1, pu2, pu3]
      refine tk5 (.int .i64 (k : Int)) ?_
      try simp only [Act.put, pu1, pu2, pu3]
      refine tk6 (fv) ?_
      try simp only [Act.put, pu1, pu2, pu3]
      refine cl2 (by kernel_rfl) rfl (fun K hK => ?_)
      go_simp
      refine hK.out _ _ ?_ (fun hHeld => ?_)
      · trivial
      clear hK K
      try simp only [Act.put, pu1, pu2, pu3]
      refine cl3 (by kernel_rfl) rfl (fun K hK => ?_)
      refine wp_append_own _ (.tmp 28) (.tmp 30) 23 rfl w.heap.size 3 i0 _ 1 8 Try.underlying23 hi hz0 hz1 hz2 rfl (by omega) (.slice pu nu cu) k _ rfl (undrO hown) ⟨wr.heap.size, 0, none⟩ 1 1 [.int .i64 n] rfl rfl (World.news_of_block (cs := #[.int .i64 n]) (t := 3) (fr := (0, 0)) (heap_alloc_new wr.drew _)) (by simp [Value.oneCell']) (by unfold maxLen; omega) (by omega) (by simp; omega) ?_
      intro u3 w3 h3 g3 _
      have b3 : Below w.heap.size w w3 := ((undrB2 bel).alloc bel.size _).grown g3 (by simp; omega) (fun q hq => (hown.lt q hq).1)
      refine hK.out _ _ ?_ (fun hHeld => ?_)
      · trivial
      clear hK K
      try simp only [Act.put, pu1, pu2, pu3]
      refine cl7 (by kernel_rfl) rfl (fun K hK => ?_)
      refine wp_app_in (.tmp 31) (.tmp 34) rfl (base := w.heap.size) rfl rfl h3 (IntsIn.fresh HC.out b3 (Nat.le_refl _)) b3.size (by rw [List.length_drop]; omega) ?_
      intro u4 w4 h4 g4
      obtain ⟨p4, n4, q4, rfl⟩ := own_form h4
      have b4 : Below w.heap.size w w4 := b3.trans g4
      refine hK.out _ _ ?_ (fun hHeld => ?_)
      · trivial
      clear hK K
      try simp only [Act.put, pu1, pu2, pu3]
      refine tk8 (.slice p4 n4 q4) ?_
      try simp only [Act.put, pu1, pu2, pu3]
      refine wpAnyH_done (by kernel_rfl) ?_ _
      go_wp2
      go_ret
      refine ⟨_, rfl, ?_, b4⟩
      rw [HP.out]
      have e4 : intL (l.take k ++ n :: l.drop k) = intL (l.take k) ++ [.int .i64 n] ++ intL (l.drop k) := by unfold intL; simp
      have e5 : (l.take k ++ n :: l.drop k).length = k + 1 + (l.drop k).length := by simp; omega
      rw [e4, e5]
      exact h4
end Go.Proofs.Ythhlglbohibekaa
namespace Go.Proofs.Ythhlglbohibekaa
open Go.RowKit

def lockB (who : Int) (l : List Int) (t : Int) : Bool := decide (0 ≤ t ∧ ¬ who = t ∧ t ∉ l ∧ who < 0)
def lockZ (who : Int) (l : List Int) (t : Int) : Int := if t < 0 then 1 else if who = t ∨ t ∈ l then 12 else 0
def lockW (who : Int) (l : List Int) (t : Int) : Int := if lockB who l t then t else who
def lockL (who : Int) (l : List Int) (t : Int) : List Int := if lockZ who l t = 0 ∧ ¬ who < 0 then l ++ [t] else l
section
variable {w : World} {base D : Nat} {S : Nat → Prop} {l : List Int} {who : Int}
set_option maxHeartbeats 3200000 in
set_option maxRecDepth 100000 in
theorem rlock_no (h : MxAt w base D S who l) (t : Int) (hz : t < 0 ∨ who = t ∨ t ∈ l) : Calls Try.prog 55 #[.pointer (some ⟨D, 0, none⟩), .int .i64 t] w fun e w' => e = .returned (.tuple #[.bool false, .int .i64 (if t < 0 then 1 else 12)]) ∧ w' = w := by
  obtain ⟨a, cap, hb, c0, c1, _, _, ho⟩ := h.cells
  have hh := has_any w _ l t ho.at'
  clear hb ho h
  by_cases h1 : t < 0
  · have q1 : decide (t < 0) = true := decide_eq_true h1
    rw [if_pos h1]
    clear hh
    go_enter Try.func55, Try.ntmps55
    go_wp2
    go_ret2
    exact ⟨rfl, rfl⟩
  · have q1 : decide (t < 0) = false := decide_eq_false h1
    rw [if_neg h1]
    by_cases h2 : who = t
    · have q2 : (who == t) = true := beq_iff_eq.2 h2
      clear h2 hz hh
      go_enter Try.func55, Try.ntmps55
      go_wp2
      go_ret2
      exact ⟨rfl, rfl⟩
    · have q2 : (who == t) = false := beq_eq_false_iff_ne.2 h2
      have h3 : hasB l t = true := decide_eq_true (hz.elim (fun h => absurd h h1) (fun h => h.elim (fun h => absurd h h2) id))
      rw [h3] at hh
      clear h2 hz h3
      go_enter Try.func55, Try.ntmps55
      go_wp2_with (go_at_call 51; refine hh.mono ?_; rintro e w1 ⟨rfl, rfl⟩)
      go_ret2
      exact ⟨rfl, rfl⟩
set_option maxHeartbeats 3200000 in
set_option maxRecDepth 100000 in
theorem rlock_got (h : MxAt w base D S who l) (t : Int) (h1 : ¬ t < 0) (h2 : ¬ who = t) (h3 : t ∉ l) (h4 : who < 0) : Calls Try.prog 55 #[.pointer (some ⟨D, 0, none⟩), .int .i64 t] w fun e w' => e = .returned (.tuple #[.bool true, .int .i64 0]) ∧ MxAt w' base D S t l ∧ Kept w w' S S := by
  obtain ⟨a, cap, hb, c0, c1, f0, _, ho⟩ := h.cells
  have hh := has_any w _ l t ho.at'
  have HP : Hid _ := h.setWho t
  have h5 : hasB l t = false := decide_eq_false h3
  rw [h5] at hh
  have q1 : decide (t < 0) = false := decide_eq_false h1
  have q2 : (who == t) = false := beq_eq_false_iff_ne.2 h2
  have q4 : decide (who < 0) = true := decide_eq_true h4
  clear hb ho h h1 h2 h3 h4 h5
  go_enter Try.func55, Try.ntmps55
  go_wp2_with (go_at_call 51; refine hh.mono ?_; rintro e w1 ⟨rfl, rfl⟩)
  go_ret2
  exact ⟨rfl, HP.out⟩
set_option maxHeartbeats 3200000 in
set_option maxRecDepth 100000 in
theorem rlock_wait (h : MxAt w base D S who l) (t : Int) (h1 : ¬ t < 0) (h2 : ¬ who = t) (h3 : t ∉ l) (h4 : ¬ who < 0) (ht : t ≤ 9223372036854775807) (hl : l.length < 65536) : Calls Try.prog 55 #[.pointer (some ⟨D, 0, none⟩), .int .i64 t] w fun e w' => e = .returned (.tuple #[.bool false, .int .i64 0]) ∧ ∃ S', MxAt w' base D S' who (l ++ [t]) ∧ Kept w w' S S' := by
  obtain ⟨i0, hi, hz0, hz1, hz2⟩ := info_parts infoI
  obtain ⟨a, cap, hb, c0, c1, _, f1, ho⟩ := h.cells
  have hh := has_any w _ l t ho.at'
  have h5 : hasB l t = false := decide_eq_false h3
  rw [h5] at hh
  have hDl := (h.bd D h.sD).2
  have hlo : ∀ x ∈ l ++ [t], -9223372036854775808 ≤ x ∧ x ≤ 9223372036854775807 := fun x hx => by
    rcases List.mem_append.1 hx with hx | hx
    · exact ho.at'.lo x hx
    · rw [List.mem_singleton] at hx
      omega
  have HLO : Hid _ := hlo
  have HN : Hid _ := h
  have HO : Hid _ := ho
  have q1 : decide (t < 0) = false := decide_eq_false h1
  have q2 : (who == t) = false := beq_eq_false_iff_ne.2 h2
  have q4 : decide (who < 0) = false := decide_eq_false h4
  have fin : ∀ (w3 : World) (v3 : Value), Below w.heap.size w w3 → w3.ownsRow w.heap.size 3 1 v3 (l ++ [t]).length (intL (l ++ [t])) → ∃ S', MxAt (w3.setCell ⟨D, 1, none⟩ v3) base D S' who (l ++ [t]) ∧ Kept w (w3.setCell ⟨D, 1, none⟩ v3) S S' := fun w3 v3 b3 r3 =>
    ⟨_, HN.out.setL b3 (OwnInts.new r3 hDl HLO.out (by rw [List.length_append]; simp; omega)) (fun b hb => ⟨Or.inr hb.1, hb.2⟩)⟩
  have FIN : Hid _ := fin
  clear hb ho h h1 h2 h3 h4 h5 hlo fin
  cases a with
  | none =>
    obtain ⟨hl0, hc0⟩ := HO.out.nn _ _ rfl
    have hl1 : l = [] := List.eq_nil_of_length_eq_zero hl0
    subst hl1 hc0
    change w.cell? ⟨D, 1, none⟩ = some (.slice none 0 0) at c1
    clear hl0
    go_enter Try.func55, Try.ntmps55
    go_wp2_with (first
      | (at_builtin; refine wpList_append_own _ rfl (.tmp 36) (.tmp 38) 23 rfl w1.heap.size 3 i0 (.int .i64 0) 1 8 Try.underlying23 hi hz0 hz1 hz2 rfl (by decide) (.slice none 0 0) 0 [] rfl (World.ownsRow_nil _ _ _ _) ⟨w1.heap.size, 0, none⟩ 1 1 [.int .i64 t] rfl rfl (World.news_of_block (cs := #[.int .i64 t]) (t := 3) (fr := (0, 0)) (heap_alloc_new w1 _)) (by simp [Value.oneCell']) (by unfold maxLen; omega) (by omega) (by simp) ?_; intro u3 w3 h3 g3 _; obtain ⟨p3, n3, q3, rfl⟩ := own_form h3; have b3 : Below w1.heap.size w1 w3 := (((Below.refl _ w1).alloc (Nat.le_refl _) _).grown g3 (by simp) (fun k hk => by simp [Value.ownBlock] at hk)); have z3 := (b3.cell (p := ⟨D, 1, none⟩) (by exact hDl)).trans c1; have y3 := (b3.frozen (p := ⟨D, 1, none⟩) (by exact hDl)).trans f1)
      | (at_builtin; refine wpList_append_own_none rfl (.const (.slice none 0 0)) (.tmp 35) 23 rfl w1.heap.size 3 i0 1 Try.underlying23 hi _ 0 [] rfl (World.ownsRow_nil _ _ _ _) rfl ?_)
      | (go_at_call 51; refine hh.mono ?_; rintro e w1 ⟨rfl, rfl⟩))
    go_ret2
    exact ⟨rfl, FIN.out _ _ b3 h3⟩
  | some x =>
    go_enter Try.func55, Try.ntmps55
    go_wp2_with (first
      | (at_builtin; refine wpList_append_own _ rfl (.tmp 36) (.tmp 38) 23 rfl w1.heap.size 3 i0 (.int .i64 0) 1 8 Try.underlying23 hi hz0 hz1 hz2 rfl (by decide) u2 (0 + l.length) ([] ++ intL l) rfl (h2.alloc _) ⟨w2.heap.size, 0, none⟩ 1 1 [.int .i64 t] rfl rfl (World.news_of_block (cs := #[.int .i64 t]) (t := 3) (fr := (0, 0)) (heap_alloc_new w2 _)) (by simp [Value.oneCell']) (by unfold maxLen; omega) (by omega) (by simp; have := b2.size; omega) ?_; intro u3 w3 h3 g3 _; obtain ⟨p3, n3, q3, rfl⟩ := own_form h3; have b3 : Below w1.heap.size w1 w3 := ((b2.alloc b2.size _).grown g3 (by have := b2.size; simp; omega) (fun k hk => ((h2.lt k hk)).1)); have z3 := (b3.cell (p := ⟨D, 1, none⟩) (by exact hDl)).trans c1; have y3 := (b3.frozen (p := ⟨D, 1, none⟩) (by exact hDl)).trans f1)
      | (at_builtin; refine wpList_append_own _ rfl (.const (.slice none 0 0)) (.tmp 35) 23 rfl w1.heap.size 3 i0 (.int .i64 0) 1 8 Try.underlying23 hi hz0 hz1 hz2 rfl (by decide) (.slice none 0 0) 0 [] rfl (World.ownsRow_nil _ _ _ _) x l.length cap (intL l) rfl (by rw [intL_length]; omega) (HO.out.news) (one_intL l) (by unfold maxLen; omega) (by omega) (Nat.le_refl _) ?_; intro u2 w2 h2 g2 _; have b2 : Below w1.heap.size w1 w2 := (Below.refl _ w1).grown g2 (Nat.le_refl _) (fun k hk => by simp [Value.ownBlock] at hk))
      | (go_at_call 51; refine hh.mono ?_; rintro e w1 ⟨rfl, rfl⟩))
    go_ret2
    refine ⟨rfl, FIN.out _ _ b3 ?_⟩
    have e3 : 0 + l.length + 1 = (l ++ [t]).length := by simp
    have e4 : [] ++ intL l ++ [Value.int .i64 t] = intL (l ++ [t]) := by unfold intL; simp
    rw [e3, e4] at h3
    exact h3
end
end Go.Proofs.Ythhlglbohibekaa
namespace Go.Proofs.Ythhlglbohibekaa
open Go.RowKit

section
variable {w : World} {base D : Nat} {S : Nat → Prop} {l : List Int} {who : Int}
theorem rlock_any (h : MxAt w base D S who l) (t : Int) (ht : t ≤ 9223372036854775807) (hl : l.length < 65536) : Calls Try.prog 55 #[.pointer (some ⟨D, 0, none⟩), .int .i64 t] w fun e w' => e = .returned (.tuple #[.bool (lockB who l t), .int .i64 (lockZ who l t)]) ∧ ∃ S', MxAt w' base D S' (lockW who l t) (lockL who l t) ∧ Kept w w' S S' := by
  by_cases hz : t < 0 ∨ who = t ∨ t ∈ l
  · have e1 : lockB who l t = false := decide_eq_false (fun ⟨a, b, c, _⟩ => by
      rcases hz with hz | hz | hz
      · omega
      · exact b hz
      · exact c hz)
    have e2 : lockZ who l t = if t < 0 then 1 else 12 := by
      unfold lockZ
      by_cases h1 : t < 0
      · rw [if_pos h1, if_pos h1]
      · rw [if_neg h1, if_neg h1, if_pos (hz.elim (fun h => absurd h h1) id)]
    have e3 : lockW who l t = who := by unfold lockW; rw [e1]; rfl
    have e4 : lockL who l t = l := by
      unfold lockL
      rw [if_neg]
      rw [e2]
      by_cases h1 : t < 0
      · rw [if_pos h1]; omega
      · rw [if_neg h1]; omega
    rw [e1, e2, e3, e4]
    refine (rlock_no h t hz).mono fun e w' ⟨h1, h2⟩ => ⟨h1, S, ?_⟩
    subst h2
    exact ⟨h, Kept.refl _ _⟩
  · have h1 : ¬ t < 0 := fun h => hz (Or.inl h)
    have h2 : ¬ who = t := fun h => hz (Or.inr (Or.inl h))
    have h3 : t ∉ l := fun h => hz (Or.inr (Or.inr h))
    have e2 : lockZ who l t = 0 := by unfold lockZ; rw [if_neg h1, if_neg (fun h => h.elim h2 h3)]
    by_cases h4 : who < 0
    · have e1 : lockB who l t = true := decide_eq_true ⟨by omega, h2, h3, h4⟩
      have e3 : lockW who l t = t := by unfold lockW; rw [e1]; rfl
      have e4 : lockL who l t = l := by unfold lockL; rw [if_neg (fun h => h.2 h4)]
      rw [e1, e2, e3, e4]
      exact (rlock_got h t h1 h2 h3 h4).mono fun e w' ⟨g1, g2⟩ => ⟨g1, S, g2⟩
    · have e1 : lockB who l t = false := decide_eq_false (fun h => h4 h.2.2.2)
      have e3 : lockW who l t = who := by unfold lockW; rw [e1]; rfl
      have e4 : lockL who l t = l ++ [t] := by unfold lockL; rw [if_pos ⟨e2, h4⟩]
      rw [e1, e2, e3, e4]
      exact rlock_wait h t h1 h2 h3 h4 ht hl
def unZ (who t : Int) : Int := if t < 0 ∨ ¬ who = t then 13 else 0
def unN (who : Int) (l : List Int) (t : Int) : Int := if t < 0 ∨ ¬ who = t then 0 else l.headD (-1)
def unW (who : Int) (l : List Int) (t : Int) : Int := if t < 0 ∨ ¬ who = t then who else l.headD (-1)
def unL (who : Int) (l : List Int) (t : Int) : List Int := if t < 0 ∨ ¬ who = t then l else l.tail
def tailA (bk off c : Nat) : Addr := if c = 1 then ⟨bk, off, none⟩ else ⟨bk, off + 1, none⟩
theorem slice_tail1 (bk off len c : Nat) (hn : 1 ≤ len) (w : World) : (Instr.sliceAt 23 (.slice (some ⟨bk, off, none⟩) len c) (some (.int .i64 1)) none none).run Try.prog w = .ok (.slice (some (tailA bk off c)) (len - 1) (c - 1)) w := by
  obtain ⟨i0, hi, _, hz1, _⟩ := info_parts infoI
  have hu := Try.underlying23
  have he : Try.prog.elem 23 = 3 := by kernel_rfl
  have hu2 : Try.prog.underlying 23 = some (.slice (Try.prog.elem 23)) := by rw [he]; exact hu
  have hsz : ∀ w, (sizeOf 3).run Try.prog w = .ok 1 w := fun w => by simp [sizeOf, typeInfo, hi, hz1]
  have hnat : (1 : Int).toNat = 1 := rfl
  rw [run_sliceAt_slice _ _ _ _ _ _ hu2, run_slice_l _ _ _ _ _ hu2 _ _ (by omega) (by omega), he, hsz]
  simp only [Result.andThen_ok, sliced, hnat]
  unfold tailA
  by_cases hc : c = 1
  · rw [if_pos hc, if_pos hc]
  · rw [if_neg hc, if_neg hc]
    simp [Addr.add_mid]
theorem OwnInts.tail {v : Value} {bk off cap : Nat} {x : Int} (h : OwnInts w S D v (x :: l)) (hv : v = .slice (some ⟨bk, off, none⟩) (l.length + 1) cap) : OwnInts w S D (.slice (some (tailA bk off cap)) l.length (cap - 1)) l := by
  obtain ⟨a, c, e, hc, h0 | ⟨bk', off', ha, hb, hx⟩⟩ := h.at'.ex
  · simp at h0
  rw [hv] at e
  simp only [Value.slice.injEq, List.length_cons] at e
  obtain ⟨e1, _, e3⟩ := e
  subst e1 e3
  cases ha
  rw [List.length_cons] at hc
  have hmx := h.mx
  rw [List.length_cons] at hmx
  refine ⟨⟨⟨_, _, rfl, by omega, ?_⟩, fun y hy => h.at'.lo y (List.mem_cons_of_mem _ hy), by unfold maxLen; omega⟩, fun a bk' off' n c h0 e1 e2 => ?_, by omega, fun n c e => by simp at e⟩
  · by_cases hl : l.length = 0
    · exact Or.inl hl
    · refine Or.inr ⟨bk, off + 1, by unfold tailA; rw [if_neg (by omega)], hb, fun j hj => ?_⟩
      have := hx (j + 1) (by simp; omega)
      rw [Nat.add_assoc, Nat.add_comm 1 j]
      simpa using this
  · simp only [Value.slice.injEq] at e1
    refine h.own _ bk off _ _ (by simp) hv rfl |>.imp (fun h => ?_) (fun h => ?_)
    · rw [← e1.1] at e2
      unfold tailA at e2
      split at e2 <;> (cases e2; exact h)
    · rw [← e1.1] at e2
      unfold tailA at e2
      split at e2 <;> (cases e2; exact h)
set_option maxHeartbeats 3200000 in
set_option maxRecDepth 100000 in
theorem runlock_no (h : MxAt w base D S who l) (t : Int) (hz : t < 0 ∨ ¬ who = t) : Calls Try.prog 57 #[.pointer (some ⟨D, 0, none⟩), .int .i64 t] w fun e w' => e = .returned (.tuple #[.int .i64 0, .int .i64 13]) ∧ w' = w := by
  obtain ⟨a, cap, hb, c0, c1, _, _, ho⟩ := h.cells
  clear hb ho h
  by_cases h1 : t < 0
  · have q1 : decide (t < 0) = true := decide_eq_true h1
    clear hz
    go_enter Try.func57, Try.ntmps57
    go_wp2
    go_ret2
    exact ⟨rfl, rfl⟩
  · have q1 : decide (t < 0) = false := decide_eq_false h1
    have q2 : (who == t) = false := beq_eq_false_iff_ne.2 (hz.elim (fun h => absurd h h1) id)
    clear hz
    go_enter Try.func57, Try.ntmps57
    go_wp2
    go_ret2
    exact ⟨rfl, rfl⟩
set_option maxHeartbeats 3200000 in
set_option maxRecDepth 100000 in
theorem runlock_yes (h : MxAt w base D S who l) (h1 : ¬ who < 0) : Calls Try.prog 57 #[.pointer (some ⟨D, 0, none⟩), .int .i64 who] w fun e w' => e = .returned (.tuple #[.int .i64 (l.headD (-1)), .int .i64 0]) ∧ ∃ S', MxAt w' base D S' (l.headD (-1)) l.tail ∧ Kept w w' S S' := by
  have q1 : decide (who < 0) = false := decide_eq_false h1
  obtain ⟨a, cap, hb, c0, c1, f0, f1, ho⟩ := h.cells
  cases l with
  | nil =>
    have HP : Hid _ := h.setWho (-1)
    change w.cell? ⟨D, 1, none⟩ = some (.slice a 0 cap) at c1
    clear hb ho h h1
    go_enter Try.func57, Try.ntmps57
    go_wp2
    go_ret2
    exact ⟨rfl, S, HP.out⟩
  | cons x l =>
    obtain ⟨a', cap', e, _, h0 | ⟨bk, off, rfl, hbk, hx⟩⟩ := ho.at'.ex
    · simp at h0
    simp only [Value.slice.injEq] at e
    obtain ⟨rfl, _, rfl⟩ := e
    have z0 : w.cell? ⟨bk, off, none⟩ = some (.int .i64 x) := hx 0 (by simp)
    have hne := (ho.own _ bk off _ _ (by simp) rfl rfl).2
    have hsl := slice_tail1 bk off (l.length + 1) cap (by omega)
    obtain ⟨hm0, hk0⟩ := h.setWho (-1)
    obtain ⟨hm, hk⟩ := hm0.setWho x
    have ho2 : OwnInts ((w.setCell ⟨D, 0, none⟩ (.int .i64 (-1))).setCell ⟨D, 0, none⟩ (.int .i64 x)) S D (.slice (some (tailA bk off cap)) l.length (cap - 1)) l := (ho.tail rfl).keep (by simp) (fun b _ hb => by
      rw [heap_setCell_other _ ⟨D, 0, none⟩ _ _ (by simpa using hb), heap_setCell_other _ ⟨D, 0, none⟩ _ _ (by simpa using hb)])
    have HP : Hid _ := hm.setL (Below.refl _ _) ho2 (fun b hb => ⟨Or.inl hb, (hm.bd b hb).2⟩)
    have HK : Hid _ := hk0.trans hk
    have z1 : (w.setCell ⟨D, 0, none⟩ (.int .i64 (-1))).cell? ⟨bk, off, none⟩ = some (.int .i64 x) := (World.cell?_of_block (heap_setCell_other _ ⟨D, 0, none⟩ _ _ (by simpa using hne))).trans z0
    change w.cell? ⟨D, 1, none⟩ = some (.slice (some ⟨bk, off, none⟩) (l.length + 1) cap) at c1
    have q2 : decide ((0 : Int) < ((l.length + 1 : Nat) : Int)) = true := decide_eq_true (by omega)
    have e1 : l.length + 1 - 1 = l.length := by omega
    rw [e1] at hsl
    clear hx hm0 hk0 hm hk ho2 ho h hb h1 e1
    go_enter Try.func57, Try.ntmps57
    go_wp2
    go_ret2
    exact ⟨rfl, _, HP.out.1, HK.out.trans HP.out.2⟩
theorem runlock_any (h : MxAt w base D S who l) (t : Int) : Calls Try.prog 57 #[.pointer (some ⟨D, 0, none⟩), .int .i64 t] w fun e w' => e = .returned (.tuple #[.int .i64 (unN who l t), .int .i64 (unZ who t)]) ∧ ∃ S', MxAt w' base D S' (unW who l t) (unL who l t) ∧ Kept w w' S S' := by
  unfold unN unZ unW unL
  by_cases hz : t < 0 ∨ ¬ who = t
  · rw [if_pos hz, if_pos hz, if_pos hz, if_pos hz]
    refine (runlock_no h t hz).mono fun e w' ⟨h1, h2⟩ => ⟨h1, S, ?_⟩
    subst h2
    exact ⟨h, Kept.refl _ _⟩
  · rw [if_neg hz, if_neg hz, if_neg hz, if_neg hz]
    have h1 : who = t := Classical.byContradiction fun h => hz (Or.inr h)
    subst h1
    exact runlock_yes h (fun h => hz (Or.inl h))
end
end Go.Proofs.Ythhlglbohibekaa
namespace Go.Proofs.Ythhlglbohibekaa
open Go.RowKit

abbrev Wt : Type := Int × Bool × Bool
def waitC (x : Wt) : List Value := [.int .i64 x.1, .bool x.2.1, .bool x.2.2]
theorem waitC_len (x : Wt) : (waitC x).length = 3 := rfl
theorem waitC_one (x : Wt) : ∀ u ∈ waitC x, u.oneCell' = true := fun u hu => by
  simp only [waitC, List.mem_cons, List.not_mem_nil, or_false] at hu
  rcases hu with rfl | rfl | rfl <;> rfl
theorem OwnRow.ints {w : World} {S : Nat → Prop} {D : Nat} {v : Value} {l : List Int} (h : OwnRow intC w S D v l) (hlo : ∀ x ∈ l, okI x) (hl : l.length ≤ 65536) : OwnInts w S D v l := by
  refine ⟨h.at'.ints hlo hl, fun a bk off n cap h0 e1 e2 => h.own bk off n cap h0 (by rw [e1, e2]), hl, fun n cap e => ?_⟩
  obtain ⟨a, cap', e', _, h2, _⟩ := h.at'.ex
  rw [e] at e'
  simp only [Value.slice.injEq] at e'
  obtain ⟨e1, e2, e3⟩ := e'
  have := h2 e1.symm
  omega
theorem putL_mem {l : List Int} {n x : Int} (h : x ∈ putL l n) : x = n ∨ x ∈ l := by
  unfold putL at h
  rw [List.mem_append, List.mem_cons] at h
  rcases h with h | h | h
  · exact Or.inr ((List.takeWhile_sublist _).subset h)
  · exact Or.inl h
  · exact Or.inr ((List.dropWhile_sublist _).subset h)
theorem putL_length (l : List Int) (n : Int) : (putL l n).length = l.length + 1 := by
  unfold putL
  have := congrArg List.length (List.takeWhile_append_dropWhile (p := fun x => decide (x < n)) (l := l))
  rw [List.length_append] at this
  rw [List.length_append, List.length_cons]
  omega
abbrev RWT : TypeId := 89
structure RwAt (w : World) (base D : Nat) (S : Nat → Prop) (L : List Int) (wt : Bool) (q : List Wt) : Prop where
  ex : ∃ vl vq, w.heap[D]? = some (.cells #[vl, .bool wt, vq] RWT (0, 0)) ∧ OwnRow intC w S D vl L ∧ OwnRow waitC w S D vq q
  sD : S D
  bd : ∀ b, S b → base ≤ b ∧ b < w.heap.size
  lo : ∀ x ∈ L, okI x
  qlo : ∀ x ∈ q, okI x.1
section
variable {w w' : World} {base D : Nat} {S S' : Nat → Prop} {L L' : List Int} {wt wt' : Bool} {q q' : List Wt}
theorem RwAt.keep (h : RwAt w base D S L wt q) (hs : w.heap.size ≤ w'.heap.size) (hk : ∀ b, S b → w'.heap[b]? = w.heap[b]?) : RwAt w' base D S L wt q := by
  obtain ⟨vl, vq, h1, h2, h3⟩ := h.ex
  exact ⟨⟨vl, vq, (hk D h.sD).trans h1, h2.keep hs (fun b hb _ => hk b hb), h3.keep hs (fun b hb _ => hk b hb)⟩, h.sD, fun b hb => ⟨(h.bd b hb).1, Nat.lt_of_lt_of_le (h.bd b hb).2 hs⟩, h.lo, h.qlo⟩
theorem RwAt.fresh (h : RwAt w base D S L wt q) (k : Below w.heap.size w w') : RwAt w' base D S L wt q := h.keep k.size (fun b hb => k.block b (h.bd b hb).2)
theorem RwAt.drew (h : RwAt w base D S L wt q) : RwAt w.drew base D S L wt q := h.keep (Nat.le_refl _) (fun _ _ => rfl)
theorem RwAt.base_le (h : RwAt w base D S L wt q) : base ≤ w.heap.size := by have := h.bd D h.sD; omega
theorem RwAt.below (h : RwAt w base D S L wt q) (k : Kept w w' S S') : Below base w w' := k.low h.base_le (fun b hb => (h.bd b hb).1)
theorem RwAt.cells (h : RwAt w base D S L wt q) : ∃ a cap b cap2, w.heap[D]? = some (.cells #[.slice a L.length cap, .bool wt, .slice b q.length cap2] RWT (0, 0)) ∧ w.cell? ⟨D, 0, none⟩ = some (.slice a L.length cap) ∧ w.cell? ⟨D, 1, none⟩ = some (.bool wt) ∧ w.cell? ⟨D, 2, none⟩ = some (.slice b q.length cap2) ∧ w.frozen? ⟨D, 0, none⟩ = false ∧ w.frozen? ⟨D, 1, none⟩ = false ∧ w.frozen? ⟨D, 2, none⟩ = false ∧ OwnRow intC w S D (.slice a L.length cap) L ∧ OwnRow waitC w S D (.slice b q.length cap2) q ∧ D < w.heap.size := by
  obtain ⟨vl, vq, h1, h2, h3⟩ := h.ex
  obtain ⟨a, cap, rfl⟩ := h2.at'.form
  obtain ⟨b, cap2, rfl⟩ := h3.at'.form
  exact ⟨a, cap, b, cap2, h1, by simp [World.cell?, h1], by simp [World.cell?, h1], by simp [World.cell?, h1], by simp [World.frozen?, h1], by simp [World.frozen?, h1], by simp [World.frozen?, h1], h2, h3, lt_of_block h1⟩
theorem RwAt.kept1 (h : RwAt w base D S L wt q) (b : Below w.heap.size w w') (c : Nat) (v : Value) : Kept w (w'.setCell ⟨D, c, none⟩ v) S (fun x => S x ∨ w.heap.size ≤ x ∧ x < w'.heap.size) :=
  ⟨b.os, b.tape, b.output, by simpa using b.size, fun x hx => hx.imp id (fun h => h.1), fun x hx hn => by
    rw [heap_setCell_other _ _ _ _ (by
      show x ≠ D
      exact fun e => hn (by rw [e]; exact h.sD)), b.block x hx]⟩
theorem RwAt.setL (h : RwAt w base D S L wt q) (b : Below w.heap.size w w') {v : Value} (hv : OwnRow intC w' (fun x => S x ∨ w.heap.size ≤ x ∧ x < w'.heap.size) D v L') (hlo : ∀ x ∈ L', okI x) :
    RwAt (w'.setCell ⟨D, 0, none⟩ v) base D (fun x => S x ∨ w.heap.size ≤ x ∧ x < w'.heap.size) L' wt q := by
  obtain ⟨vl, vq, h1, h2, h3⟩ := (h.fresh b).ex
  have ho : ∀ x, x ≠ D → (w'.setCell ⟨D, 0, none⟩ v).heap[x]? = w'.heap[x]? := fun x hx => heap_setCell_other _ _ _ _ (by simpa using hx)
  have h5 : (w'.setCell ⟨D, 0, none⟩ v).heap[D]? = some (.cells #[v, .bool wt, vq] RWT (0, 0)) := by
    rw [heap_setCell_same w' D 0 _ _ _ h1]
    rfl
  have hbs := h.base_le
  exact ⟨⟨v, vq, h5, hv.keep (by simp) (fun x _ hx => ho x hx), (h3.keep (by simp) (fun x _ hx => ho x hx)).grow (fun x hx => Or.inl hx)⟩, Or.inl h.sD, fun x hx => ⟨hx.elim (fun hx => (h.bd x hx).1) (fun hx => by omega), by simpa using hx.elim (fun hx => Nat.lt_of_lt_of_le (h.bd x hx).2 b.size) (fun hx => hx.2)⟩, hlo, h.qlo⟩
theorem RwAt.setQ (h : RwAt w base D S L wt q) (b : Below w.heap.size w w') {v : Value} (hv : OwnRow waitC w' (fun x => S x ∨ w.heap.size ≤ x ∧ x < w'.heap.size) D v q') (hlo : ∀ x ∈ q', okI x.1) :
    RwAt (w'.setCell ⟨D, 2, none⟩ v) base D (fun x => S x ∨ w.heap.size ≤ x ∧ x < w'.heap.size) L wt q' := by
  obtain ⟨vl, vq, h1, h2, h3⟩ := (h.fresh b).ex
  have ho : ∀ x, x ≠ D → (w'.setCell ⟨D, 2, none⟩ v).heap[x]? = w'.heap[x]? := fun x hx => heap_setCell_other _ _ _ _ (by simpa using hx)
  have h5 : (w'.setCell ⟨D, 2, none⟩ v).heap[D]? = some (.cells #[vl, .bool wt, v] RWT (0, 0)) := by
    rw [heap_setCell_same w' D 2 _ _ _ h1]
    rfl
  have hbs := h.base_le
  exact ⟨⟨vl, v, h5, (h2.keep (by simp) (fun x _ hx => ho x hx)).grow (fun x hx => Or.inl hx), hv.keep (by simp) (fun x _ hx => ho x hx)⟩, Or.inl h.sD, fun x hx => ⟨hx.elim (fun hx => (h.bd x hx).1) (fun hx => by omega), by simpa using hx.elim (fun hx => Nat.lt_of_lt_of_le (h.bd x hx).2 b.size) (fun hx => hx.2)⟩, h.lo, hlo⟩
theorem RwAt.setW (h : RwAt w base D S L wt q) (x : Bool) : RwAt (w.setCell ⟨D, 1, none⟩ (.bool x)) base D S L x q ∧ Kept w (w.setCell ⟨D, 1, none⟩ (.bool x)) S S := by
  obtain ⟨vl, vq, h1, h2, h3⟩ := h.ex
  have ho : ∀ y, y ≠ D → (w.setCell ⟨D, 1, none⟩ (.bool x)).heap[y]? = w.heap[y]? := fun y hy => heap_setCell_other _ _ _ _ (by simpa using hy)
  have h5 : (w.setCell ⟨D, 1, none⟩ (.bool x)).heap[D]? = some (.cells #[vl, .bool x, vq] RWT (0, 0)) := by
    rw [heap_setCell_same w D 1 _ _ _ h1]
    rfl
  exact ⟨⟨⟨vl, vq, h5, h2.keep (by simp) (fun b _ hb => ho b hb), h3.keep (by simp) (fun b _ hb => ho b hb)⟩, h.sD, fun b hb => ⟨(h.bd b hb).1, by simpa using (h.bd b hb).2⟩, h.lo, h.qlo⟩, ⟨rfl, rfl, rfl, by simp, fun _ hs => Or.inl hs, fun b _ hs => ho b (fun e => hs (by rw [e]; exact h.sD))⟩⟩
def fitsB (L : List Int) (wt : Bool) (rd : Bool) : Bool := decide (L.length = 0) || (rd && !wt)
theorem rfits_any (h : RwAt w base D S L wt q) (rd : Bool) : Calls Try.prog 63 #[.pointer (some ⟨D, 0, none⟩), .bool rd] w fun e w' => e = .returned (.bool (fitsB L wt rd)) ∧ w = w' := by
  obtain ⟨a, cap, b, cap2, _, c0, c1, c2, _⟩ := h.cells
  clear h
  unfold fitsB
  by_cases h0 : L.length = 0
  · rw [decide_eq_true h0, Bool.true_or]
    have q0 : ((L.length : Int) == 0) = true := by rw [beq_iff_eq]; omega
    have H0 : Hid _ := h0
    clear h0
    go_enter Try.func63, Try.ntmps63
    go_wp2
    go_ret
    exact ⟨rfl, rfl⟩
  · rw [decide_eq_false h0, Bool.false_or]
    have q0 : ((L.length : Int) == 0) = false := by rw [beq_eq_false_iff_ne]; omega
    clear h0
    cases rd with
    | false =>
      go_enter Try.func63, Try.ntmps63
      go_wp2
      go_ret
      exact ⟨rfl, rfl⟩
    | true =>
      go_enter Try.func63, Try.ntmps63
      go_wp2
      go_ret
      exact ⟨rfl, rfl⟩
theorem rgive_any (h : RwAt w base D S L wt q) (t : Int) (ht : okI t) (rd : Bool) (hL : L.length < 65536) : Calls Try.prog 64 #[.pointer (some ⟨D, 0, none⟩), .int .i64 t, .bool rd] w fun e w' => e = .returned (.tuple #[]) ∧ ∃ S', RwAt w' base D S' (putL L t) (!rd) q ∧ Kept w w' S S' ∧ (∀ b, S b → S' b) ∧ (∀ b, b < w.heap.size → b ≠ D → w'.heap[b]? = w.heap[b]?) ∧ w'.cell? ⟨D, 2, none⟩ = w.cell? ⟨D, 2, none⟩ := by
  obtain ⟨a, cap, b, cap2, hb, c0, c1, c2, f0, f1, f2, hl, hq, hD⟩ := h.cells
  have hp := put_any w S D _ L t (hl.ints h.lo (by omega)) hL
  have fin : ∀ (w1 : World) (u : Value), w1.ownsRow w.heap.size 3 1 u (putL L t).length (intL (putL L t)) → Below w.heap.size w w1 → ∃ S', RwAt ((w1.setCell ⟨D, 0, none⟩ u).setCell ⟨D, 1, none⟩ (.bool (!rd))) base D S' (putL L t) (!rd) q ∧ Kept w ((w1.setCell ⟨D, 0, none⟩ u).setCell ⟨D, 1, none⟩ (.bool (!rd))) S S' ∧ (∀ b, S b → S' b) ∧ (∀ b, b < w.heap.size → b ≠ D → ((w1.setCell ⟨D, 0, none⟩ u).setCell ⟨D, 1, none⟩ (.bool (!rd))).heap[b]? = w.heap[b]?) ∧ ((w1.setCell ⟨D, 0, none⟩ u).setCell ⟨D, 1, none⟩ (.bool (!rd))).cell? ⟨D, 2, none⟩ = w.cell? ⟨D, 2, none⟩ := fun w1 u ho b1 => by
    have h1 := h.setL b1 (OwnRow.new (k := 1) (T := 3) intC_len (by rw [rowL_int]; exact ho) hD (fun x h1 h2 => Or.inr ⟨h1, h2⟩)) (fun x hx => by
      rcases putL_mem hx with e | hx
      · rw [e]; exact ht
      · exact h.lo x hx)
    have h2 := h1.setW (!rd)
    refine ⟨_, h2.1, (h.kept1 b1 0 u).trans h2.2, fun b hb => Or.inl hb, fun x hx hne => ?_, ?_⟩
    · rw [heap_setCell_other _ _ _ _ (by simpa using hne), heap_setCell_other _ _ _ _ (by simpa using hne), b1.block x hx]
    · have g1 := (b1.block D hD).trans hb
      have g2 : (w1.setCell ⟨D, 0, none⟩ u).heap[D]? = some (.cells #[u, .bool wt, .slice b q.length cap2] RWT (0, 0)) := by
        rw [heap_setCell_same w1 D 0 _ _ _ g1]
        rfl
      have g3 : ((w1.setCell ⟨D, 0, none⟩ u).setCell ⟨D, 1, none⟩ (.bool (!rd))).heap[D]? = some (.cells #[u, .bool (!rd), .slice b q.length cap2] RWT (0, 0)) := by
        rw [heap_setCell_same _ D 1 _ _ _ g2]
        rfl
      rw [c2]
      simp [World.cell?, g3]
  have FIN : Hid _ := fin
  clear fin hb hl hq h
  go_enter Try.func64, Try.ntmps64
  go_wp2_with (go_at_call 68; refine hp.mono ?_; rintro e w1 ⟨u, rfl, ho, b1⟩; obtain ⟨p1, n1, q1, rfl⟩ := own_form ho; have z0 := (b1.cell (p := ⟨D, 0, none⟩) (by exact hD)).trans c0; have y0 := (b1.frozen (p := ⟨D, 0, none⟩) (by exact hD)).trans f0; have z1 := (b1.cell (p := ⟨D, 1, none⟩) (by exact hD)).trans c1; have y1 := (b1.frozen (p := ⟨D, 1, none⟩) (by exact hD)).trans f1)
  go_returns
  exact ⟨rfl, FIN.out _ _ ho b1⟩
end
theorem RwAt.low {w : World} {base base' D : Nat} {S : Nat → Prop} {L : List Int} {wt : Bool} {q : List Wt} (h : RwAt w base D S L wt q) (hb : base' ≤ base) : RwAt w base' D S L wt q :=
  ⟨h.ex, h.sD, fun b hb2 => ⟨Nat.le_trans hb (h.bd b hb2).1, (h.bd b hb2).2⟩, h.lo, h.qlo⟩
theorem RwAt.new (w : World) : RwAt (w.alloc (.cells #[.slice none 0 0, .bool false, .slice none 0 0] RWT)) w.heap.size w.heap.size (fun b => b = w.heap.size) [] false [] :=
  ⟨⟨_, _, heap_alloc_new w _, OwnRow.nil _ _ _, OwnRow.nil _ _ _⟩, rfl, fun b hb => ⟨by omega, by simp; omega⟩, fun x hx => (by cases hx), fun x hx => (by cases hx)⟩
end Go.Proofs.Ythhlglbohibekaa
namespace Go.Proofs.Ythhlglbohibekaa
open Go.RowKit

theorem infoW : (Try.prog.info? 116).map (fun i => (i.zero, i.size, i.bytes)) = some (some (.agg #[.int .i64 0, .bool false, .bool false]), 3, 16) := by kernel_rfl
def heldB (L : List Int) (q : List Wt) (t : Int) : Bool := hasB L t || q.any fun x => x.1 == t
def rwZ (L : List Int) (q : List Wt) (t : Int) : Int := if t < 0 then 1 else if heldB L q t = true then 12 else 0
def rwB (L : List Int) (wt : Bool) (q : List Wt) (t : Int) (rd : Bool) : Bool := decide (rwZ L q t = 0) && decide (q.length = 0) && fitsB L wt rd
def rwSt (L : List Int) (wt : Bool) (q : List Wt) (t : Int) (rd : Bool) : List Int × Bool × List Wt := if rwZ L q t = 0 then (if rwB L wt q t rd = true then (putL L t, !rd, q) else (L, wt, q ++ [(t, rd, true)])) else (L, wt, q)
def heldK (L : List Int) (q : List Wt) (t : Int) (k : Nat) : Bool := hasB L t || (q.take k).any fun x => x.1 == t
theorem heldK_succ (L : List Int) (q : List Wt) (t : Int) (k : Nat) (hk : k < q.length) : heldK L q t (k + 1) = (heldK L q t k || (q[k].1 == t)) := by
  unfold heldK
  rw [List.take_succ_eq_append_getElem hk, List.any_append]
  simp [Bool.or_assoc]
section
variable {w : World} {base D : Nat} {S : Nat → Prop} {L : List Int} {wt : Bool} {q : List Wt}
set_option maxHeartbeats 3200000 in
set_option maxRecDepth 100000 in
theorem rwlock_any (h : RwAt w base D S L wt q) (t : Int) (ht : okI t) (rd : Bool) (hL : L.length < 65536) (hQ : q.length < 65536) :
    Calls Try.prog 56 #[.pointer (some ⟨D, 0, none⟩), .int .i64 t, .bool rd] w fun e w' => e = .returned (.tuple #[.bool (rwB L wt q t rd), .int .i64 (rwZ L q t)]) ∧ ∃ S', RwAt w' base D S' (rwSt L wt q t rd).1 (rwSt L wt q t rd).2.1 (rwSt L wt q t rd).2.2 ∧ Kept w w' S S' := by
  obtain ⟨a, cap, b, cap2, hb, c0, c1, c2, f0, f1, f2, hl, hq, hD⟩ := h.cells
  have hh := (has_any w _ L t (hl.at'.ints h.lo (by omega))).mono (fun e w' h => (⟨h.1, h.2.symm⟩ : e = .returned (.bool (hasB L t)) ∧ w = w'))
  have HC : Hid _ := h
  by_cases h1 : t < 0
  · have q1 : decide (t < 0) = true := decide_eq_true h1
    have e1 : rwZ L q t = 1 := by unfold rwZ; rw [if_pos h1]
    have e2 : rwB L wt q t rd = false := by unfold rwB; rw [e1]; rfl
    have e3 : rwSt L wt q t rd = (L, wt, q) := by unfold rwSt; rw [e1, if_neg (by decide)]
    rw [e1, e2, e3]
    clear hb hl hq h hh e1 e2 e3
    go_enter Try.func56, Try.ntmps56
    go_wp2
    go_ret2
    exact ⟨rfl, S, HC.out, Kept.refl _ _⟩
  have fin : ∀ (w3 : World) (u3 : Value), Below w.heap.size w w3 → w3.ownsRow w.heap.size 116 3 u3 (q.length + 1) (rowL waitC (q ++ [(t, rd, true)])) → ∃ S', RwAt (w3.setCell ⟨D, 2, none⟩ u3) base D S' L wt (q ++ [(t, rd, true)]) ∧ Kept w (w3.setCell ⟨D, 2, none⟩ u3) S S' := fun w3 u3 b3 r3 =>
    ⟨_, h.setQ b3 (OwnRow.new (k := 3) (T := 116) waitC_len (by rw [List.length_append]; exact r3) hD (fun x h1 h2 => Or.inr ⟨h1, h2⟩)) (fun x hx => by
      rcases List.mem_append.1 hx with hx | hx
      · exact h.qlo x hx
      · rw [List.mem_singleton] at hx
        rw [hx]
        exact ht), h.kept1 b3 2 u3⟩
  have FIN : Hid _ := fin
  obtain ⟨i0, hi, hz0, hz1, hz2⟩ := info_parts infoW
  clear fin
  have q1 : decide (t < 0) = false := decide_eq_false h1
  have H1 : Hid _ := h1
  have HQ : Hid _ := hq.at'
  have HOQ : Hid _ := hq
  clear hb hl hq h
  go_enter Try.func56, Try.ntmps56
  go_wp2_with (go_at_call 51; refine hh.mono ?_; rintro e w1 ⟨rfl, rfl⟩)
  go_loop [8, 9] (fun hd i => ∃ k : Nat, k ≤ q.length ∧ i = .int .i64 k ∧ hd = .bool (heldK L q t k)) (fun _ i => q.length - (intOf i).toNat)
  case atStart => exact ⟨0, Nat.zero_le _, rfl, by unfold heldK; simp⟩
  case round =>
    obtain ⟨k, hk, rfl, rfl⟩ := hrel
    by_cases hkl : k < q.length
    · obtain ⟨bk, off, cp, e, hcap, hbk, hx⟩ := HQ.out.cells waitC_len (by omega)
      simp only [Value.slice.injEq] at e
      obtain ⟨rfl, _, rfl⟩ := e
      have z0 : w.cell? ⟨bk, off + k * 3, none⟩ = some (.int .i64 q[k].1) := hx k hkl 0 _ (by decide) rfl
      have HS : Hid _ := heldK_succ L q t k hkl
      clear hx
      cases hb : heldK L q t k with
      | true =>
        have HS2 : Hid (heldK L q t (k + 1) = true) := by
          have := HS.out
          rw [hb, Bool.true_or] at this
          exact this
        clear HS hb
        go_wp2
        go_round
        case rel => exact ⟨k + 1, hkl, by go_num, by rw [HS2.out]⟩
        case measure => simp [intOf]; omega
      | false =>
        have HS2 : Hid (heldK L q t (k + 1) = (q[k].1 == t)) := by
          have := HS.out
          rw [hb, Bool.false_or] at this
          exact this
        clear HS hb
        go_wp2
        go_round
        case rel => exact ⟨k + 1, hkl, by go_num, by rw [HS2.out]⟩
        case measure => simp [intOf]; omega
    · have hke : k = q.length := by omega
      subst hke
      have he : heldK L q t q.length = heldB L q t := by unfold heldK heldB; rw [List.take_length]
      rw [he]
      cases hb : heldB L q t with
      | true =>
        have e1 : rwZ L q t = 12 := by unfold rwZ; rw [if_neg H1.out, if_pos hb]
        have HE1 : Hid _ := e1
        have HE2 : Hid (rwB L wt q t rd = false) := by
          show _ = _
          unfold rwB
          rw [e1]
          rfl
        have HE3 : Hid (rwSt L wt q t rd = (L, wt, q)) := by
          show _ = _
          unfold rwSt
          rw [e1, if_neg (by decide)]
        clear hb he e1 hk
        go_wp2
        go_ret2
        exact ⟨by rw [HE1.out, HE2.out]; rfl, S, by rw [HE3.out]; exact HC.out, Kept.refl _ _⟩
      | false =>
        have e1 : rwZ L q t = 0 := by unfold rwZ; rw [if_neg H1.out, hb]; rfl
        have HE1 : Hid _ := e1
        clear hb he hk
        by_cases h0 : q.length = 0
        · have q0 : ((q.length : Int) == 0) = true := by rw [beq_iff_eq]; omega
          have hf := rfits_any HC.out rd
          cases hfb : fitsB L wt rd with
          | true =>
            rw [hfb] at hf
            have hg := rgive_any HC.out t ht rd hL
            have HE2 : Hid (rwB L wt q t rd = true) := by
              show _ = _
              unfold rwB
              rw [e1, h0, hfb]
              rfl
            have HE3 : Hid (rwSt L wt q t rd = (putL L t, !rd, q)) := by
              show _ = _
              unfold rwSt
              rw [e1, if_pos rfl, HE2.out, if_pos rfl]
            clear hfb h0 e1
            go_wp2_with (first
              | (go_at_call 64; refine hg.mono ?_; rintro e w2 ⟨rfl, S2, hr2, hk2, _⟩)
              | (go_at_call 63; refine hf.mono ?_; rintro e w1 ⟨rfl, rfl⟩))
            go_ret2
            exact ⟨by rw [HE1.out, HE2.out]; rfl, S2, by rw [HE3.out]; exact hr2, hk2⟩
          | false =>
            rw [hfb] at hf
            have HE2 : Hid (rwB L wt q t rd = false) := by
              show _ = _
              unfold rwB
              rw [hfb, Bool.and_false]
            have HE3 : Hid (rwSt L wt q t rd = (L, wt, q ++ [(t, rd, true)])) := by
              show _ = _
              unfold rwSt
              rw [e1, if_pos rfl, HE2.out, if_neg (by decide)]
            have H0 : Hid _ := h0
            clear hfb h0 e1
            go_wp2_with (first
              | (at_builtin; have kz := d2; refine wpList_app_row (k := 3) (enc := waitC) (l := [(t, rd, true)]) rfl (.tmp 61) (.tmp 65) 87 116 rfl i0 _ 16 Try.underlying87 hi hz0 hz1 hz2 rfl (by decide) waitC_len waitC_one rfl rfl (h2.alloc _) (RowAt.built (heap_alloc_new w2 _) rfl 1 rfl rfl) (by simp; have := d2.size; omega) (by simp; omega) (by simp; omega) ?_; intro u3 w3 h3 b3; obtain ⟨p3, n3, q3, rfl⟩ := own_form h3; have b4 : Below w.heap.size w w3 := (d2.alloc d2.size _).trans b3.below; have z3 := (b4.cell (p := ⟨D, 2, none⟩) (by exact hD)).trans c2; have y3 := (b4.frozen (p := ⟨D, 2, none⟩) (by exact hD)).trans f2)
              | (at_builtin; refine wpList_app_row (k := 3) (enc := waitC) (l := q) rfl (.const (.slice none 0 0)) (.tmp 60) 87 116 rfl i0 _ 16 Try.underlying87 hi hz0 hz1 hz2 rfl (by decide) waitC_len waitC_one (base := w.heap.size) (n := 0) (xs := []) rfl rfl (World.ownsRow_nil _ _ _ _) HQ.out (Nat.le_refl _) (by omega) (by omega) ?_; intro u2 w2 h2 dd2; have d2 := dd2.below)
              | (go_at_call 63; refine hf.mono ?_; rintro e w1 ⟨rfl, rfl⟩))
            go_ret2
            refine ⟨by rw [HE1.out, HE2.out]; rfl, ?_⟩
            rw [HE3.out]
            refine FIN.out _ _ b4 ?_
            have e3 : 0 + q.length + [(t, rd, true)].length = q.length + 1 := by simp
            have e4 : [] ++ rowL waitC q ++ rowL waitC [(t, rd, true)] = rowL waitC (q ++ [(t, rd, true)]) := by rw [rowL_append]; simp
            rw [e3, e4] at h3
            exact h3
        · have q0 : ((q.length : Int) == 0) = false := by rw [beq_eq_false_iff_ne]; omega
          have HE2 : Hid (rwB L wt q t rd = false) := by
            show _ = _
            unfold rwB
            rw [decide_eq_false h0, Bool.and_false, Bool.false_and]
          have HE3 : Hid (rwSt L wt q t rd = (L, wt, q ++ [(t, rd, true)])) := by
            show _ = _
            unfold rwSt
            rw [e1, if_pos rfl, HE2.out, if_neg (by decide)]
          clear h0 e1
          go_wp2_with (first
            | (at_builtin; have kz := d2; refine wpList_app_row (k := 3) (enc := waitC) (l := [(t, rd, true)]) rfl (.tmp 61) (.tmp 65) 87 116 rfl i0 _ 16 Try.underlying87 hi hz0 hz1 hz2 rfl (by decide) waitC_len waitC_one rfl rfl (h2.alloc _) (RowAt.built (heap_alloc_new w2 _) rfl 1 rfl rfl) (by simp; have := d2.size; omega) (by simp; omega) (by simp; omega) ?_; intro u3 w3 h3 b3; obtain ⟨p3, n3, q3, rfl⟩ := own_form h3; have b4 : Below w.heap.size w w3 := (d2.alloc d2.size _).trans b3.below; have z3 := (b4.cell (p := ⟨D, 2, none⟩) (by exact hD)).trans c2; have y3 := (b4.frozen (p := ⟨D, 2, none⟩) (by exact hD)).trans f2)
            | (at_builtin; refine wpList_app_row (k := 3) (enc := waitC) (l := q) rfl (.const (.slice none 0 0)) (.tmp 60) 87 116 rfl i0 _ 16 Try.underlying87 hi hz0 hz1 hz2 rfl (by decide) waitC_len waitC_one (base := w.heap.size) (n := 0) (xs := []) rfl rfl (World.ownsRow_nil _ _ _ _) HQ.out (Nat.le_refl _) (by omega) (by omega) ?_; intro u2 w2 h2 dd2; have d2 := dd2.below))
          go_ret2
          refine ⟨by rw [HE1.out, HE2.out]; rfl, ?_⟩
          rw [HE3.out]
          refine FIN.out _ _ b4 ?_
          have e3 : 0 + q.length + [(t, rd, true)].length = q.length + 1 := by simp
          have e4 : [] ++ rowL waitC q ++ rowL waitC [(t, rd, true)] = rowL waitC (q ++ [(t, rd, true)]) := by rw [rowL_append]; simp
          rw [e3, e4] at h3
          exact h3
end
end Go.Proofs.Ythhlglbohibekaa
namespace Go.Proofs.Ythhlglbohibekaa
open Go.RowKit

def rwGo : List Int → Bool → List Wt → List Int × List Int × Bool × List Wt
  | L, wt, [] => ([], L, wt, [])
  | L, wt, x :: q => if fitsB L wt x.2.1 = true then (x.1 :: (rwGo (putL L x.1) (!x.2.1) q).1, (rwGo (putL L x.1) (!x.2.1) q).2) else ([], L, wt, x :: q)
theorem rwGo_stop (L : List Int) (wt : Bool) (q : List Wt) (h : ∀ x q', q = x :: q' → fitsB L wt x.2.1 = false) : rwGo L wt q = ([], L, wt, q) := by
  cases q with
  | nil => rfl
  | cons x q =>
    unfold rwGo
    rw [h x q rfl]
    rfl
theorem rwGo_step (L : List Int) (wt : Bool) (x : Wt) (q : List Wt) (h : fitsB L wt x.2.1 = true) : rwGo L wt (x :: q) = (x.1 :: (rwGo (putL L x.1) (!x.2.1) q).1, (rwGo (putL L x.1) (!x.2.1) q).2) := by
  rw [rwGo, if_pos h]
def rwUE (L : List Int) (wt : Bool) (t : Int) (rd : Bool) : Bool := !hasB L t || (wt == rd)
def rwUZ (L : List Int) (wt : Bool) (t : Int) (rd : Bool) : Int := if rwUE L wt t rd = true then 13 else 0
def rwU (L : List Int) (wt : Bool) (q : List Wt) (t : Int) (rd : Bool) : List Int × List Int × Bool × List Wt := if rwUE L wt t rd = true then ([], L, wt, q) else rwGo (dropL L t) wt q
theorem dropL_mem {l : List Int} {n x : Int} (h : x ∈ dropL l n) : x ∈ l := (List.mem_filter.1 h).1
section
variable {w : World} {base D : Nat} {S : Nat → Prop} {L : List Int} {wt : Bool} {q : List Wt}
set_option maxHeartbeats 6400000 in
set_option maxRecDepth 100000 in
theorem rwunlock_out (h : RwAt w base D S L wt q) (t : Int) (rd : Bool) (hN : L.length + q.length < 65536) :
    Calls Try.prog 58 #[.pointer (some ⟨D, 0, none⟩), .int .i64 t, .bool rd] w fun e w' => ∃ u, e = .returned (.tuple #[u, .int .i64 (rwUZ L wt t rd)]) ∧ (RowAt intC w' u (rwU L wt q t rd).1 ∧ OutOf S w.heap.size u) ∧ ∃ S', RwAt w' base D S' (rwU L wt q t rd).2.1 (rwU L wt q t rd).2.2.1 (rwU L wt q t rd).2.2.2 ∧ Kept w w' S S' := by
  obtain ⟨a, cap, b, cap2, hb, c0, c1, c2, f0, f1, f2, hl, hq, hD⟩ := h.cells
  have hi := hl.at'.ints h.lo (by omega)
  have hh := (has_any w _ L t hi).mono (fun e w' h => (⟨h.1, h.2.symm⟩ : e = .returned (.bool (hasB L t)) ∧ w = w'))
  have HC : Hid _ := h
  cases hE : rwUE L wt t rd with
  | true =>
    have HZ : Hid (rwUZ L wt t rd = 13) := by show _ = _; unfold rwUZ; rw [hE]; rfl
    have HU : Hid (rwU L wt q t rd = ([], L, wt, q)) := by show _ = _; unfold rwU; rw [hE]; rfl
    unfold rwUE at hE
    clear hb hl hq h hi
    cases hHas : hasB L t with
    | false =>
      rw [hHas] at hh
      clear hE hHas
      go_enter Try.func58, Try.ntmps58
      go_wp2_with (go_at_call 51; refine hh.mono ?_; rintro e w1 ⟨rfl, rfl⟩)
      go_ret2
      exact ⟨_, by rw [HZ.out]; rfl, ⟨by rw [HU.out]; exact RowAt.nil w, OutOf.nil _ _⟩, S, by rw [HU.out]; exact HC.out, Kept.refl _ _⟩
    | true =>
      rw [hHas] at hh hE
      have q2 : (wt == rd) = true := by simpa using hE
      clear hE hHas
      go_enter Try.func58, Try.ntmps58
      go_wp2_with (go_at_call 51; refine hh.mono ?_; rintro e w1 ⟨rfl, rfl⟩)
      go_ret2
      exact ⟨_, by rw [HZ.out]; rfl, ⟨by rw [HU.out]; exact RowAt.nil w, OutOf.nil _ _⟩, S, by rw [HU.out]; exact HC.out, Kept.refl _ _⟩
  | false =>
    have HZ : Hid (rwUZ L wt t rd = 0) := by show _ = _; unfold rwUZ; rw [hE]; rfl
    have HU : Hid (rwU L wt q t rd = rwGo (dropL L t) wt q) := by show _ = _; unfold rwU; rw [hE]; rfl
    unfold rwUE at hE
    simp only [Bool.or_eq_false_iff, Bool.not_eq_false'] at hE
    obtain ⟨hHas, q2⟩ := hE
    rw [hHas] at hh
    have hd := drop_any w _ L t hi (by omega)
    have hdl := dropL_le L t
    have fin : ∀ (w1 : World) (u : Value), w1.ownsRow w.heap.size 3 1 u (dropL L t).length (intL (dropL L t)) → Below w.heap.size w w1 → ∃ S', RwAt (w1.setCell ⟨D, 0, none⟩ u) base D S' (dropL L t) wt q ∧ Kept w (w1.setCell ⟨D, 0, none⟩ u) S S' := fun w1 u ho b1 =>
      ⟨_, h.setL b1 (OwnRow.new (k := 1) (T := 3) intC_len (by rw [rowL_int]; exact ho) hD (fun x h1 h2 => Or.inr ⟨h1, h2⟩)) (fun x hx => h.lo x (dropL_mem hx)), h.kept1 b1 0 u⟩
    have FIN : Hid _ := fin
    obtain ⟨i0, hi, hz0, hz1, hz2⟩ := info_parts infoI
    obtain ⟨i1, hj, hy0, hy1, hy2⟩ := info_parts infoW
    have HDL : Hid (∃ dl, dl = dropL L t) := ⟨_, rfl⟩
    obtain ⟨dl, hdle⟩ := HDL.out
    rw [← hdle] at hdl
    have HDE : Hid _ := hdle
    clear fin hb hl hq h hHas hdle
    go_enter Try.func58, Try.ntmps58
    go_wp2_with (first
      | (go_at_call 65; refine hd.mono ?_; rintro e w1 ⟨u, rfl, ho, b1⟩; obtain ⟨p1, n1, m1, rfl⟩ := own_form ho; have z0 := (b1.cell (p := ⟨D, 0, none⟩) (by exact hD)).trans c0; have y0 := (b1.frozen (p := ⟨D, 0, none⟩) (by exact hD)).trans f0)
      | (go_at_call 51; refine hh.mono ?_; rintro e w1 ⟨rfl, rfl⟩))
    obtain ⟨S1, hr1, hk1⟩ := FIN.out _ _ ho b1
    rw [← HDE.out] at hr1 HU
    generalize hw2 : w1.setCell ⟨D, 0, none⟩ (.slice p1 n1 m1) = w2 at *
    clear hw2 hd hh ho b1 z0 y0 c0 c1 c2 f0 f1 f2 FIN HDE HDL
    go_loopw [8] (fun g wr => ∃ (L' : List Int) (wt' : Bool) (q' : List Wt) (got : List Int) (S' : Nat → Prop), RwAt wr base D S' L' wt' q' ∧ Kept w wr S S' ∧ wr.ownsRow w.heap.size 3 1 g got.length (intL got) ∧ (∀ x, g.ownBlock = some x → ¬ S' x) ∧ Hid (rwGo dl wt q = (got ++ (rwGo L' wt' q').1, (rwGo L' wt' q').2)) ∧ L'.length + q'.length < 65536 ∧ got.length + q'.length ≤ q.length) (fun _ wr => match wr.cell? ⟨D, 2, none⟩ with | some (.slice _ n _) => n | _ => 0)
    case atStart => exact ⟨dl, wt, q, [], S1, hr1, hk1, World.ownsRow_nil _ _ _ _, fun x e => (by simp [Value.ownBlock] at e), by show _ = _; simp, by omega, by simp⟩
    case round =>
      obtain ⟨L', wt', q', got, S', hr, hk, hown, hne, HG, hN', hgq⟩ := hrel
      clear hr1 hk1
      obtain ⟨pg, ng, mg, rfl⟩ := own_form hown
      obtain ⟨a', cap', b', cap2, hb, c0, c1, c2, f0, f1, f2, hl, hq, hD2⟩ := hr.cells
      have HR : Hid _ := hr
      cases q' with
      | nil =>
        have HG2 : Hid (rwU L wt q t rd = (got, L', wt', [])) := by
          show _ = _
          rw [HU.out, HG.out]
          simp [rwGo]
        have hlen : ([] : List Wt).length = 0 := rfl
        rw [hlen] at c2
        have HO : Hid _ := hown
        clear hb hl hq hr HG hown
        go_wp2
        go_ret2
        refine ⟨_, by rw [HZ.out]; rfl, ⟨?_, OutOf.own HO.out⟩, S', ?_, hk⟩
        · rw [HG2.out]
          exact RowAt.own (k := 1) (T := 3) (base := w.heap.size) intC_len (by rw [rowL_int]; exact HO.out)
        · rw [HG2.out]
          exact HR.out
      | cons x qs =>
        obtain ⟨bk, off, cp, e, hcap, hbk, hx⟩ := hq.at'.cells waitC_len (by simp)
        simp only [Value.slice.injEq] at e
        obtain ⟨rfl, _, rfl⟩ := e
        have z1 : wr.cell? ⟨bk, off, none⟩ = some (.int .i64 x.1) := hx 0 (by simp) 0 _ (by decide) rfl
        have z2 : wr.cell? ⟨bk, off + 1, none⟩ = some (.bool x.2.1) := hx 0 (by simp) 1 _ (by decide) rfl
        have hlen : (x :: qs).length = qs.length + 1 := rfl
        rw [hlen] at c2
        have hf := rfits_any hr x.2.1
        have q0 : decide ((0 : Int) < ((qs.length + 1 : Nat) : Int)) = true := decide_eq_true (by omega)
        cases hfb : fitsB L' wt' x.2.1 with
        | false =>
          rw [hfb] at hf
          have HG2 : Hid (rwU L wt q t rd = (got, L', wt', x :: qs)) := by
            show _ = _
            rw [HU.out, HG.out, rwGo_stop L' wt' (x :: qs) (fun y q' e => by cases e; exact hfb)]
            simp
          have HO : Hid _ := hown
          obtain ⟨x1, x2, x3⟩ := x
          simp only at z1 z2 hf
          clear hb hl hq hr HG hown hx hfb
          go_wp2_with (go_at_call 63; refine hf.mono ?_; rintro e w3 ⟨rfl, rfl⟩)
          go_ret2
          refine ⟨_, by rw [HZ.out]; rfl, ⟨?_, OutOf.own HO.out⟩, S', ?_, hk⟩
          · rw [HG2.out]
            exact RowAt.own (k := 1) (T := 3) (base := w.heap.size) intC_len (by rw [rowL_int]; exact HO.out)
          · rw [HG2.out]
            exact HR.out
        | true =>
          rw [hfb] at hf
          have HG2 : Hid (rwGo dl wt q = (got ++ [x.1] ++ (rwGo (putL L' x.1) (!x.2.1) qs).1, (rwGo (putL L' x.1) (!x.2.1) qs).2)) := by
            show _ = _
            rw [HG.out, rwGo_step L' wt' x qs hfb]
            simp
          have hg := rgive_any hr.drew x.1 (hr.qlo x (by simp)) x.2.1 (by simp at hN'; omega)
          have hxo := hr.qlo x (by simp)
          have HQL : Hid _ := hr.qlo
          obtain ⟨x1, x2, x3⟩ := x
          simp only at z1 z2 hf hg HG2
          have HO : Hid (wr.ownsRow w.heap.size 3 1 (.slice pg ng mg) got.length (intL got)) := hown
          have hbD := (hq.own bk off _ cap2 (by simp) rfl).2
          obtain ⟨v8, hsl0, hq8⟩ := hq.from 87 116 i1 Try.underlying87 (by kernel_rfl) hj hy1 waitC_len 1 (by simp)
          have hsl : ∀ w', (Instr.sliceAt 87 (.slice (some ⟨bk, off, none⟩) (qs.length + 1) cap2) (some (.int .i64 1)) none none).run Try.prog w' = .ok v8 w' := hsl0
          obtain ⟨a8, n8, c8, rfl⟩ : ∃ a8 n8 c8, v8 = .slice a8 n8 c8 := by
            obtain ⟨a8, c8, e8⟩ := hq8.at'.form
            exact ⟨a8, _, c8, e8⟩
          have HQ8 : Hid (OwnRow waitC wr S' D (.slice a8 n8 c8) qs) := hq8
          have hDS := hr.sD
          have hk5lt : ∀ b, S' b → b < wr.heap.size := fun b hb => (hr.bd b hb).2
          have hk5lt' : Hid _ := hk5lt
          clear hk5lt
          have hlD := (hr.bd D hDS).2
          clear hsl0 hq8
          clear hb hl hq hr HG hown hx hfb
          go_wp2_with (go_at_call 63; refine hf.mono ?_; rintro e w3 ⟨rfl, rfl⟩)
          refine wp_region_held_drew (S := (fun w' : World => w'.cell? ⟨D, 2, none⟩ = some (.slice (some ⟨bk, off, none⟩) (qs.length + 1) cap2) ∧ w'.cell? ⟨bk, off, none⟩ = some (.int .i64 x1) ∧ w'.cell? ⟨bk, off + 1, none⟩ = some (.bool x2))) (by kernel_rfl) ?_ (fun hHeld0 => ?_)
          · try dsimp only
            go_keep
          refine tk0 (.pointer (some ⟨D, 0, none⟩)) ?_ (fun w hSw => by (try dsimp only at hSw); obtain ⟨q0, q1, q2⟩ := hSw; go_simp)
          try simp only [Act.put, pu1, pu2, pu3]
          refine tk1 (.pointer (some ⟨D, 0, none⟩)) ?_ (fun w hSw => by (try dsimp only at hSw); obtain ⟨q0, q1, q2⟩ := hSw; go_simp)
          try simp only [Act.put, pu1, pu2, pu3]
          refine tk2 (.pointer (some ⟨D, 0, none⟩)) ?_ (fun w hSw => by (try dsimp only at hSw); obtain ⟨q0, q1, q2⟩ := hSw; go_simp)
          try simp only [Act.put, pu1, pu2, pu3]
          refine tk3 (.pointer (some ⟨D, 2, none⟩)) ?_ (fun w hSw => by (try dsimp only at hSw); obtain ⟨q0, q1, q2⟩ := hSw; go_simp)
          try simp only [Act.put, pu1, pu2, pu3]
          refine tk4 (.slice (some ⟨bk, off, none⟩) (qs.length + 1) cap2) ?_ (fun w hSw => by (try dsimp only at hSw); obtain ⟨q0, q1, q2⟩ := hSw; go_simp)
          try simp only [Act.put, pu1, pu2, pu3]
          refine tk5 (.pointer (some ⟨bk, off, none⟩)) ?_ (fun w hSw => by (try dsimp only at hSw); obtain ⟨q0, q1, q2⟩ := hSw; go_simp)
          try simp only [Act.put, pu1, pu2, pu3]
          refine tk6 (.pointer (some ⟨bk, off, none⟩)) ?_ (fun w hSw => by (try dsimp only at hSw); obtain ⟨q0, q1, q2⟩ := hSw; go_simp)
          try simp only [Act.put, pu1, pu2, pu3]
          refine tk7 (.int .i64 x1) ?_ (fun w hSw => by (try dsimp only at hSw); obtain ⟨q0, q1, q2⟩ := hSw; go_simp)
          try simp only [Act.put, pu1, pu2, pu3]
          refine tk8 (.pointer (some ⟨D, 0, none⟩)) ?_ (fun w hSw => by (try dsimp only at hSw); obtain ⟨q0, q1, q2⟩ := hSw; go_simp)
          try simp only [Act.put, pu1, pu2, pu3]
          refine tk9 (.pointer (some ⟨D, 0, none⟩)) ?_ (fun w hSw => by (try dsimp only at hSw); obtain ⟨q0, q1, q2⟩ := hSw; go_simp)
          try simp only [Act.put, pu1, pu2, pu3]
          refine tk10 (.pointer (some ⟨D, 2, none⟩)) ?_ (fun w hSw => by (try dsimp only at hSw); obtain ⟨q0, q1, q2⟩ := hSw; go_simp)
          try simp only [Act.put, pu1, pu2, pu3]
          refine tk11 (.slice (some ⟨bk, off, none⟩) (qs.length + 1) cap2) ?_ (fun w hSw => by (try dsimp only at hSw); obtain ⟨q0, q1, q2⟩ := hSw; go_simp)
          try simp only [Act.put, pu1, pu2, pu3]
          refine tk12 (.pointer (some ⟨bk, off, none⟩)) ?_ (fun w hSw => by (try dsimp only at hSw); obtain ⟨q0, q1, q2⟩ := hSw; go_simp)
          try simp only [Act.put, pu1, pu2, pu3]
          refine tk13 (.pointer (some ⟨bk, off + 1, none⟩)) ?_ (fun w hSw => by (try dsimp only at hSw); obtain ⟨q0, q1, q2⟩ := hSw; go_simp)
          try simp only [Act.put, pu1, pu2, pu3]
          refine tk14 (.bool x2) ?_ (fun w hSw => by (try dsimp only at hSw); obtain ⟨q0, q1, q2⟩ := hSw; go_simp)
          try simp only [Act.put, pu1, pu2, pu3]
          refine cl15 (by kernel_rfl) rfl (fun K hK => ?_)
          go_simp
          go_at_call 64
          refine hg.mono ?_
          rintro e w5 ⟨rfl, S5, hr5, hk5, hs5, hf5, hc5⟩
          have y2 : w5.cell? ⟨D, 2, none⟩ = some (.slice (some ⟨bk, off, none⟩) (qs.length + 1) cap2) := hc5.trans c2
          have yb := hf5 bk hbk hbD
          have y3 : w5.cell? ⟨bk, off, none⟩ = some (.int .i64 x1) := (World.cell?_of_block yb).trans z1
          have y4 : w5.cell? ⟨bk, off + 1, none⟩ = some (.bool x2) := (World.cell?_of_block yb).trans z2
          refine hK.out _ _ ?_ (fun hHeld => ?_)
          · exact ⟨y2, y3, y4⟩
          clear hK K
          try simp only [Act.put, pu1, pu2, pu3]
          refine wpAnyH_done (by kernel_rfl) ?_ _
          have hown5 : w5.ownsRow w.heap.size 3 1 (.slice pg ng mg) got.length (intL got) := own_keep HO.out (fun g e => hk5.kept g (World.ownsRow.lt HO.out g e).2 (hne g e))
          have HN5 : Hid (∀ x, (Value.slice pg ng mg).ownBlock = some x → ¬ S5 x) := fun x e h5 => by
            rcases hk5.old x h5 with h6 | h6
            · exact hne x e h6
            · have := (World.ownsRow.lt HO.out x e).2
              have h7 : wr.heap.size ≤ x := h6
              omega
          have hws : w.heap.size ≤ w5.heap.size := Nat.le_trans hk.size hk5.size
          have HRR : Hid _ := hr5
          have f25 : w5.frozen? ⟨D, 2, none⟩ = false := by
            obtain ⟨_, _, _, _, _, _, _, _, _, _, f, _⟩ := hr5.cells
            exact f
          have hD5 : D < w5.heap.size := (hr5.bd D hr5.sD).2
          clear hr5 yb
          go_wp2_with (at_builtin; refine wpList_app_row (k := 1) (enc := intC) (l := [x1]) rfl (.tmp 66) (.tmp 74) 23 3 rfl i0 _ 8 Try.underlying23 hi hz0 hz1 hz2 rfl (by decide) intC_len intC_one rfl rfl (hown5.alloc _) (RowAt.built (heap_alloc_new w5 _) rfl 1 rfl rfl) (by simp; omega) (by simp; omega) (by simp; omega) ?_; intro u6 w6 h6 k6; have hDg : some D ≠ (Value.slice pg ng mg).ownBlock := (fun e => HN5.out D e.symm HRR.out.sD); have y6 := ((World.cell?_of_block (k6.rest D (by simp; omega) hDg)).trans ((World.cell?_of_block (heap_alloc_old _ _ hD5)).trans y2)); have f6 := ((World.frozen?_of_block (k6.rest D (by simp; omega) hDg)).trans ((World.frozen?_of_block (heap_alloc_old _ _ hD5)).trans f25)))
          have hr6 : RwAt w6 base D S5 (putL L' x1) (!x2) ((x1, x2, x3) :: qs) := HRR.out.keep (Nat.le_trans (by simp) k6.below.size) (fun b hb => by
            have hlt := (HRR.out.bd b hb).2
            rw [k6.rest b (by simp; omega) (fun e => HN5.out b e.symm hb), heap_alloc_old _ _ hlt])
          have hq6 : OwnRow waitC w6 S5 D (.slice a8 n8 c8) qs := (HQ8.out.keep (w' := w6) (Nat.le_trans hk5.size (Nat.le_trans (by simp) k6.below.size)) (fun b hb hbD2 => by
            have hlt : b < wr.heap.size := hk5lt'.out b hb
            have hlt5 : b < w5.heap.size := Nat.lt_of_lt_of_le hlt hk5.size
            rw [k6.rest b (by simp; omega) (fun e => HN5.out b e.symm (hs5 b hb)), heap_alloc_old _ _ hlt5]
            exact hf5 b hlt hbD2)).grow hs5
          have hq7 := hr6.setQ (Below.refl _ _) (hq6.grow (fun b hb => Or.inl hb)) (fun y hy => HQL.out y (List.mem_cons_of_mem _ hy))
          have hk7 := hr6.kept1 (Below.refl _ _) 2 (.slice a8 n8 c8)
          have b6 : Below w.heap.size w5 w6 := ((Below.refl _ w5).alloc hws _).trans k6.below
          have hk6 : Kept w w6 S S5 := ⟨b6.os.trans (hk5.os.trans hk.os), b6.tape.trans (hk5.tape.trans hk.tape), b6.output.trans (hk5.output.trans hk.output), Nat.le_trans hws b6.size, fun b hb => by
            rcases hk5.old b hb with h | h
            · exact hk.old b h
            · exact Or.inr (Nat.le_trans hk.size h), fun b hb hn => by
            rw [b6.block b hb]
            refine (hk5.kept b (Nat.lt_of_lt_of_le hb hk.size) (fun h => ?_)).trans (hk.kept b hb hn)
            rcases hk.old b h with h | h
            · exact hn h
            · omega⟩
          go_roundw
          case rel =>
            refine ⟨putL L' x1, !x2, qs, got ++ [x1], _, hq7, hk6.trans hk7, ?_, fun x e h7 => ?_, HG2, ?_, ?_⟩
            · have e4 : intL (got ++ [x1]) = intL got ++ rowL intC [x1] := by rw [rowL_int]; unfold intL; simp
              rw [e4, List.length_append]
              exact own_keep h6 (fun g e => by
                refine heap_setCell_other _ _ _ _ ?_
                show g ≠ D
                intro eD
                subst eD
                rcases k6.lies with h8 | h8
                · rw [h8] at e
                  exact hDg e.symm
                · rw [h8] at e
                  simp at e
                  omega)
            · have h5 : S5 x := by
                rcases h7 with h7 | h7
                · exact h7
                · omega
              rcases k6.lies with h8 | h8
              · rw [h8] at e
                exact HN5.out x e h5
              · rw [h8] at e
                simp at e
                have := (HRR.out.bd x h5).2
                omega
            · rw [putL_length]
              simp at hN'
              omega
            · simp at hgq ⊢
              omega
          case measure =>
            have e1 : (w6.setCell ⟨D, 2, none⟩ (.slice a8 n8 c8)).cell? ⟨D, 2, none⟩ = some (.slice a8 n8 c8) := by
              obtain ⟨_, _, _, _, hb6, _⟩ := hr6.cells
              simp [World.cell?, heap_setCell_same _ D 2 _ _ _ hb6]
            obtain ⟨a9, c9, e9⟩ := HQ8.out.at'.form
            simp only [Value.slice.injEq] at e9
            simp only [e1, c2]
            omega
end
end Go.Proofs.Ythhlglbohibekaa
namespace Go.Proofs.Ythhlglbohibekaa
open Go.RowKit

abbrev GrT : TypeId := 91
def grC (n : Int) (v : Value) : Array Value := #[.int .i64 n, v]
abbrev GrAt (w : World) (base D : Nat) (S : Nat → Prop) (n : Int) (l : List Int) : Prop := BoxAt w base D S GrT (grC n) l
def gWZ (l : List Int) (t : Int) : Int := if t < 0 then 1 else if t ∈ l then 12 else 0
def gWB (n : Int) (l : List Int) (t : Int) : Bool := decide (gWZ l t = 0 ∧ n = 0)
def gWL (n : Int) (l : List Int) (t : Int) : List Int := if gWZ l t = 0 ∧ ¬ n = 0 then l ++ [t] else l
def gAZ (n k : Int) : Int := if 1073741824 < k ∨ k < -1073741824 ∨ 1073741824 < n + k then 15 else if n + k < 0 then 14 else 0
def gAN (n k : Int) : Int := if gAZ n k = 0 then n + k else n
def gAO (n : Int) (l : List Int) (k : Int) : List Int := if gAZ n k = 0 ∧ n + k = 0 then l else []
def gAL (n : Int) (l : List Int) (k : Int) : List Int := if gAZ n k = 0 ∧ n + k = 0 then [] else l
section
variable {w w' : World} {base D : Nat} {S S' : Nat → Prop} {n : Int} {l : List Int}
theorem GrAt.cells (h : GrAt w base D S n l) : ∃ a cap, w.heap[D]? = some (.cells #[.int .i64 n, .slice a l.length cap] GrT (0, 0)) ∧ w.cell? ⟨D, 0, none⟩ = some (.int .i64 n) ∧ w.cell? ⟨D, 1, none⟩ = some (.slice a l.length cap) ∧ w.frozen? ⟨D, 0, none⟩ = false ∧ w.frozen? ⟨D, 1, none⟩ = false ∧ OwnRow intC w S D (.slice a l.length cap) l ∧ D < w.heap.size := by
  obtain ⟨v, h1, h2⟩ := h.ex
  obtain ⟨a, cap, rfl⟩ := h2.at'.form
  unfold grC at h1
  exact ⟨a, cap, h1, by simp [World.cell?, h1], by simp [World.cell?, h1], by simp [World.frozen?, h1], by simp [World.frozen?, h1], h2, lt_of_block h1⟩
set_option maxHeartbeats 3200000 in
set_option maxRecDepth 100000 in
theorem gr_wait (h : GrAt w base D S n l) (t : Int) (ht : okI t) (hl : l.length < 65536) : Calls Try.prog 37 #[.pointer (some ⟨D, 0, none⟩), .int .i64 t] w fun e w' => e = .returned (.tuple #[.bool (gWB n l t), .int .i64 (gWZ l t)]) ∧ ∃ S', GrAt w' base D S' n (gWL n l t) ∧ Kept w w' S S' := by
  obtain ⟨a, cap, hb, c0, c1, f0, f1, ho, hD⟩ := h.cells
  have hh := (has_any w _ l t (ho.at'.ints h.lo (by omega))).mono (fun e w' h => (⟨h.1, h.2.symm⟩ : e = .returned (.bool (hasB l t)) ∧ w = w'))
  have H : Hid (GrAt w base D S n l) := h
  by_cases h1 : t < 0
  · have e1 : gWZ l t = 1 := by unfold gWZ; rw [if_pos h1]
    have e2 : gWB n l t = false := by unfold gWB; rw [e1]; rfl
    have e3 : gWL n l t = l := by unfold gWL; rw [e1, if_neg (by simp)]
    rw [e1, e2, e3]
    have q1 : decide (t < 0) = true := decide_eq_true h1
    clear hb ho h hh e1 e2 e3
    go_enter Try.func37, Try.ntmps37
    go_wp2
    go_ret2
    exact ⟨rfl, S, H.out, Kept.refl _ _⟩
  have q1 : decide (t < 0) = false := decide_eq_false h1
  cases hc : hasB l t with
  | true =>
    have e1 : gWZ l t = 12 := by unfold gWZ; rw [if_neg h1, if_pos (by unfold hasB at hc; simpa using hc)]
    have e2 : gWB n l t = false := by unfold gWB; rw [e1]; rfl
    have e3 : gWL n l t = l := by unfold gWL; rw [e1, if_neg (by simp)]
    rw [e1, e2, e3]
    rw [hc] at hh
    clear hb ho h h1 hc e1 e2 e3
    go_enter Try.func37, Try.ntmps37
    go_wp2_with (go_at_call 51; refine hh.mono ?_; rintro e w1 ⟨rfl, rfl⟩)
    go_ret2
    exact ⟨rfl, S, H.out, Kept.refl _ _⟩
  | false =>
    have e1 : gWZ l t = 0 := by unfold gWZ; rw [if_neg h1, if_neg (by unfold hasB at hc; simpa using hc)]
    rw [hc] at hh
    by_cases h0 : n = 0
    · have e2 : gWB n l t = true := by unfold gWB; rw [e1, h0]; rfl
      have e3 : gWL n l t = l := by unfold gWL; rw [if_neg (fun e => e.2 h0)]
      rw [e1, e2, e3]
      have q2 : (n == 0) = true := beq_iff_eq.2 h0
      clear hb ho h h1 hc e1 e2 e3 h0
      go_enter Try.func37, Try.ntmps37
      go_wp2_with (go_at_call 51; refine hh.mono ?_; rintro e w1 ⟨rfl, rfl⟩)
      go_ret2
      exact ⟨rfl, S, H.out, Kept.refl _ _⟩
    · have e2 : gWB n l t = false := by unfold gWB; exact decide_eq_false (fun e => h0 e.2)
      have e3 : gWL n l t = l ++ [t] := by unfold gWL; rw [if_pos ⟨e1, h0⟩]
      rw [e1, e2, e3]
      have q2 : (n == 0) = false := beq_eq_false_iff_ne.2 h0
      obtain ⟨i0, hi, hz0, hz1, hz2⟩ := info_parts infoI
      have fin : ∀ (w3 : World) (u3 : Value), Below w.heap.size w w3 → w3.ownsRow w.heap.size 3 1 u3 (l.length + 1) (rowL intC (l ++ [t])) → ∃ S', GrAt (w3.setCell ⟨D, 1, none⟩ u3) base D S' n (l ++ [t]) ∧ Kept w (w3.setCell ⟨D, 1, none⟩ u3) S S' := fun w3 u3 b3 r3 => by
        refine ⟨_, h.turn b3 (mk' := grC n) (v := u3) ?_ (fun c hc => heap_setCell_other _ _ _ _ (by simpa using hc)) (by simp) ⟨rfl, rfl, rfl⟩ (OwnRow.new (k := 1) (T := 3) intC_len (by rw [List.length_append]; exact r3) hD (fun x h1 h2 => Or.inr ⟨h1, h2⟩)) (fun x hx => ?_)⟩
        · rw [heap_setCell_same w3 D 1 _ _ _ ((b3.block D hD).trans hb)]
          rfl
        · rcases List.mem_append.1 hx with hx | hx
          · exact h.lo x hx
          · rw [List.mem_singleton] at hx
            rw [hx]
            exact ht
      have FIN : Hid _ := fin
      have HQ : Hid _ := ho.at'
      clear hb ho h h1 hc e1 e2 e3 h0 fin
      go_enter Try.func37, Try.ntmps37
      go_wp2_with (first
        | (at_builtin; have kz := d2; refine wpList_app_row (k := 1) (enc := intC) (l := [t]) rfl (.tmp 24) (.tmp 26) 23 3 rfl i0 _ 8 Try.underlying23 hi hz0 hz1 hz2 rfl (by decide) intC_len intC_one rfl rfl (h2.alloc _) (RowAt.built (heap_alloc_new w2 _) rfl 1 rfl rfl) (by simp; have := d2.size; omega) (by simp; omega) (by simp; omega) ?_; intro u3 w3 h3 b3; obtain ⟨p3, n3, q3, rfl⟩ := own_form h3; have b4 : Below w.heap.size w w3 := (d2.alloc d2.size _).trans b3.below; have z3 := (b4.cell (p := ⟨D, 1, none⟩) (by exact hD)).trans c1; have y3 := (b4.frozen (p := ⟨D, 1, none⟩) (by exact hD)).trans f1)
        | (at_builtin; refine wpList_app_row (k := 1) (enc := intC) (l := l) rfl (.const (.slice none 0 0)) (.tmp 23) 23 3 rfl i0 _ 8 Try.underlying23 hi hz0 hz1 hz2 rfl (by decide) intC_len intC_one (base := w.heap.size) (n := 0) (xs := []) rfl rfl (World.ownsRow_nil _ _ _ _) HQ.out (Nat.le_refl _) (by omega) (by omega) ?_; intro u2 w2 h2 dd2; have d2 := dd2.below)
        | (go_at_call 51; refine hh.mono ?_; rintro e w1 ⟨rfl, rfl⟩))
      go_ret2
      refine ⟨rfl, FIN.out _ _ b4 ?_⟩
      have e3 : 0 + l.length + [t].length = l.length + 1 := by simp
      have e4 : [] ++ rowL intC l ++ rowL intC [t] = rowL intC (l ++ [t]) := by rw [rowL_append]; simp
      rw [e3, e4] at h3
      exact h3
set_option maxHeartbeats 3200000 in
set_option maxRecDepth 100000 in
theorem gr_addO (h : GrAt w base D S n l) (k : Int) (hn : 0 ≤ n ∧ n ≤ 1073741824) : Calls Try.prog 35 #[.pointer (some ⟨D, 0, none⟩), .int .i64 k] w fun e w' => ∃ u, e = .returned (.tuple #[u, .int .i64 (gAZ n k)]) ∧ (RowAt intC w' u (gAO n l k) ∧ OutOf S w.heap.size u) ∧ ∃ S', GrAt w' base D S' (gAN n k) (gAL n l k) ∧ Kept w w' S S' := by
  obtain ⟨a, cap, hb, c0, c1, f0, f1, ho, hD⟩ := h.cells
  have H : Hid (GrAt w base D S n l) := h
  have hnil : Hid (RowAt intC w (.slice none 0 0) []) := RowAt.nil w
  by_cases h1 : 1073741824 < k ∨ k < -1073741824 ∨ 1073741824 < n + k
  · have e1 : gAZ n k = 15 := by unfold gAZ; rw [if_pos h1]
    have e2 : gAO n l k = [] := by unfold gAO; rw [e1, if_neg (by simp)]
    have e3 : gAN n k = n := by unfold gAN; rw [e1, if_neg (by simp)]
    have e4 : gAL n l k = l := by unfold gAL; rw [e1, if_neg (by simp)]
    rw [e1, e2, e3, e4]
    clear hb ho h e1 e2 e3 e4
    by_cases h2 : 1073741824 < k
    · have q1 : decide (1073741824 < k) = true := decide_eq_true h2
      clear h1 h2
      go_enter Try.func35, Try.ntmps35
      go_wp2
      go_ret2
      exact ⟨_, rfl, ⟨hnil.out, OutOf.nil _ _⟩, S, H.out, Kept.refl _ _⟩
    · have q1 : decide (1073741824 < k) = false := decide_eq_false h2
      by_cases h3 : k < -1073741824
      · have q2 : decide (k < -1073741824) = true := decide_eq_true h3
        clear h1 h2 h3
        go_enter Try.func35, Try.ntmps35
        go_wp2
        go_ret2
        exact ⟨_, rfl, ⟨hnil.out, OutOf.nil _ _⟩, S, H.out, Kept.refl _ _⟩
      · have q2 : decide (k < -1073741824) = false := decide_eq_false h3
        have q3 : decide (1073741824 < n + k) = true := decide_eq_true (by omega)
        have q4 : IntKind.i64.wrap (n + k) = n + k := by rw [IntKind.wrap_i64]; omega
        clear h1 h2 h3
        go_enter Try.func35, Try.ntmps35
        go_wp2
        go_ret2
        exact ⟨_, rfl, ⟨hnil.out, OutOf.nil _ _⟩, S, H.out, Kept.refl _ _⟩
  have q1 : decide (1073741824 < k) = false := decide_eq_false (by omega)
  have q2 : decide (k < -1073741824) = false := decide_eq_false (by omega)
  have q3 : decide (1073741824 < n + k) = false := decide_eq_false (by omega)
  have q4 : IntKind.i64.wrap (n + k) = n + k := by rw [IntKind.wrap_i64]; omega
  by_cases h2 : n + k < 0
  · have e1 : gAZ n k = 14 := by unfold gAZ; rw [if_neg h1, if_pos h2]
    have e2 : gAO n l k = [] := by unfold gAO; rw [e1, if_neg (by simp)]
    have e3 : gAN n k = n := by unfold gAN; rw [e1, if_neg (by simp)]
    have e4 : gAL n l k = l := by unfold gAL; rw [e1, if_neg (by simp)]
    rw [e1, e2, e3, e4]
    have q5 : decide (n + k < 0) = true := decide_eq_true h2
    clear hb ho h e1 e2 e3 e4 h1 h2
    go_enter Try.func35, Try.ntmps35
    go_wp2
    go_ret2
    exact ⟨_, rfl, ⟨hnil.out, OutOf.nil _ _⟩, S, H.out, Kept.refl _ _⟩
  have q5 : decide (n + k < 0) = false := decide_eq_false h2
  have e1 : gAZ n k = 0 := by unfold gAZ; rw [if_neg h1, if_neg h2]
  have e3 : gAN n k = n + k := by unfold gAN; rw [e1, if_pos rfl]
  have g1 : (w.setCell ⟨D, 0, none⟩ (.int .i64 (n + k))).heap[D]? = some (.cells #[.int .i64 (n + k), .slice a l.length cap] GrT (0, 0)) := by
    rw [heap_setCell_same w D 0 _ _ _ hb]
    rfl
  have z0 : (w.setCell ⟨D, 0, none⟩ (.int .i64 (n + k))).cell? ⟨D, 0, none⟩ = some (.int .i64 (n + k)) := by simp [World.cell?, g1]
  have z1 : (w.setCell ⟨D, 0, none⟩ (.int .i64 (n + k))).cell? ⟨D, 1, none⟩ = some (.slice a l.length cap) := by simp [World.cell?, g1]
  have x1 : (w.setCell ⟨D, 0, none⟩ (.int .i64 (n + k))).frozen? ⟨D, 1, none⟩ = false := by simp [World.frozen?, g1]
  have hoO : ∀ c, c ≠ D → (w.setCell ⟨D, 0, none⟩ (.int .i64 (n + k))).heap[c]? = w.heap[c]? := fun c hc => heap_setCell_other _ _ _ _ (by simpa using hc)
  have bel0 : Below w.heap.size w w := Below.refl _ w
  by_cases h3 : 0 < n + k
  · have e2 : gAO n l k = [] := by unfold gAO; rw [if_neg (fun e => by omega)]
    have e4 : gAL n l k = l := by unfold gAL; rw [if_neg (fun e => by omega)]
    rw [e1, e2, e3, e4]
    have q6 : decide (0 < n + k) = true := decide_eq_true h3
    have FIN : Hid _ := h.turn bel0 (mk' := grC (n + k)) (v := .slice a l.length cap) g1 hoO (by simp) ⟨rfl, rfl, rfl⟩ (ho.grow (fun x hx => Or.inl hx)) h.lo
    clear hb ho h e1 e2 e3 e4 h1 h2 h3 g1 hoO bel0
    go_enter Try.func35, Try.ntmps35
    go_wp2
    go_ret2
    exact ⟨_, rfl, ⟨RowAt.nil _, OutOf.nil _ _⟩, _, FIN.out⟩
  · have h4 : n + k = 0 := by omega
    have e2 : gAO n l k = l := by unfold gAO; rw [if_pos ⟨e1, h4⟩]
    have e4 : gAL n l k = [] := by unfold gAL; rw [if_pos ⟨e1, h4⟩]
    rw [e1, e2, e3, e4]
    have q6 : decide (0 < n + k) = false := decide_eq_false h3
    have g2 : ((w.setCell ⟨D, 0, none⟩ (.int .i64 (n + k))).setCell ⟨D, 1, none⟩ (.slice none 0 0)).heap[D]? = some (.cells #[.int .i64 (n + k), .slice none 0 0] GrT (0, 0)) := by
      rw [heap_setCell_same _ D 1 _ _ _ g1]
      rfl
    have ho2 : ∀ c, c ≠ D → ((w.setCell ⟨D, 0, none⟩ (.int .i64 (n + k))).setCell ⟨D, 1, none⟩ (.slice none 0 0)).heap[c]? = w.heap[c]? := fun c hc => by
      rw [heap_setCell_other _ _ _ _ (by simpa using hc), hoO c hc]
    have FIN : Hid _ := h.turn bel0 (mk' := grC (n + k)) (v := .slice none 0 0) g2 ho2 (by simp) ⟨rfl, rfl, rfl⟩ (OwnRow.nil _ _ _) (l' := []) (fun x hx => by cases hx)
    have HO : Hid (OutOf S w.heap.size (.slice a l.length cap)) := fun bk off m cp h0 e => Or.inl (ho.own bk off m cp h0 e).1
    have HR : Hid _ := ho.at'.keep (w' := (w.setCell ⟨D, 0, none⟩ (.int .i64 (n + k))).setCell ⟨D, 1, none⟩ (.slice none 0 0)) (by simp) (fun bk off m cp h0 e => ho2 bk (ho.own bk off m cp h0 e).2)
    clear hb ho h e1 e2 e3 e4 h1 h2 h3 g1 hoO bel0 g2 ho2 h4
    go_enter Try.func35, Try.ntmps35
    go_wp2
    go_ret2
    exact ⟨_, rfl, ⟨HR.out, HO.out⟩, _, FIN.out⟩
end
theorem GrAt.new (w : World) : GrAt (w.alloc (.cells #[.int .i64 0, .slice none 0 0] GrT)) w.heap.size w.heap.size (fun b => b = w.heap.size) 0 [] :=
  ⟨⟨_, heap_alloc_new w _, OwnRow.nil _ _ _⟩, rfl, fun b hb => ⟨by omega, by simp; omega⟩, fun x hx => (by cases hx)⟩
end Go.Proofs.Ythhlglbohibekaa
namespace Go.Proofs.Ythhlglbohibekaa
open Go.RowKit

abbrev OnT : TypeId := 114
def onC (who : Int) (ov : Bool) (v : Value) : Array Value := #[.int .i64 who, .bool ov, v]
abbrev OnAt (w : World) (base D : Nat) (S : Nat → Prop) (who : Int) (ov : Bool) (l : List Int) : Prop := BoxAt w base D S OnT (onC who ov) l
def oDZ (who : Int) (l : List Int) (t : Int) : Int := if t < 0 then 1 else if who = t ∨ t ∈ l then 12 else 0
def oDR (who : Int) (ov : Bool) (l : List Int) (t : Int) : Bool := decide (oDZ who l t = 0 ∧ ov = false ∧ who < 0)
def oDW (who : Int) (ov : Bool) (l : List Int) (t : Int) : Bool := decide (oDZ who l t = 0 ∧ ov = false ∧ ¬ who < 0)
def oDH (who : Int) (ov : Bool) (l : List Int) (t : Int) : Int := if oDR who ov l t = true then t else who
def oDL (who : Int) (ov : Bool) (l : List Int) (t : Int) : List Int := if oDW who ov l t = true then l ++ [t] else l
def oEZ (who t : Int) : Int := if t < 0 ∨ ¬ who = t then 13 else 0
def oEO (who : Int) (l : List Int) (t : Int) : List Int := if t < 0 ∨ ¬ who = t then [] else l
def oEH (who t : Int) : Int := if t < 0 ∨ ¬ who = t then who else -1
def oEV (who : Int) (ov : Bool) (t : Int) : Bool := if t < 0 ∨ ¬ who = t then ov else true
def oEL (who : Int) (l : List Int) (t : Int) : List Int := if t < 0 ∨ ¬ who = t then l else []
section
variable {w w' : World} {base D : Nat} {S S' : Nat → Prop} {who : Int} {ov : Bool} {l : List Int}
theorem OnAt.cells (h : OnAt w base D S who ov l) : ∃ a cap, w.heap[D]? = some (.cells #[.int .i64 who, .bool ov, .slice a l.length cap] OnT (0, 0)) ∧ w.cell? ⟨D, 0, none⟩ = some (.int .i64 who) ∧ w.cell? ⟨D, 1, none⟩ = some (.bool ov) ∧ w.cell? ⟨D, 2, none⟩ = some (.slice a l.length cap) ∧ w.frozen? ⟨D, 0, none⟩ = false ∧ w.frozen? ⟨D, 1, none⟩ = false ∧ w.frozen? ⟨D, 2, none⟩ = false ∧ OwnRow intC w S D (.slice a l.length cap) l ∧ D < w.heap.size := by
  obtain ⟨v, h1, h2⟩ := h.ex
  obtain ⟨a, cap, rfl⟩ := h2.at'.form
  unfold onC at h1
  exact ⟨a, cap, h1, by simp [World.cell?, h1], by simp [World.cell?, h1], by simp [World.cell?, h1], by simp [World.frozen?, h1], by simp [World.frozen?, h1], by simp [World.frozen?, h1], h2, lt_of_block h1⟩
theorem on_new (w : World) : Calls Try.prog 50 #[] w fun e w' => e = .returned (.pointer (some ⟨w.heap.size, 0, none⟩)) ∧ OnAt w' w.heap.size w.heap.size (fun b => b = w.heap.size) (-1) false [] ∧ Below w.heap.size w w' := by
  have H1 : Hid _ := heap_alloc_new w (.cells #[.int .i64 (-1), .bool false, .slice none 0 0] OnT)
  have B1 : Hid _ := (Below.refl _ w).alloc (Nat.le_refl _) (.cells #[.int .i64 (-1), .bool false, .slice none 0 0] OnT)
  go_enter Try.func50, Try.ntmps50
  go_wp2
  go_ret
  exact ⟨rfl, ⟨⟨_, H1.out, OwnRow.nil _ _ _⟩, rfl, fun b hb => ⟨by omega, by simp; omega⟩, fun x hx => (by cases hx)⟩, B1.out⟩
set_option maxHeartbeats 6400000 in
set_option maxRecDepth 100000 in
theorem on_do (h : OnAt w base D S who ov l) (t : Int) (ht : okI t) (hl : l.length < 65536) : Calls Try.prog 53 #[.pointer (some ⟨D, 0, none⟩), .int .i64 t] w fun e w' => e = .returned (.tuple #[.bool (oDR who ov l t), .bool (oDW who ov l t), .int .i64 (oDZ who l t)]) ∧ ∃ S', OnAt w' base D S' (oDH who ov l t) ov (oDL who ov l t) ∧ Kept w w' S S' := by
  obtain ⟨a, cap, hb, c0, c1, c2, f0, f1, f2, ho, hD⟩ := h.cells
  have hh := (has_any w _ l t (ho.at'.ints h.lo (by omega))).mono (fun e w' h => (⟨h.1, h.2.symm⟩ : e = .returned (.bool (hasB l t)) ∧ w = w'))
  have H : Hid (OnAt w base D S who ov l) := h
  by_cases h1 : t < 0
  · have e1 : oDZ who l t = 1 := by unfold oDZ; rw [if_pos h1]
    have e2 : oDR who ov l t = false := by unfold oDR; rw [e1]; rfl
    have e3 : oDW who ov l t = false := by unfold oDW; rw [e1]; rfl
    have e4 : oDH who ov l t = who := by unfold oDH; rw [e2]; rfl
    have e5 : oDL who ov l t = l := by unfold oDL; rw [e3]; rfl
    rw [e1, e2, e3, e4, e5]
    have q1 : decide (t < 0) = true := decide_eq_true h1
    clear hb ho h hh e1 e2 e3 e4 e5
    go_enter Try.func53, Try.ntmps53
    go_wp2
    go_ret3
    exact ⟨rfl, S, H.out, Kept.refl _ _⟩
  have q1 : decide (t < 0) = false := decide_eq_false h1
  by_cases h2 : who = t ∨ t ∈ l
  · have e1 : oDZ who l t = 12 := by unfold oDZ; rw [if_neg h1, if_pos h2]
    have e2 : oDR who ov l t = false := by unfold oDR; rw [e1]; rfl
    have e3 : oDW who ov l t = false := by unfold oDW; rw [e1]; rfl
    have e4 : oDH who ov l t = who := by unfold oDH; rw [e2]; rfl
    have e5 : oDL who ov l t = l := by unfold oDL; rw [e3]; rfl
    rw [e1, e2, e3, e4, e5]
    by_cases h3 : who = t
    · have q2 : (who == t) = true := beq_iff_eq.2 h3
      clear hb ho h hh e1 e2 e3 e4 e5 h1 h2 h3
      go_enter Try.func53, Try.ntmps53
      go_wp2
      go_ret3
      exact ⟨rfl, S, H.out, Kept.refl _ _⟩
    · have q2 : (who == t) = false := beq_eq_false_iff_ne.2 h3
      have h4 : hasB l t = true := decide_eq_true (h2.elim (fun h => absurd h h3) id)
      rw [h4] at hh
      clear hb ho h e1 e2 e3 e4 e5 h1 h2 h3 h4
      go_enter Try.func53, Try.ntmps53
      go_wp2_with (go_at_call 51; refine hh.mono ?_; rintro e w1 ⟨rfl, rfl⟩)
      go_ret3
      exact ⟨rfl, S, H.out, Kept.refl _ _⟩
  have e1 : oDZ who l t = 0 := by unfold oDZ; rw [if_neg h1, if_neg h2]
  have q2 : (who == t) = false := beq_eq_false_iff_ne.2 (fun e => h2 (Or.inl e))
  have h4 : hasB l t = false := decide_eq_false (fun e => h2 (Or.inr e))
  rw [h4] at hh
  cases ov with
  | true =>
    have e2 : oDR who true l t = false := by unfold oDR; exact decide_eq_false (fun e => by cases e.2.1)
    have e3 : oDW who true l t = false := by unfold oDW; exact decide_eq_false (fun e => by cases e.2.1)
    have e4 : oDH who true l t = who := by unfold oDH; rw [e2]; rfl
    have e5 : oDL who true l t = l := by unfold oDL; rw [e3]; rfl
    rw [e1, e2, e3, e4, e5]
    clear hb ho h e1 e2 e3 e4 e5 h1 h2 h4
    go_enter Try.func53, Try.ntmps53
    go_wp2_with (go_at_call 51; refine hh.mono ?_; rintro e w1 ⟨rfl, rfl⟩)
    go_ret3
    exact ⟨rfl, S, H.out, Kept.refl _ _⟩
  | false =>
    have bel0 : Below w.heap.size w w := Below.refl _ w
    by_cases h5 : who < 0
    · have e2 : oDR who false l t = true := by unfold oDR; exact decide_eq_true ⟨e1, rfl, h5⟩
      have e3 : oDW who false l t = false := by unfold oDW; exact decide_eq_false (fun e => e.2.2 h5)
      have e4 : oDH who false l t = t := by unfold oDH; rw [e2]; rfl
      have e5 : oDL who false l t = l := by unfold oDL; rw [e3]; rfl
      rw [e1, e2, e3, e4, e5]
      have q5 : decide (who < 0) = true := decide_eq_true h5
      have g1 : (w.setCell ⟨D, 0, none⟩ (.int .i64 t)).heap[D]? = some (.cells #[.int .i64 t, .bool false, .slice a l.length cap] OnT (0, 0)) := by
        rw [heap_setCell_same w D 0 _ _ _ hb]
        rfl
      have FIN : Hid _ := h.turn bel0 (mk' := onC t false) (v := .slice a l.length cap) g1 (fun c hc => heap_setCell_other _ _ _ _ (by simpa using hc)) (by simp) ⟨rfl, rfl, rfl⟩ (ho.grow (fun x hx => Or.inl hx)) h.lo
      clear hb ho h e1 e2 e3 e4 e5 h1 h2 h4 h5 g1 bel0
      go_enter Try.func53, Try.ntmps53
      go_wp2_with (go_at_call 51; refine hh.mono ?_; rintro e w1 ⟨rfl, rfl⟩)
      go_ret3
      exact ⟨rfl, _, FIN.out⟩
    · have e2 : oDR who false l t = false := by unfold oDR; exact decide_eq_false (fun e => h5 e.2.2)
      have e3 : oDW who false l t = true := by unfold oDW; exact decide_eq_true ⟨e1, rfl, h5⟩
      have e4 : oDH who false l t = who := by unfold oDH; rw [e2]; rfl
      have e5 : oDL who false l t = l ++ [t] := by unfold oDL; rw [e3]; rfl
      rw [e1, e2, e3, e4, e5]
      have q5 : decide (who < 0) = false := decide_eq_false h5
      obtain ⟨i0, hi, hz0, hz1, hz2⟩ := info_parts infoI
      have fin : ∀ (w3 : World) (u3 : Value), Below w.heap.size w w3 → w3.ownsRow w.heap.size 3 1 u3 (l.length + 1) (rowL intC (l ++ [t])) → ∃ S', OnAt (w3.setCell ⟨D, 2, none⟩ u3) base D S' who false (l ++ [t]) ∧ Kept w (w3.setCell ⟨D, 2, none⟩ u3) S S' := fun w3 u3 b3 r3 => by
        refine ⟨_, h.turn b3 (mk' := onC who false) (v := u3) ?_ (fun c hc => heap_setCell_other _ _ _ _ (by simpa using hc)) (by simp) ⟨rfl, rfl, rfl⟩ (OwnRow.new (k := 1) (T := 3) intC_len (by rw [List.length_append]; exact r3) hD (fun x h1 h2 => Or.inr ⟨h1, h2⟩)) (fun x hx => ?_)⟩
        · rw [heap_setCell_same w3 D 2 _ _ _ ((b3.block D hD).trans hb)]
          rfl
        · rcases List.mem_append.1 hx with hx | hx
          · exact h.lo x hx
          · rw [List.mem_singleton] at hx
            rw [hx]
            exact ht
      have FIN : Hid _ := fin
      have HQ : Hid _ := ho.at'
      clear hb ho h e1 e2 e3 e4 e5 h1 h2 h4 h5 fin bel0
      go_enter Try.func53, Try.ntmps53
      go_wp2_with (first
        | (at_builtin; have kz := d2; refine wpList_app_row (k := 1) (enc := intC) (l := [t]) rfl (.tmp 41) (.tmp 43) 23 3 rfl i0 _ 8 Try.underlying23 hi hz0 hz1 hz2 rfl (by decide) intC_len intC_one rfl rfl (h2.alloc _) (RowAt.built (heap_alloc_new w2 _) rfl 1 rfl rfl) (by simp; have := d2.size; omega) (by simp; omega) (by simp; omega) ?_; intro u3 w3 h3 b3; obtain ⟨p3, n3, q3, rfl⟩ := own_form h3; have b4 : Below w.heap.size w w3 := (d2.alloc d2.size _).trans b3.below; have z3 := (b4.cell (p := ⟨D, 2, none⟩) (by exact hD)).trans c2; have y3 := (b4.frozen (p := ⟨D, 2, none⟩) (by exact hD)).trans f2)
        | (at_builtin; refine wpList_app_row (k := 1) (enc := intC) (l := l) rfl (.const (.slice none 0 0)) (.tmp 40) 23 3 rfl i0 _ 8 Try.underlying23 hi hz0 hz1 hz2 rfl (by decide) intC_len intC_one (base := w.heap.size) (n := 0) (xs := []) rfl rfl (World.ownsRow_nil _ _ _ _) HQ.out (Nat.le_refl _) (by omega) (by omega) ?_; intro u2 w2 h2 dd2; have d2 := dd2.below)
        | (go_at_call 51; refine hh.mono ?_; rintro e w1 ⟨rfl, rfl⟩))
      go_ret3
      refine ⟨rfl, FIN.out _ _ b4 ?_⟩
      have e3 : 0 + l.length + [t].length = l.length + 1 := by simp
      have e4 : [] ++ rowL intC l ++ rowL intC [t] = rowL intC (l ++ [t]) := by rw [rowL_append]; simp
      rw [e3, e4] at h3
      exact h3
set_option maxHeartbeats 3200000 in
set_option maxRecDepth 100000 in
theorem on_doneO (h : OnAt w base D S who ov l) (t : Int) : Calls Try.prog 52 #[.pointer (some ⟨D, 0, none⟩), .int .i64 t] w fun e w' => ∃ u, e = .returned (.tuple #[u, .int .i64 (oEZ who t)]) ∧ (RowAt intC w' u (oEO who l t) ∧ OutOf S w.heap.size u) ∧ ∃ S', OnAt w' base D S' (oEH who t) (oEV who ov t) (oEL who l t) ∧ Kept w w' S S' := by
  obtain ⟨a, cap, hb, c0, c1, c2, f0, f1, f2, ho, hD⟩ := h.cells
  have H : Hid (OnAt w base D S who ov l) := h
  unfold oEZ oEO oEH oEV oEL
  by_cases h1 : t < 0 ∨ ¬ who = t
  · rw [if_pos h1, if_pos h1, if_pos h1, if_pos h1, if_pos h1]
    by_cases h2 : t < 0
    · have q1 : decide (t < 0) = true := decide_eq_true h2
      clear hb ho h h1 h2
      go_enter Try.func52, Try.ntmps52
      go_wp2
      go_ret2
      exact ⟨_, rfl, ⟨RowAt.nil _, OutOf.nil _ _⟩, S, H.out, Kept.refl _ _⟩
    · have q1 : decide (t < 0) = false := decide_eq_false h2
      have q2 : (who == t) = false := beq_eq_false_iff_ne.2 (h1.elim (fun h => absurd h h2) id)
      clear hb ho h h1 h2
      go_enter Try.func52, Try.ntmps52
      go_wp2
      go_ret2
      exact ⟨_, rfl, ⟨RowAt.nil _, OutOf.nil _ _⟩, S, H.out, Kept.refl _ _⟩
  · rw [if_neg h1, if_neg h1, if_neg h1, if_neg h1, if_neg h1]
    have q1 : decide (t < 0) = false := decide_eq_false (fun e => h1 (Or.inl e))
    have h3 : who = t := Decidable.byContradiction (fun e => h1 (Or.inr e))
    have q2 : (who == t) = true := beq_iff_eq.2 h3
    have bel0 : Below w.heap.size w w := Below.refl _ w
    have g1 : (w.setCell ⟨D, 0, none⟩ (.int .i64 (-1))).heap[D]? = some (.cells #[.int .i64 (-1), .bool ov, .slice a l.length cap] OnT (0, 0)) := by
      rw [heap_setCell_same w D 0 _ _ _ hb]
      rfl
    have g2 : ((w.setCell ⟨D, 0, none⟩ (.int .i64 (-1))).setCell ⟨D, 1, none⟩ (.bool true)).heap[D]? = some (.cells #[.int .i64 (-1), .bool true, .slice a l.length cap] OnT (0, 0)) := by
      rw [heap_setCell_same _ D 1 _ _ _ g1]
      rfl
    have g3 : (((w.setCell ⟨D, 0, none⟩ (.int .i64 (-1))).setCell ⟨D, 1, none⟩ (.bool true)).setCell ⟨D, 2, none⟩ (.slice none 0 0)).heap[D]? = some (.cells #[.int .i64 (-1), .bool true, .slice none 0 0] OnT (0, 0)) := by
      rw [heap_setCell_same _ D 2 _ _ _ g2]
      rfl
    have ho3 : ∀ c, c ≠ D → (((w.setCell ⟨D, 0, none⟩ (.int .i64 (-1))).setCell ⟨D, 1, none⟩ (.bool true)).setCell ⟨D, 2, none⟩ (.slice none 0 0)).heap[c]? = w.heap[c]? := fun c hc => by
      rw [heap_setCell_other _ _ _ _ (by simpa using hc), heap_setCell_other _ _ _ _ (by simpa using hc), heap_setCell_other _ _ _ _ (by simpa using hc)]
    have FIN : Hid _ := h.turn bel0 (mk' := onC (-1) true) (v := .slice none 0 0) g3 ho3 (by simp) ⟨rfl, rfl, rfl⟩ (OwnRow.nil _ _ _) (l' := []) (fun x hx => by cases hx)
    have HO : Hid (OutOf S w.heap.size (.slice a l.length cap)) := fun bk off m cp h0 e => Or.inl (ho.own bk off m cp h0 e).1
    have HR : Hid _ := ho.at'.keep (w' := ((w.setCell ⟨D, 0, none⟩ (.int .i64 (-1))).setCell ⟨D, 1, none⟩ (.bool true)).setCell ⟨D, 2, none⟩ (.slice none 0 0)) (by simp) (fun bk off m cp h0 e => ho3 bk (ho.own bk off m cp h0 e).2)
    clear hb ho h h1 h3 bel0 g1 g2 g3 ho3
    go_enter Try.func52, Try.ntmps52
    go_wp2
    go_ret2
    exact ⟨_, rfl, ⟨HR.out, HO.out⟩, _, FIN.out⟩
end
end Go.Proofs.Ythhlglbohibekaa
