/-
  Parts of the proof, laid together: LoMem, LoFind, LoGiveA, LoGive, LoServeA, LoServe, LoTidy, LoAdd, LoTurn, LoAskA, LoAsk, LoRelA, LoRel, LoGone, LoHold, LoQueue, LoEnc, LoSum, LoWhole, LoLaw. The conditions stand at each part.
-/
import Derived.Deep.QuietTactic
import Derived.BigQuiet
import Derived.Deep.Cut
import Derived.WalkSmall
import Derived.Deep.CutBlock
import Derived.Deep.LoopGhost
import Derived.Deep.DeepCutAuto
import Derived.Test.YtmfadmhbkgemmaaQPackB
import Derived.Test.YtmfadmhbkgemmaaQPack5
import Derived.Test.YtmfadmhbkgemmaaQLoPlain
import Derived.Test.YtmfadmhbkgemmaaQGStore
import Derived.Test.YtmfadmhbkgemmaaQGCopy
/-
  The document's locks in memory: a row of locks, each with rows of its holders and of who waits; the counter. The condition: lists are short, numbers are ints.
-/
namespace Go.Proofs.Ytmfadmhbkgemmaa
open Go.RowKit

abbrev lkT : TypeId := 63
abbrev lsT : TypeId := 29
/-- A lock with where its two rows lie. -/
structure Lv where
  k : Lk
  ha : Option Addr
  hc : Nat
  qa : Option Addr
  qc : Nat
abbrev Lv.hv (x : Lv) : Value := .slice x.ha x.k.h.length x.hc
abbrev Lv.qv (x : Lv) : Value := .slice x.qa x.k.q.length x.qc
def lvC (x : Lv) : List Value := [.string x.k.name, x.hv, .bool x.k.wr, x.qv]
theorem lvC_len (x : Lv) : (lvC x).length = 4 := rfl
theorem lvC_one (x : Lv) : ∀ u ∈ lvC x, u.oneCell' = true := fun u hu => by
  simp only [lvC, List.mem_cons, List.not_mem_nil, or_false] at hu
  rcases hu with rfl | rfl | rfl | rfl <;> rfl
def wqC (x : Wq) : List Value := [.int .i64 x.s, .int .i64 x.n, .bool x.rd]
theorem wqC_len (x : Wq) : (wqC x).length = 3 := rfl
theorem wqC_one (x : Wq) : ∀ u ∈ wqC x, u.oneCell' = true := fun u hu => by
  simp only [wqC, List.mem_cons, List.not_mem_nil, or_false] at hu
  rcases hu with rfl | rfl | rfl <;> rfl
abbrev lsA (v : Value) (c : Int) : Array Value := #[v, .int .u64 c]
/-- A lock's two rows lie in blocks that nobody writes. -/
structure LvAt (w : World) (P : Nat → Prop) (D : Nat) (x : Lv) : Prop where
  h : OwnRow intC w P D x.hv x.k.h
  q : OwnRow wqC w P D x.qv x.k.q
theorem LvAt.keep {w w' : World} {P : Nat → Prop} {D : Nat} {x : Lv} (h : LvAt w P D x) (hs : w.heap.size ≤ w'.heap.size) (hk : ∀ b, P b → b ≠ D → w'.heap[b]? = w.heap[b]?) : LvAt w' P D x := ⟨h.h.keep hs hk, h.q.keep hs hk⟩
theorem LvAt.grow {w : World} {P P' : Nat → Prop} {D : Nat} {x : Lv} (h : LvAt w P D x) (hp : ∀ b, P b → P' b) : LvAt w P' D x := ⟨h.h.grow hp, h.q.grow hp⟩
structure LoM (w : World) (base D : Nat) (S P : Nat → Prop) (L : List Lv) (v : Value) (c : Int) : Prop where
  blk : w.heap[D]? = some (.cells (lsA v c) lsT (0, 0))
  own : w.ownsRow base lkT 4 v L.length (rowL lvC L)
  hq : ∀ x ∈ L, LvAt w P D x
  pb : ∀ g, P g → base ≤ g ∧ g < w.heap.size ∧ g ≠ D ∧ v.ownBlock ≠ some g
  lo : base ≤ D
  set : ∀ g, S g ↔ g = D ∨ v.ownBlock = some g ∨ P g
section
variable {w w' : World} {base D : Nat} {S P : Nat → Prop} {L : List Lv} {v : Value} {c : Int}
theorem LoM.bd (h : LoM w base D S P L v c) : ∀ g, S g → base ≤ g ∧ g < w.heap.size := fun g hg => by
  rcases (h.set g).1 hg with rfl | e | e
  · exact ⟨h.lo, lt_of_block h.blk⟩
  · exact h.own.lt g e
  · exact ⟨(h.pb g e).1, (h.pb g e).2.1⟩
theorem LoM.ne (h : LoM w base D S P L v c) : v.ownBlock ≠ some D := own_ne h.own h.blk (by decide)
theorem LoM.keep (h : LoM w base D S P L v c) (hs : w.heap.size ≤ w'.heap.size) (hk : ∀ g, S g → w'.heap[g]? = w.heap[g]?) : LoM w' base D S P L v c :=
  ⟨(hk D ((h.set D).2 (Or.inl rfl))).trans h.blk, own_keep h.own fun g e => hk g ((h.set g).2 (Or.inr (Or.inl e))), fun x hx => (h.hq x hx).keep hs fun b hb _ => hk b ((h.set b).2 (Or.inr (Or.inr hb))), fun g hg => ⟨(h.pb g hg).1, Nat.lt_of_lt_of_le (h.pb g hg).2.1 hs, (h.pb g hg).2.2⟩, h.lo, h.set⟩
theorem LoM.fresh (h : LoM w base D S P L v c) (k : Below w.heap.size w w') : LoM w' base D S P L v c := h.keep k.size fun g hg => k.block g (h.bd g hg).2
theorem LoM.cell (h : LoM w base D S P L v c) (i : Nat) (u : Value) (hu : (lsA v c)[i]? = some u) : w.cell? ⟨D, i, none⟩ = some u := by
  simp only [World.cell?, h.blk]
  simpa using hu
theorem LoM.fz (h : LoM w base D S P L v c) (i : Nat) : w.frozen? ⟨D, i, none⟩ = false := by simp [World.frozen?, h.blk]
theorem LoM.form (h : LoM w base D S P L v c) : ∃ a cp, v = .slice a L.length cp := by
  rcases h.own.2 with ⟨rfl, e0⟩ | ⟨g, cp, cur, rfl, _⟩
  · exact ⟨_, _, by rw [e0]⟩
  · exact ⟨_, _, rfl⟩
/-- A lock in the row. -/
structure LoI (w : World) (base D : Nat) (S P : Nat → Prop) (L : List Lv) (v : Value) (g cp k : Nat) (x : Lv) : Prop where
  form : v = .slice (some ⟨g, 0, none⟩) L.length cp
  gs : S g ∧ g ≠ D ∧ g < w.heap.size ∧ ¬ P g
  cps : L.length ≤ cp
  cell : ∀ (j : Nat) (u : Value), (lvC x)[j]? = some u → w.cell? ⟨g, k * 4 + j, none⟩ = some u
  fz : ∀ j, w.frozen? ⟨g, j, none⟩ = false
  blk : ∃ cur : List Value, w.heap[g]? = some (.cells cur.toArray lkT (0, 0)) ∧ cur.take (L.length * 4) = rowL lvC L ∧ cur.length = cp * 4
  at' : LvAt w P D x
theorem LoM.at (h : LoM w base D S P L v c) {k : Nat} {x : Lv} (hx : L[k]? = some x) : ∃ g cp, LoI w base D S P L v g cp k x := by
  obtain ⟨hk, hv⟩ := List.getElem?_eq_some_iff.1 hx
  rcases h.own.2 with ⟨rfl, e0⟩ | ⟨g, cp, cur, rfl, h2, h3, h4, h5, h6, h7⟩
  · omega
  · have hgD : g ≠ D := fun e => h.ne (by rw [← e]; rfl)
    refine ⟨g, cp, rfl, ⟨(h.set g).2 (Or.inr (Or.inl rfl)), hgD, lt_of_block h3, fun hp => (h.pb g hp).2.2.2 rfl⟩, h4, fun j u hu => ?_, fun j => by simp [World.frozen?, h3], (by
      obtain ⟨cur2, k1, _, _, _, k5, k6⟩ := own_open h.own
      exact ⟨cur2, k1, k6, k5⟩), h.hq x (by rw [← hv]; exact List.getElem_mem hk)⟩
    have hj : j < 4 := by have := (List.getElem?_eq_some_iff.1 hu).1; rw [lvC_len] at this; exact this
    have hx2 := h.own.cells (g := g) rfl (k * 4 + j) u (by rw [rowL_at lvC_len L k hk j hj, hv]; exact hu)
    have e : (⟨g, 0, none⟩ : Addr).add (k * 4 + j) = ⟨g, k * 4 + j, none⟩ := by unfold Addr.add; split <;> simp_all
    rwa [e] at hx2
end
section
variable {w w' : World} {base D n : Nat} {S : Nat → Prop} {c : Int} {l : List Lk}
end
end Go.Proofs.Ytmfadmhbkgemmaa
/-
  The document's locks: where one stands; whether a session holds one or waits for it. The condition: lists are short.
-/
namespace Go.Proofs.Ytmfadmhbkgemmaa
open Go.RowKit

set_option maxHeartbeats 3200000 in
set_option maxRecDepth 100000 in
theorem lofind_any {w : World} {base D : Nat} {S P : Nat → Prop} {L : List Lv} {v : Value} {c : Int} (h : LoM w base D S P L v c) (hl : L.length ≤ 9223372036854775807) (n : ByteArray) :
    Calls Try.prog 33 #[.pointer (some ⟨D, 0, none⟩), .string n] w fun e w' => e = .returned (.int .i64 (ixI (lkIx (L.map (·.k)) n))) ∧ w' = w := by
  have c0 := h.cell 0 _ rfl
  obtain ⟨a, cp, rfl⟩ := h.form
  have HM : Hid _ := h
  clear h
  go_enter Try.func33, Try.ntmps33
  go_wp2
  go_loopw [5] (fun i wr => ∃ k : Nat, k ≤ L.length ∧ i = .int .i64 k ∧ wr = w ∧ Hid (∀ j (hj : j < L.length), j < k → ¬ L[j].k.name = n)) (fun i _ => L.length - (intOf i).toNat)
  case atStart => exact ⟨0, Nat.zero_le _, rfl, rfl, fun j hj h => by omega⟩
  case round =>
    obtain ⟨k, hk, rfl, rfl, HN⟩ := hrel
    by_cases hkl : k < L.length
    · have t0 : decide ((k : Int) < (L.length : Int)) = true := decide_eq_true (by omega)
      have t0' : decide (k < L.length) = true := decide_eq_true hkl
      obtain ⟨g, cp', I⟩ := HM.out.at (List.getElem?_eq_getElem hkl)
      have e0 := I.form
      simp only [Value.slice.injEq] at e0
      obtain ⟨rfl, _, rfl⟩ := e0
      have z0 := I.cell 0 _ rfl
      obtain ⟨m, hm⟩ : ∃ m, m = L[k].k.name := ⟨_, rfl⟩
      rw [← hm, Nat.add_zero] at z0
      have HMm : Hid (m = L[k].k.name) := hm
      clear hm I
      by_cases hx : m = n
      · have HF : Hid (lkIx (L.map (·.k)) n = some k) := lkIx_some (by rw [List.length_map]; exact hkl) (by rw [List.getElem_map, ← HMm.out]; exact hx) (fun j hj hjl => by rw [List.length_map] at hjl; rw [List.getElem_map]; exact HN.out j hjl hj)
        subst hx
        go_wp2
        go_ret
        exact ⟨by rw [HF.out]; rfl, by first | rfl | trivial⟩
      · have n1 : (m.toList == n.toList) = false := by
          rw [beq_eq_false_iff_ne]
          exact fun e => hx (nameK_inj e)
        have HN2 : Hid (∀ j (hj : j < L.length), j < k + 1 → ¬ L[j].k.name = n) := fun j hjl hj e => by
          by_cases hjk : j < k
          · exact HN.out j hjl hjk e
          · have : j = k := by omega
            subst this
            exact hx (by rw [HMm.out]; exact e)
        clear hx HN
        go_wp2
        exact ⟨⟨k + 1, hkl, by simp, by first | rfl | trivial, HN2⟩, by simp [intOf]; omega⟩
    · obtain rfl : k = L.length := by omega
      have t0 : decide ((L.length : Int) < (L.length : Int)) = false := decide_eq_false (by omega)
      have HF : Hid (lkIx (L.map (·.k)) n = none) := lkIx_none (fun j hj => by rw [List.length_map] at hj; rw [List.getElem_map]; exact HN.out j hj (by omega))
      go_wp2
      go_ret
      exact ⟨by rw [HF.out]; rfl, by first | rfl | trivial⟩
theorem waitB_no {q : List Wq} {s : Int} (h : ∀ j (hj : j < q.length), ¬ q[j].s = s) : waitB q s = false := by
  unfold waitB
  rw [List.any_eq_false]
  intro x hx
  obtain ⟨j, hj, rfl⟩ := List.getElem_of_mem hx
  simpa using h j hj
theorem waitB_yes {q : List Wq} {s : Int} {j : Nat} (hj : j < q.length) (h : q[j].s = s) : waitB q s = true := by
  unfold waitB
  rw [List.any_eq_true]
  exact ⟨q[j], List.getElem_mem hj, by simpa using h⟩
abbrev lvA (x : Lv) : Array Value := #[.string x.k.name, .slice x.ha x.k.h.length x.hc, .bool x.k.wr, .slice x.qa x.k.q.length x.qc]
set_option maxHeartbeats 3200000 in
set_option maxRecDepth 100000 in
theorem loin_any {w : World} {P : Nat → Prop} {D n : Nat} {x : Lv} (h : LvAt w P D x) (hok : LkOk n x.k) (hn : n ≤ 65536) (s : Int) :
    Calls Try.prog 36 #[.agg (lvA x), .int .i64 s] w fun e w' => e = .returned (.bool (inK x.k s)) ∧ Below w.heap.size w w' := by
  obtain ⟨W, hW⟩ : ∃ W, W = w.alloc (.cells (lvA x) lkT) := ⟨_, rfl⟩
  have bW : Below w.heap.size w W := by rw [hW]; exact (Below.refl _ w).alloc (Nat.le_refl _) _
  have rW : W.heap[w.heap.size]? = some (.cells (lvA x) lkT (0, 0)) := by rw [hW]; exact heap_alloc_new w _
  have HW : Hid (w.alloc (.cells (lvA x) lkT) = W) := hW.symm
  have BW : Hid (Below w.heap.size w W) := bW
  have r1 : W.cell? ⟨w.heap.size, 1, none⟩ = some (.slice x.ha x.k.h.length x.hc) := by simp [World.cell?, rW]
  have r3 : W.cell? ⟨w.heap.size, 3, none⟩ = some (.slice x.qa x.k.q.length x.qc) := by simp [World.cell?, rW]
  have HI : Hid (IntsAt W (.slice x.ha x.k.h.length x.hc) x.k.h) := (h.h.at'.fresh bW).ints hok.hi (Nat.le_trans hok.hl hn)
  have HQ : Hid (RowAt wqC W (.slice x.qa x.k.q.length x.qc) x.k.q) := h.q.at'.fresh bW
  have hql : x.k.q.length ≤ 65536 := Nat.le_trans hok.ql hn
  have HE : Hid (inK x.k s = (hasB x.k.h s || waitB x.k.q s)) := rfl
  obtain ⟨q, hq⟩ : ∃ q, q = x.k.q := ⟨_, rfl⟩
  obtain ⟨hs, hhs⟩ : ∃ b, b = x.k.h := ⟨_, rfl⟩
  rw [← hhs] at r1 HI HE
  rw [← hq] at r3 HQ HE hql
  rw [HE.out]
  clear hW bW rW h hok hq hhs
  cases hb : hasB hs s with
  | true =>
    go_enter Try.func36, Try.ntmps36
    go_upto_region 1 with fail
    rw [HW.out]
    go_wp2_with (go_at_call 39; refine (has_any _ _ _ _ HI.out).mono ?_; rw [hb]; rintro e w1 ⟨rfl, hw1⟩; rw [hw1]; clear hw1)
    go_ret
    exact ⟨rfl, BW.out⟩
  | false =>
    rw [Bool.false_or]
    go_enter Try.func36, Try.ntmps36
    go_upto_region 1 with fail
    rw [HW.out]
    go_wp2_with (go_at_call 39; refine (has_any _ _ _ _ HI.out).mono ?_; rw [hb]; rintro e w1 ⟨rfl, hw1⟩; rw [hw1]; clear hw1)
    go_loopw [5] (fun i wr => ∃ k : Nat, k ≤ q.length ∧ i = .int .i64 k ∧ wr = W ∧ Hid (∀ j (hj : j < q.length), j < k → ¬ q[j].s = s)) (fun i _ => q.length - (intOf i).toNat)
    case atStart => exact ⟨0, Nat.zero_le _, rfl, rfl, fun j hj h => by omega⟩
    case round =>
      obtain ⟨k, hk, rfl, rfl, HN⟩ := hrel
      by_cases hkl : k < q.length
      · have t0 : decide ((k : Int) < (q.length : Int)) = true := decide_eq_true (by omega)
        have t0' : decide (k < q.length) = true := decide_eq_true hkl
        obtain ⟨bk, off, cp', e0, _, _, hc⟩ := HQ.out.cells wqC_len (by omega)
        simp only [Value.slice.injEq] at e0
        obtain ⟨e1, _, e2⟩ := e0
        rw [e1, e2] at r3
        have z0 := hc k hkl 0 (.int .i64 q[k].s) (by decide) rfl
        rw [Nat.add_zero] at z0
        obtain ⟨m, hm⟩ : ∃ m, m = q[k].s := ⟨_, rfl⟩
        rw [← hm] at z0
        have HMm : Hid (m = q[k].s) := hm
        clear hm hc e1 e2
        by_cases hx : m = s
        · have HF : Hid (waitB q s = true) := waitB_yes hkl (by rw [← HMm.out]; exact hx)
          have t1 : (m == s) = true := by simpa using hx
          clear hx
          go_wp2
          go_ret
          exact ⟨by rw [HF.out]; try rfl, BW.out⟩
        · have t1 : (m == s) = false := by simpa using hx
          have HN2 : Hid (∀ j (hj : j < q.length), j < k + 1 → ¬ q[j].s = s) := fun j hjl hj e => by
            by_cases hjk : j < k
            · exact HN.out j hjl hjk e
            · have : j = k := by omega
              subst this
              exact hx (by rw [HMm.out]; exact e)
          clear hx HN
          go_wp2
          exact ⟨⟨k + 1, hkl, by simp, by first | rfl | trivial, HN2⟩, by simp [intOf]; omega⟩
      · obtain rfl : k = q.length := by omega
        have t0 : decide ((q.length : Int) < (q.length : Int)) = false := decide_eq_false (by omega)
        have HF : Hid (waitB q s = false) := waitB_no (fun j hj => HN.out j hj hj)
        go_wp2
        go_ret
        exact ⟨by rw [HF.out]; try rfl, BW.out⟩
end Go.Proofs.Ytmfadmhbkgemmaa
/-
  While a lock is given: the counter's block, the lock's block, the reply at hand. No condition.
-/
namespace Go.Proofs.Ytmfadmhbkgemmaa
open Go.RowKit

abbrev rpT : TypeId := 52
abbrev wqT : TypeId := 65
abbrev rpA (r : SeR) : Array Value := #[.int .i64 r.session, .int .i64 r.seq, .int .i64 r.err, .int .u64 r.token, .int .i64 r.n]
def rpC (r : SeR) : List Value := [.int .i64 r.session, .int .i64 r.seq, .int .i64 r.err, .int .u64 r.token, .int .i64 r.n]
theorem rpC_len (r : SeR) : (rpC r).length = 5 := rfl
theorem rpC_one (x : SeR) : ∀ u ∈ rpC x, u.oneCell' = true := fun u hu => by
  simp only [rpC, List.mem_cons, List.not_mem_nil, or_false] at hu
  rcases hu with rfl | rfl | rfl | rfl | rfl <;> rfl
abbrev wqA (x : Wq) : Array Value := #[.int .i64 x.s, .int .i64 x.n, .bool x.rd]
theorem sizeRp : (Try.prog.info? rpT).map (·.size) = some 5 := by kernel_rfl
theorem three_blks (w : World) (o1 o2 o3 : Obj) : (((w.alloc o1).alloc o2).alloc o3).heap[w.heap.size]? = some o1 ∧ (((w.alloc o1).alloc o2).alloc o3).heap[w.heap.size + 1]? = some o2 ∧ (((w.alloc o1).alloc o2).alloc o3).heap[w.heap.size + 2]? = some o3 ∧ (((w.alloc o1).alloc o2).alloc o3).heap.size = w.heap.size + 3 := by
  have s1 : (w.alloc o1).heap.size = w.heap.size + 1 := by simp
  have s2 : ((w.alloc o1).alloc o2).heap.size = w.heap.size + 2 := by simp
  have a1 := heap_alloc_new w o1
  have a2 := heap_alloc_new (w.alloc o1) o2
  have a3 := heap_alloc_new ((w.alloc o1).alloc o2) o3
  rw [s1] at a2
  rw [s2] at a3
  exact ⟨(Below.heap_alloc _ _ _ (by rw [s2]; omega)).trans ((Below.heap_alloc _ _ _ (by rw [s1]; omega)).trans a1), (Below.heap_alloc _ _ _ (by rw [s2]; omega)).trans a2, a3, by simp⟩
theorem wq_s {y : World} {B : Nat} {x : Wq} (h : y.heap[B]? = some (.cells (wqA x) wqT (0, 0))) : y.cell? ⟨B, 0, none⟩ = some (.int .i64 x.s) := by simp [World.cell?, h]
def two (D B : Nat) : Nat → Prop := fun b => b = D ∨ b = B
/-- Within: the document's block D, the lock's block B, the parameter's, the result's, the reply's. -/
structure GvI (w wr : World) (D B : Nat) (v : Value) (x : Wq) (c : Int) (cur : List Value) (r : SeR) : Prop where
  k : Kept w wr (two D B) (two D B)
  d : wr.heap[D]? = some (.cells (lsA v c) lsT (0, 0))
  b : wr.heap[B]? = some (.cells cur.toArray lkT (0, 0))
  r1 : wr.heap[w.heap.size]? = some (.cells (wqA x) wqT (0, 0))
  r2 : wr.heap[w.heap.size + 1]? = some (.cells (rpA SeR.zero) rpT (0, 0))
  r3 : wr.heap[w.heap.size + 1 + 1]? = some (.cells (rpA r) rpT (0, 0))
  ne : D ≠ B ∧ D < w.heap.size ∧ B < w.heap.size
section
variable {w wr wr' : World} {D B : Nat} {v : Value} {x : Wq} {c : Int} {cur : List Value} {r : SeR}
theorem GvI.size (I : GvI w wr D B v x c cur r) : w.heap.size + 3 ≤ wr.heap.size := lt_of_block I.r3
theorem GvI.below (I : GvI w wr D B v x c cur r) (b : Below wr.heap.size wr wr') : GvI w wr' D B v x c cur r :=
  ⟨I.k.trans (Kept.of b), (b.block _ (lt_of_block I.d)).trans I.d, (b.block _ (lt_of_block I.b)).trans I.b, (b.block _ (lt_of_block I.r1)).trans I.r1, (b.block _ (lt_of_block I.r2)).trans I.r2, (b.block _ (lt_of_block I.r3)).trans I.r3, I.ne⟩
theorem kept_set {g j : Nat} {u : Value} (k : Kept w wr (two D B) (two D B)) (h : g = D ∨ g = B ∨ w.heap.size ≤ g) : Kept w (wr.setCell ⟨g, j, none⟩ u) (two D B) (two D B) :=
  ⟨k.os, k.tape, k.output, by simpa using k.size, fun b hb => Or.inl hb, fun b hb hn => (heap_setCell_other _ _ _ _ (fun e => by
    have e : b = g := e
    subst e
    rcases h with h | h | h
    · exact hn (Or.inl h)
    · exact hn (Or.inr h)
    · omega)).trans (k.kept b hb hn)⟩
theorem GvI.setD (I : GvI w wr D B v x c cur r) (c' : Int) : GvI w (wr.setCell ⟨D, 1, none⟩ (.int .u64 c')) D B v x c' cur r := by
  obtain ⟨h1, h2, h3⟩ := I.ne
  refine ⟨kept_set I.k (Or.inl rfl), ?_, ?_, ?_, ?_, ?_, I.ne⟩
  · rw [heap_setCell_same _ D 1 _ _ _ I.d]; rfl
  · exact (heap_setCell_other _ _ _ _ (fun e => h1 (by exact e.symm))).trans I.b
  · exact (heap_setCell_other _ _ _ _ (fun e => by have e : w.heap.size = D := e; omega)).trans I.r1
  · exact (heap_setCell_other _ _ _ _ (fun e => by have e : w.heap.size + 1 = D := e; omega)).trans I.r2
  · exact (heap_setCell_other _ _ _ _ (fun e => by have e : w.heap.size + 1 + 1 = D := e; omega)).trans I.r3
theorem GvI.setB (I : GvI w wr D B v x c cur r) (j : Nat) (u : Value) : GvI w (wr.setCell ⟨B, j, none⟩ u) D B v x c (cur.set j u) r := by
  obtain ⟨h1, h2, h3⟩ := I.ne
  refine ⟨kept_set I.k (Or.inr (Or.inl rfl)), ?_, ?_, ?_, ?_, ?_, I.ne⟩
  · exact (heap_setCell_other _ _ _ _ (fun e => h1 (by exact e))).trans I.d
  · rw [heap_setCell_same _ B j _ _ _ I.b]; simp
  · exact (heap_setCell_other _ _ _ _ (fun e => by have e : w.heap.size = B := e; omega)).trans I.r1
  · exact (heap_setCell_other _ _ _ _ (fun e => by have e : w.heap.size + 1 = B := e; omega)).trans I.r2
  · exact (heap_setCell_other _ _ _ _ (fun e => by have e : w.heap.size + 1 + 1 = B := e; omega)).trans I.r3
theorem GvI.setR (I : GvI w wr D B v x c cur r) (j : Nat) (u : Value) {r' : SeR} (hr : (rpA r).setIfInBounds j u = rpA r') : GvI w (wr.setCell ⟨w.heap.size + 1 + 1, j, none⟩ u) D B v x c cur r' := by
  obtain ⟨h1, h2, h3⟩ := I.ne
  refine ⟨kept_set I.k (Or.inr (Or.inr (by omega))), ?_, ?_, ?_, ?_, ?_, I.ne⟩
  · exact (heap_setCell_other _ _ _ _ (fun e => by have e : D = w.heap.size + 1 + 1 := e; omega)).trans I.d
  · exact (heap_setCell_other _ _ _ _ (fun e => by have e : B = w.heap.size + 1 + 1 := e; omega)).trans I.b
  · exact (heap_setCell_other _ _ _ _ (fun e => by have e : w.heap.size = w.heap.size + 1 + 1 := e; omega)).trans I.r1
  · exact (heap_setCell_other _ _ _ _ (fun e => by have e : w.heap.size + 1 = w.heap.size + 1 + 1 := e; omega)).trans I.r2
  · rw [heap_setCell_same _ _ j _ _ _ I.r3, hr]
theorem GvI.cD (I : GvI w wr D B v x c cur r) : wr.cell? ⟨D, 1, none⟩ = some (.int .u64 c) := by simp [World.cell?, I.d]
theorem GvI.fD (I : GvI w wr D B v x c cur r) (j : Nat) : wr.frozen? ⟨D, j, none⟩ = false := by simp [World.frozen?, I.d]
theorem GvI.cB (I : GvI w wr D B v x c cur r) (j : Nat) (u : Value) (h : cur[j]? = some u) : wr.cell? ⟨B, j, none⟩ = some u := by simp [World.cell?, I.b, h]
theorem GvI.fB (I : GvI w wr D B v x c cur r) (j : Nat) : wr.frozen? ⟨B, j, none⟩ = false := by simp [World.frozen?, I.b]
theorem GvI.c1 (I : GvI w wr D B v x c cur r) (j : Nat) (u : Value) (h : (wqA x)[j]? = some u) : wr.cell? ⟨w.heap.size, j, none⟩ = some u := by simp only [World.cell?, I.r1]; simpa using h
theorem GvI.c3 (I : GvI w wr D B v x c cur r) (j : Nat) (u : Value) (h : (rpA r)[j]? = some u) : wr.cell? ⟨w.heap.size + 1 + 1, j, none⟩ = some u := by simp only [World.cell?, I.r3]; simpa using h
theorem GvI.f3 (I : GvI w wr D B v x c cur r) (j : Nat) : wr.frozen? ⟨w.heap.size + 1 + 1, j, none⟩ = false := by simp [World.frozen?, I.r3]
end
/-- What a give leaves. -/
structure GivP (w : World) (D B o : Nat) (v : Value) (cur : List Value) (P : Nat → Prop) (g : Int × List Int × Bool × SeR) (e : Ending) (w' : World) : Prop where
  ex : ∃ a c, e = .returned (.agg (rpA g.2.2.2)) ∧ Kept w w' (two D B) (two D B) ∧ w'.heap[D]? = some (.cells (lsA v g.1) lsT (0, 0)) ∧ w'.heap[B]? = some (.cells ((cur.set (o + 1) (.slice a g.2.1.length c)).set (o + 2) (.bool g.2.2.1)).toArray lkT (0, 0)) ∧ OwnRow intC w' (fun b => P b ∨ w.heap.size ≤ b ∧ b < w'.heap.size) D (.slice a g.2.1.length c) g.2.1
/-- Behind the result's store. -/
theorem GvI.fin {w wr w4 : World} {D B : Nat} {v : Value} {x : Wq} {c : Int} {cur : List Value} {r : SeR} (I : GvI w wr D B v x c cur r) (g4 : wr.grownBy w4 (some (w.heap.size + 1))) : Kept w w4 (two D B) (two D B) ∧ w4.heap[D]? = some (.cells (lsA v c) lsT (0, 0)) ∧ w4.heap[B]? = some (.cells cur.toArray lkT (0, 0)) := by
  obtain ⟨h1, h2, h3⟩ := I.ne
  have hs := I.size
  refine ⟨⟨g4.os.trans I.k.os, g4.tape.trans I.k.tape, g4.output.trans I.k.output, Nat.le_trans I.k.size g4.size, fun b hb => Or.inl hb, fun b hb hn => (g4.block b (by omega) (fun e => by have := Option.some.inj e; omega)).trans (I.k.kept b hb hn)⟩, (g4.block D (by omega) (fun e => by have := Option.some.inj e; omega)).trans I.d, (g4.block B (by omega) (fun e => by have := Option.some.inj e; omega)).trans I.b⟩
end Go.Proofs.Ytmfadmhbkgemmaa
/-
  The document's locks: a lock given, wherever it lies. The conditions: lists are short, numbers are ints.
-/
namespace Go.Proofs.Ytmfadmhbkgemmaa
open Go.RowKit

theorem cur_self {cur : List Value} {o : Nat} {u1 u2 : Value} (h1 : cur[o + 1]? = some u1) (h2 : cur[o + 2]? = some u2) : (cur.set (o + 1) u1).set (o + 2) u2 = cur := by
  apply List.ext_getElem?
  intro i
  rw [List.getElem?_set, List.getElem?_set, List.length_set]
  by_cases e2 : o + 2 = i
  · subst e2
    rw [if_pos rfl, if_pos (List.getElem?_eq_some_iff.1 h2).1, h2]
  · rw [if_neg e2]
    by_cases e1 : o + 1 = i
    · subst e1
      rw [if_pos rfl, if_pos (List.getElem?_eq_some_iff.1 h1).1, h1]
    · rw [if_neg e1]
theorem OwnInts.row {w : World} {S : Nat → Prop} {D : Nat} {v : Value} {l : List Int} (h : OwnInts w S D v l) : OwnRow intC w S D v l := by
  refine ⟨?_, fun bk off n cap h0 e => h.own _ bk off n cap h0 e rfl⟩
  obtain ⟨a, cap, e, h1, h2⟩ := h.at'.ex
  refine ⟨a, cap, e, h1, fun ha => h.nn _ _ (by rw [e, ha]), ?_⟩
  rcases h2 with h2 | ⟨bk, off, ha, hb, hx⟩
  · exact Or.inl h2
  · refine Or.inr ⟨bk, off, ha, hb, fun j u hu => ?_⟩
    rw [rowL_int] at hu
    have hj : j < l.length := by
      have := (List.getElem?_eq_some_iff.1 hu).1
      unfold intL at this
      rwa [List.length_map] at this
    unfold intL at hu
    rw [List.getElem?_map, List.getElem?_eq_getElem hj] at hu
    have hu : some (Value.int .i64 l[j]) = some u := hu
    injection hu with hu
    rw [← hu]
    exact hx j hj
set_option maxHeartbeats 12800000 in
set_option maxRecDepth 100000 in
theorem logive_any {w : World} {D B o : Nat} {v : Value} {cur : List Value} {P : Nat → Prop} {c : Int} {h : List Int} {wr : Bool} {ha : Option Addr} {hc : Nat} (x : Wq)
    (hD : w.heap[D]? = some (.cells (lsA v c) lsT (0, 0))) (hB : w.heap[B]? = some (.cells cur.toArray lkT (0, 0))) (hne : D ≠ B) (h1 : cur[o + 1]? = some (.slice ha h.length hc)) (h2 : cur[o + 2]? = some (.bool wr))
    (hrow : OwnRow intC w P D (.slice ha h.length hc) h) (hP : ∀ b, P b → b < w.heap.size ∧ b ≠ D ∧ b ≠ B) (hh : ∀ a ∈ h, okI a) (hl : h.length < 65536) (hs : okI x.s) (hc0 : 0 ≤ c) (hc1 : c ≤ 18446744073709551615) :
    Calls Try.prog 34 #[.pointer (some ⟨D, 0, none⟩), .pointer (some ⟨B, o, none⟩), .agg (wqA x)] w (GivP w D B o v cur P (giveH c h wr x)) := by
  obtain ⟨e1, e2, e3, e4⟩ := three_blks w (.cells (wqA x) wqT) (.cells (rpA SeR.zero) rpT) (.cells (rpA ⟨x.s, x.n, 0, 0, 0⟩) rpT)
  obtain ⟨W, hW⟩ : ∃ W, W = ((w.alloc (.cells (wqA x) wqT)).alloc (.cells (rpA SeR.zero) rpT)).alloc (.cells (rpA ⟨x.s, x.n, 0, 0, 0⟩) rpT) := ⟨_, rfl⟩
  have bW : Below w.heap.size w W := by rw [hW]; exact (((Below.refl _ w).alloc (Nat.le_refl _) _).alloc (by simp) _).alloc (by simp; omega) _
  rw [← hW] at e1 e2 e3 e4
  have I0 : Hid (GvI w W D B v x c cur ⟨x.s, x.n, 0, 0, 0⟩) := (show Hid _ from (⟨Kept.of bW, (bW.block _ (lt_of_block hD)).trans hD, (bW.block _ (lt_of_block hB)).trans hB, e1, e2, e3, hne, lt_of_block hD, lt_of_block hB⟩ : GvI w W D B v x c cur ⟨x.s, x.n, 0, 0, 0⟩))
  have HW : Hid (((w.alloc (.cells #[.int .i64 x.s, .int .i64 x.n, .bool x.rd] wqT)).alloc (.cells #[.int .i64 0, .int .i64 0, .int .i64 0, .int .u64 0, .int .i64 0] rpT)).alloc (.cells #[.int .i64 x.s, .int .i64 x.n, .int .i64 0, .int .u64 0, .int .i64 0] rpT) = W) := hW.symm
  have HR : Hid (OwnRow intC w P D (.slice ha h.length hc) h ∧ (∀ b, P b → b < w.heap.size ∧ b ≠ D ∧ b ≠ B)) := (show Hid _ from (⟨hrow, hP⟩ : _ ∧ _))
  have HC : Hid (cur[o + 1]? = some (.slice ha h.length hc) ∧ cur[o + 2]? = some (.bool wr)) := (show Hid _ from (⟨h1, h2⟩ : _ ∧ _))
  have HO : Hid ((∀ a ∈ h, okI a) ∧ h.length < 65536 ∧ okI x.s ∧ 0 ≤ c ∧ c ≤ 18446744073709551615) := (show Hid _ from (⟨hh, hl, hs, hc0, hc1⟩ : _ ∧ _ ∧ _ ∧ _ ∧ _))
  clear hD hB hne h1 h2 hrow hP hh hl hs hc0 hc1 e1 e2 e3 e4 hW bW
  obtain ⟨q, hq⟩ : ∃ q, q = giveH c h wr x := ⟨_, rfl⟩
  have HQ : Hid (q = giveH c h wr x) := hq
  rw [← hq]
  clear hq
  go_enter Try.func34, Try.ntmps34
  go_upto_region 2 with fail
  rw [HW.out]
  have y2 := I0.out.c1 2 (.bool x.rd) rfl
  have yD := I0.out.cD
  cases hrd : x.rd with
  | false =>
    rw [hrd] at y2
    by_cases hcl : c = 18446744073709551615
    · have hqe : q = (c, h, wr, ⟨x.s, x.n, 16, 0, 0⟩) := by rw [HQ.out]; unfold giveH; rw [hrd, if_neg (by decide), if_pos hcl]
      have t0 : (c == 18446744073709551615) = true := by simpa using hcl
      have f3 := I0.out.f3 2
      have c3 := I0.out.c3 2 _ rfl
      have I1 : Hid (GvI w (W.setCell ⟨w.heap.size + 1 + 1, 2, none⟩ (.int .i64 16)) D B v x c cur ⟨x.s, x.n, 16, 0, 0⟩) := I0.out.setR 2 _ rfl
      clear hcl
      go_wp2_with (first
        | (show wpList _ _ _ (⟨_, Op.store rpT _ _, _, _, _, _⟩ :: _) _ _; refine store_row_g rfl rpT _ _ rfl (w.heap.size + 1) (rpA ⟨x.s, x.n, 16, 0, 0⟩) rfl rfl rpT _ I1.out.r2 sizeRp rfl (by simp [Value.oneCell']) ?_; intro w4 h4 g4)
        | (show wpList _ _ _ (⟨_, Op.load rpT _, _, _, _, _⟩ :: _) _ _; refine load_row_g rfl rpT _ rfl (w.heap.size + 1 + 1) rfl rpT (rpA ⟨x.s, x.n, 16, 0, 0⟩) (0, 0) _ I1.out.r3 Try.underlying52 rfl sizeRp ?_))
      refine bodyPost_ret (results_cell_row Try.results34 _ _ (w.heap.size + 1) rpT _ (0, 0) _ rfl h4 Try.underlying52 rfl sizeRp) rfl ?_
      obtain ⟨k4, d4, b4⟩ := I1.out.fin g4
      rw [hqe]
      exact ⟨ha, hc, rfl, k4, d4, by rw [cur_self HC.out.1 HC.out.2]; exact b4, (HR.out.1.keep k4.size fun b hb hbD => k4.kept b (HR.out.2 b hb).1 (fun e => by
        rcases e with e | e
        · exact hbD e
        · exact (HR.out.2 b hb).2.2 e)).grow fun b hb => Or.inl hb⟩
    · -- the two ways
      have t0 : (c == 18446744073709551615) = false := by simpa using hcl
      have HCL : Hid (¬ c = 18446744073709551615) := hcl
      have hw64 : IntKind.u64.wrap (c + 1) = c + 1 := by rw [IntKind.wrap_u64]; have := HO.out.2.2.2; omega
      have fD := I0.out.fD 1
      have I1 : Hid (GvI w (W.setCell ⟨D, 1, none⟩ (.int .u64 (c + 1))) D B v x (c + 1) cur ⟨x.s, x.n, 0, 0, 0⟩) := I0.out.setD _
      clear hcl
      go_upto_region 7 with fail
      obtain ⟨W1, hW1⟩ : ∃ W1, W1 = W.setCell ⟨D, 1, none⟩ (.int .u64 (c + 1)) := ⟨_, rfl⟩
      rw [← hW1]
      rw [← hW1] at I1
      clear hW1 yD fD
      have yD := I1.out.cD
      have z3 := I1.out.c3 3 _ rfl
      have f3 := I1.out.f3 3
      have I2 : Hid (GvI w (W1.setCell ⟨w.heap.size + 1 + 1, 3, none⟩ (.int .u64 (c + 1))) D B v x (c + 1) cur ⟨x.s, x.n, 0, (c + 1), 0⟩) := I1.out.setR 3 _ rfl
      go_upto_region 8 with fail
      obtain ⟨W2, hW2⟩ : ∃ W2, W2 = W1.setCell ⟨w.heap.size + 1 + 1, 3, none⟩ (.int .u64 (c + 1)) := ⟨_, rfl⟩
      rw [← hW2]
      rw [← hW2] at I2
      clear hW2 yD z3 f3 y2
      have I3 : Hid (GvI w W2.drew D B v x (c + 1) cur ⟨x.s, x.n, 0, (c + 1), 0⟩) := I2.out.below (Below.refl _ W2).drew
      have z1 := I3.out.cB (o + 1) _ HC.out.1
      have HS0 : Hid (W2.drew.heap[w.heap.size]? = some (.cells (wqA x) wqT (0, 0))) := I3.out.r1
      have HP : Hid (Calls Try.prog 55 #[.slice ha h.length hc, .int .i64 x.s] W2.drew fun e w' => ∃ u, e = .returned u ∧ w'.ownsRow W2.drew.heap.size 3 1 u (putL h x.s).length (intL (putL h x.s)) ∧ Below W2.drew.heap.size W2.drew w') := put_any _ _ _ _ _ _ (OwnRow.ints (HR.out.1.keep I3.out.k.size fun b hb hbD => I3.out.k.kept b (HR.out.2 b hb).1 (fun e => by
        rcases e with e | e
        · exact hbD e
        · exact (HR.out.2 b hb).2.2 e)) HO.out.1 (by have := HO.out.2.1; omega)) HO.out.2.1
      refine wp_region_held_drew (S := (fun y : World => y.heap[w.heap.size]? = some (.cells (wqA x) wqT (0, 0)))) (by kernel_rfl) ?_ (fun hHeld0 => ?_)
      · exact HS0.out
      refine tk0 (.pointer (some ⟨B, o, none⟩)) (by kernel_rfl) (by kernel_rfl) (by kernel_rfl) (fun _ _ _ h => h) rfl (fun w hSw => by (try dsimp only at hSw); have s1 := wq_s hSw; go_simp) (by assumption) ?_
      try simp only [Act.put, List.setIfInBounds_toArray, List.set_cons_zero, List.set_cons_succ]
      refine tk1 (.pointer (some ⟨B, o, none⟩)) (by kernel_rfl) (by kernel_rfl) (by kernel_rfl) (fun _ _ _ h => h) rfl (fun w hSw => by (try dsimp only at hSw); have s1 := wq_s hSw; go_simp) (by assumption) ?_
      try simp only [Act.put, List.setIfInBounds_toArray, List.set_cons_zero, List.set_cons_succ]
      refine tk2 (.pointer (some ⟨B, o, none⟩)) (by kernel_rfl) (by kernel_rfl) (by kernel_rfl) (fun _ _ _ h => h) rfl (fun w hSw => by (try dsimp only at hSw); have s1 := wq_s hSw; go_simp) (by assumption) ?_
      try simp only [Act.put, List.setIfInBounds_toArray, List.set_cons_zero, List.set_cons_succ]
      refine tk3 (.pointer (some ⟨B, o + 1, none⟩)) (by kernel_rfl) (by kernel_rfl) (by kernel_rfl) (fun _ _ _ h => h) rfl (fun w hSw => by (try dsimp only at hSw); have s1 := wq_s hSw; go_simp) (by assumption) ?_
      try simp only [Act.put, List.setIfInBounds_toArray, List.set_cons_zero, List.set_cons_succ]
      refine tk5 (.pointer (some ⟨w.heap.size, 0, none⟩)) (by kernel_rfl) (by kernel_rfl) (by kernel_rfl) (fun _ _ _ h => h) rfl (fun w hSw => by (try dsimp only at hSw); have s1 := wq_s hSw; go_simp) (by assumption) ?_
      try simp only [Act.put, List.setIfInBounds_toArray, List.set_cons_zero, List.set_cons_succ]
      refine tk6 (.int .i64 x.s) (by kernel_rfl) (by kernel_rfl) (by kernel_rfl) (fun _ _ _ h => h) rfl (fun w hSw => by (try dsimp only at hSw); have s1 := wq_s hSw; go_simp) (by assumption) ?_
      try simp only [Act.put, List.setIfInBounds_toArray, List.set_cons_zero, List.set_cons_succ]
      refine cl4 (by kernel_rfl) rfl (fun K hK => ?_)
      go_simp
      refine hK.out _ _ ?_ (fun hHeld => ?_)
      · exact HS0.out
      clear hK K
      try simp only [Act.put, List.setIfInBounds_toArray, List.set_cons_zero, List.set_cons_succ]
      refine cl7 (by kernel_rfl) rfl (fun K hK => ?_)
      go_simp
      go_at_call 55
      refine Calls.mono HP.out ?_
      rintro e w5 ⟨u5, rfl, o5, b5⟩
      obtain ⟨a5, c5, hu5⟩ := (RowAt.own intC_len (l := putL h x.s) (by rw [rowL_int]; exact o5)).form
      subst hu5
      have I5 : Hid (GvI w w5 D B v x (c + 1) cur ⟨x.s, x.n, 0, (c + 1), 0⟩) := I3.out.below b5
      have O5 : Hid (w5.ownsRow W2.drew.heap.size 3 1 (.slice a5 (putL h x.s).length c5) (putL h x.s).length (intL (putL h x.s)) ∧ W2.drew.heap.size ≤ w5.heap.size) := (show Hid _ from (⟨o5, b5.size⟩ : _ ∧ _))
      have z5 := I5.out.cB (o + 1) _ HC.out.1
      have f5 := I5.out.fB (o + 1)
      clear b5 o5
      refine hK.out _ _ ?_ (fun hHeld => ?_)
      · exact I5.out.r1
      clear hK K
      try simp only [Act.put, List.setIfInBounds_toArray, List.set_cons_zero, List.set_cons_succ]
      refine tk8 (.pointer (some ⟨B, o, none⟩)) (by kernel_rfl) (by kernel_rfl) (by kernel_rfl) (fun _ _ _ h => h) rfl (fun w hSw => by (try dsimp only at hSw); have s1 := wq_s hSw; go_simp) (by assumption) ?_
      try simp only [Act.put, List.setIfInBounds_toArray, List.set_cons_zero, List.set_cons_succ]
      refine tk9 (.pointer (some ⟨B, o + 1, none⟩)) (by kernel_rfl) (by kernel_rfl) (by kernel_rfl) (fun _ _ _ h => h) rfl (fun w hSw => by (try dsimp only at hSw); have s1 := wq_s hSw; go_simp) (by assumption) ?_
      try simp only [Act.put, List.setIfInBounds_toArray, List.set_cons_zero, List.set_cons_succ]
      refine cl10 (by kernel_rfl) rfl (fun K hK => ?_)
      go_simp
      refine hK.out _ _ ?_ (fun hHeld => ?_)
      · exact (I5.out.setB (o + 1) _).r1
      clear hK K
      refine wpAnyH_done (by kernel_rfl) ?_ _
      have I6 : Hid (GvI w (w5.setCell ⟨B, o + 1, none⟩ (.slice a5 (putL h x.s).length c5)) D B v x (c + 1) (cur.set (o + 1) (.slice a5 (putL h x.s).length c5)) ⟨x.s, x.n, 0, (c + 1), 0⟩) := I5.out.setB _ _
      obtain ⟨w6, hw6⟩ : ∃ w6, w6 = w5.setCell ⟨B, o + 1, none⟩ (.slice a5 (putL h x.s).length c5) := ⟨_, rfl⟩
      rw [← hw6]
      rw [← hw6] at I6
      have O6 : Hid (w6.ownsRow W2.drew.heap.size 3 1 (.slice a5 (putL h x.s).length c5) (putL h x.s).length (intL (putL h x.s)) ∧ W2.drew.heap.size ≤ w6.heap.size) := (show Hid _ from (⟨own_keep O5.out.1 (fun g e => by rw [hw6]; exact heap_setCell_other _ _ _ _ (fun e2 => by have := (O5.out.1.lt g e).1; have := lt_of_block I3.out.b; have e2 : g = B := e2; omega)), by rw [hw6]; simpa using O5.out.2⟩ : _ ∧ _))
      clear hw6 z1 z5 f5
      have y2 := I6.out.c1 2 (.bool false) (by rw [← hrd]; rfl)
      have z6 := I6.out.cB (o + 2) (.bool wr) (by rw [List.getElem?_set_ne (by omega)]; exact HC.out.2)
      have f6 := I6.out.fB (o + 2)
      have I7 : Hid (GvI w (w6.setCell ⟨B, o + 2, none⟩ (.bool true)) D B v x (c + 1) ((cur.set (o + 1) (.slice a5 (putL h x.s).length c5)).set (o + 2) (.bool true)) ⟨x.s, x.n, 0, (c + 1), 0⟩) := I6.out.setB _ _
      go_upto_region 10 with fail
      obtain ⟨w7, hw7⟩ : ∃ w7, w7 = w6.setCell ⟨B, o + 2, none⟩ (.bool true) := ⟨_, rfl⟩
      rw [← hw7]
      rw [← hw7] at I7
      have O7 : Hid (w7.ownsRow W2.drew.heap.size 3 1 (.slice a5 (putL h x.s).length c5) (putL h x.s).length (intL (putL h x.s)) ∧ W2.drew.heap.size ≤ w7.heap.size) := (show Hid _ from (⟨own_keep O6.out.1 (fun g e => by rw [hw7]; exact heap_setCell_other _ _ _ _ (fun e2 => by have := (O6.out.1.lt g e).1; have := lt_of_block I3.out.b; have e2 : g = B := e2; omega)), by rw [hw7]; simpa using O6.out.2⟩ : _ ∧ _))
      clear hw7 y2 z6 f6
      go_wp2_with (first
        | (show wpList _ _ _ (⟨_, Op.store rpT _ _, _, _, _, _⟩ :: _) _ _; refine store_row_g rfl rpT _ _ rfl (w.heap.size + 1) (rpA ⟨x.s, x.n, 0, (c + 1), 0⟩) rfl rfl rpT _ I7.out.r2 sizeRp rfl (by simp [Value.oneCell']) ?_; intro w4 h4 g4)
        | (show wpList _ _ _ (⟨_, Op.load rpT _, _, _, _, _⟩ :: _) _ _; refine load_row_g rfl rpT _ rfl (w.heap.size + 1 + 1) rfl rpT (rpA ⟨x.s, x.n, 0, (c + 1), 0⟩) (0, 0) _ I7.out.r3 Try.underlying52 rfl sizeRp ?_))
      refine bodyPost_ret (results_cell_row Try.results34 _ _ (w.heap.size + 1) rpT _ (0, 0) _ rfl h4 Try.underlying52 rfl sizeRp) rfl ?_
      obtain ⟨k4, d4, b4⟩ := I7.out.fin g4
      have hqe : q = ((c + 1), putL h x.s, true, ⟨x.s, x.n, 0, (c + 1), 0⟩) := by rw [HQ.out]; unfold giveH; rw [hrd]; rw [if_neg (by decide), if_neg HCL.out]
      rw [hqe]
      have o8 : w4.ownsRow W2.drew.heap.size 3 1 (.slice a5 (putL h x.s).length c5) (putL h x.s).length (intL (putL h x.s)) := own_keep O7.out.1 (fun g e => g4.block g (O7.out.1.lt g e).2 (fun e2 => by have := (O7.out.1.lt g e).1; have := I3.out.size; have := Option.some.inj e2; omega))
      refine ⟨a5, c5, rfl, k4, d4, b4, ?_⟩
      have hr := RowAt.own intC_len (l := putL h x.s) (by rw [rowL_int]; exact o8)
      refine ⟨hr, fun bk off n cap h0 e => ?_⟩
      simp only [Value.slice.injEq] at e
      obtain ⟨e1, _, _⟩ := e
      have hlt := o8.lt bk (by rw [e1]; rfl)
      have hs3 := I3.out.size
      have hDlt := lt_of_block I3.out.d
      exact ⟨Or.inr ⟨by omega, hlt.2⟩, by omega⟩
  | true =>
    rw [hrd] at y2
    have yD := I0.out.cD
    have z3 := I0.out.c3 3 _ rfl
    have f3 := I0.out.f3 3
    have I2 : Hid (GvI w (W.setCell ⟨w.heap.size + 1 + 1, 3, none⟩ (.int .u64 c)) D B v x c cur ⟨x.s, x.n, 0, c, 0⟩) := I0.out.setR 3 _ rfl
    go_upto_region 8 with fail
    obtain ⟨W2, hW2⟩ : ∃ W2, W2 = W.setCell ⟨w.heap.size + 1 + 1, 3, none⟩ (.int .u64 c) := ⟨_, rfl⟩
    rw [← hW2]
    rw [← hW2] at I2
    clear hW2 yD z3 f3 y2
    have I3 : Hid (GvI w W2.drew D B v x c cur ⟨x.s, x.n, 0, c, 0⟩) := I2.out.below (Below.refl _ W2).drew
    have z1 := I3.out.cB (o + 1) _ HC.out.1
    have HS0 : Hid (W2.drew.heap[w.heap.size]? = some (.cells (wqA x) wqT (0, 0))) := I3.out.r1
    have HP : Hid (Calls Try.prog 55 #[.slice ha h.length hc, .int .i64 x.s] W2.drew fun e w' => ∃ u, e = .returned u ∧ w'.ownsRow W2.drew.heap.size 3 1 u (putL h x.s).length (intL (putL h x.s)) ∧ Below W2.drew.heap.size W2.drew w') := put_any _ _ _ _ _ _ (OwnRow.ints (HR.out.1.keep I3.out.k.size fun b hb hbD => I3.out.k.kept b (HR.out.2 b hb).1 (fun e => by
      rcases e with e | e
      · exact hbD e
      · exact (HR.out.2 b hb).2.2 e)) HO.out.1 (by have := HO.out.2.1; omega)) HO.out.2.1
    refine wp_region_held_drew (S := (fun y : World => y.heap[w.heap.size]? = some (.cells (wqA x) wqT (0, 0)))) (by kernel_rfl) ?_ (fun hHeld0 => ?_)
    · exact HS0.out
    refine tk0 (.pointer (some ⟨B, o, none⟩)) (by kernel_rfl) (by kernel_rfl) (by kernel_rfl) (fun _ _ _ h => h) rfl (fun w hSw => by (try dsimp only at hSw); have s1 := wq_s hSw; go_simp) (by assumption) ?_
    try simp only [Act.put, List.setIfInBounds_toArray, List.set_cons_zero, List.set_cons_succ]
    refine tk1 (.pointer (some ⟨B, o, none⟩)) (by kernel_rfl) (by kernel_rfl) (by kernel_rfl) (fun _ _ _ h => h) rfl (fun w hSw => by (try dsimp only at hSw); have s1 := wq_s hSw; go_simp) (by assumption) ?_
    try simp only [Act.put, List.setIfInBounds_toArray, List.set_cons_zero, List.set_cons_succ]
    refine tk2 (.pointer (some ⟨B, o, none⟩)) (by kernel_rfl) (by kernel_rfl) (by kernel_rfl) (fun _ _ _ h => h) rfl (fun w hSw => by (try dsimp only at hSw); have s1 := wq_s hSw; go_simp) (by assumption) ?_
    try simp only [Act.put, List.setIfInBounds_toArray, List.set_cons_zero, List.set_cons_succ]
    refine tk3 (.pointer (some ⟨B, o + 1, none⟩)) (by kernel_rfl) (by kernel_rfl) (by kernel_rfl) (fun _ _ _ h => h) rfl (fun w hSw => by (try dsimp only at hSw); have s1 := wq_s hSw; go_simp) (by assumption) ?_
    try simp only [Act.put, List.setIfInBounds_toArray, List.set_cons_zero, List.set_cons_succ]
    refine tk5 (.pointer (some ⟨w.heap.size, 0, none⟩)) (by kernel_rfl) (by kernel_rfl) (by kernel_rfl) (fun _ _ _ h => h) rfl (fun w hSw => by (try dsimp only at hSw); have s1 := wq_s hSw; go_simp) (by assumption) ?_
    try simp only [Act.put, List.setIfInBounds_toArray, List.set_cons_zero, List.set_cons_succ]
    refine tk6 (.int .i64 x.s) (by kernel_rfl) (by kernel_rfl) (by kernel_rfl) (fun _ _ _ h => h) rfl (fun w hSw => by (try dsimp only at hSw); have s1 := wq_s hSw; go_simp) (by assumption) ?_
    try simp only [Act.put, List.setIfInBounds_toArray, List.set_cons_zero, List.set_cons_succ]
    refine cl4 (by kernel_rfl) rfl (fun K hK => ?_)
    go_simp
    refine hK.out _ _ ?_ (fun hHeld => ?_)
    · exact HS0.out
    clear hK K
    try simp only [Act.put, List.setIfInBounds_toArray, List.set_cons_zero, List.set_cons_succ]
    refine cl7 (by kernel_rfl) rfl (fun K hK => ?_)
    go_simp
    go_at_call 55
    refine Calls.mono HP.out ?_
    rintro e w5 ⟨u5, rfl, o5, b5⟩
    obtain ⟨a5, c5, hu5⟩ := (RowAt.own intC_len (l := putL h x.s) (by rw [rowL_int]; exact o5)).form
    subst hu5
    have I5 : Hid (GvI w w5 D B v x c cur ⟨x.s, x.n, 0, c, 0⟩) := I3.out.below b5
    have O5 : Hid (w5.ownsRow W2.drew.heap.size 3 1 (.slice a5 (putL h x.s).length c5) (putL h x.s).length (intL (putL h x.s)) ∧ W2.drew.heap.size ≤ w5.heap.size) := (show Hid _ from (⟨o5, b5.size⟩ : _ ∧ _))
    have z5 := I5.out.cB (o + 1) _ HC.out.1
    have f5 := I5.out.fB (o + 1)
    clear b5 o5
    refine hK.out _ _ ?_ (fun hHeld => ?_)
    · exact I5.out.r1
    clear hK K
    try simp only [Act.put, List.setIfInBounds_toArray, List.set_cons_zero, List.set_cons_succ]
    refine tk8 (.pointer (some ⟨B, o, none⟩)) (by kernel_rfl) (by kernel_rfl) (by kernel_rfl) (fun _ _ _ h => h) rfl (fun w hSw => by (try dsimp only at hSw); have s1 := wq_s hSw; go_simp) (by assumption) ?_
    try simp only [Act.put, List.setIfInBounds_toArray, List.set_cons_zero, List.set_cons_succ]
    refine tk9 (.pointer (some ⟨B, o + 1, none⟩)) (by kernel_rfl) (by kernel_rfl) (by kernel_rfl) (fun _ _ _ h => h) rfl (fun w hSw => by (try dsimp only at hSw); have s1 := wq_s hSw; go_simp) (by assumption) ?_
    try simp only [Act.put, List.setIfInBounds_toArray, List.set_cons_zero, List.set_cons_succ]
    refine cl10 (by kernel_rfl) rfl (fun K hK => ?_)
    go_simp
    refine hK.out _ _ ?_ (fun hHeld => ?_)
    · exact (I5.out.setB (o + 1) _).r1
    clear hK K
    refine wpAnyH_done (by kernel_rfl) ?_ _
    have I6 : Hid (GvI w (w5.setCell ⟨B, o + 1, none⟩ (.slice a5 (putL h x.s).length c5)) D B v x c (cur.set (o + 1) (.slice a5 (putL h x.s).length c5)) ⟨x.s, x.n, 0, c, 0⟩) := I5.out.setB _ _
    obtain ⟨w6, hw6⟩ : ∃ w6, w6 = w5.setCell ⟨B, o + 1, none⟩ (.slice a5 (putL h x.s).length c5) := ⟨_, rfl⟩
    rw [← hw6]
    rw [← hw6] at I6
    have O6 : Hid (w6.ownsRow W2.drew.heap.size 3 1 (.slice a5 (putL h x.s).length c5) (putL h x.s).length (intL (putL h x.s)) ∧ W2.drew.heap.size ≤ w6.heap.size) := (show Hid _ from (⟨own_keep O5.out.1 (fun g e => by rw [hw6]; exact heap_setCell_other _ _ _ _ (fun e2 => by have := (O5.out.1.lt g e).1; have := lt_of_block I3.out.b; have e2 : g = B := e2; omega)), by rw [hw6]; simpa using O5.out.2⟩ : _ ∧ _))
    clear hw6 z1 z5 f5
    have y2 := I6.out.c1 2 (.bool true) (by rw [← hrd]; rfl)
    have z6 := I6.out.cB (o + 2) (.bool wr) (by rw [List.getElem?_set_ne (by omega)]; exact HC.out.2)
    have f6 := I6.out.fB (o + 2)
    have I7 : Hid (GvI w (w6.setCell ⟨B, o + 2, none⟩ (.bool false)) D B v x c ((cur.set (o + 1) (.slice a5 (putL h x.s).length c5)).set (o + 2) (.bool false)) ⟨x.s, x.n, 0, c, 0⟩) := I6.out.setB _ _
    go_upto_region 10 with fail
    obtain ⟨w7, hw7⟩ : ∃ w7, w7 = w6.setCell ⟨B, o + 2, none⟩ (.bool false) := ⟨_, rfl⟩
    rw [← hw7]
    rw [← hw7] at I7
    have O7 : Hid (w7.ownsRow W2.drew.heap.size 3 1 (.slice a5 (putL h x.s).length c5) (putL h x.s).length (intL (putL h x.s)) ∧ W2.drew.heap.size ≤ w7.heap.size) := (show Hid _ from (⟨own_keep O6.out.1 (fun g e => by rw [hw7]; exact heap_setCell_other _ _ _ _ (fun e2 => by have := (O6.out.1.lt g e).1; have := lt_of_block I3.out.b; have e2 : g = B := e2; omega)), by rw [hw7]; simpa using O6.out.2⟩ : _ ∧ _))
    clear hw7 y2 z6 f6
    go_wp2_with (first
      | (show wpList _ _ _ (⟨_, Op.store rpT _ _, _, _, _, _⟩ :: _) _ _; refine store_row_g rfl rpT _ _ rfl (w.heap.size + 1) (rpA ⟨x.s, x.n, 0, c, 0⟩) rfl rfl rpT _ I7.out.r2 sizeRp rfl (by simp [Value.oneCell']) ?_; intro w4 h4 g4)
      | (show wpList _ _ _ (⟨_, Op.load rpT _, _, _, _, _⟩ :: _) _ _; refine load_row_g rfl rpT _ rfl (w.heap.size + 1 + 1) rfl rpT (rpA ⟨x.s, x.n, 0, c, 0⟩) (0, 0) _ I7.out.r3 Try.underlying52 rfl sizeRp ?_))
    refine bodyPost_ret (results_cell_row Try.results34 _ _ (w.heap.size + 1) rpT _ (0, 0) _ rfl h4 Try.underlying52 rfl sizeRp) rfl ?_
    obtain ⟨k4, d4, b4⟩ := I7.out.fin g4
    have hqe : q = (c, putL h x.s, false, ⟨x.s, x.n, 0, c, 0⟩) := by rw [HQ.out]; unfold giveH; rw [hrd]; rfl
    rw [hqe]
    have o8 : w4.ownsRow W2.drew.heap.size 3 1 (.slice a5 (putL h x.s).length c5) (putL h x.s).length (intL (putL h x.s)) := own_keep O7.out.1 (fun g e => g4.block g (O7.out.1.lt g e).2 (fun e2 => by have := (O7.out.1.lt g e).1; have := I3.out.size; have := Option.some.inj e2; omega))
    refine ⟨a5, c5, rfl, k4, d4, b4, ?_⟩
    have hr := RowAt.own intC_len (l := putL h x.s) (by rw [rowL_int]; exact o8)
    refine ⟨hr, fun bk off n cap h0 e => ?_⟩
    simp only [Value.slice.injEq] at e
    obtain ⟨e1, _, _⟩ := e
    have hlt := o8.lt bk (by rw [e1]; rfl)
    have hs3 := I3.out.size
    have hDlt := lt_of_block I3.out.d
    exact ⟨Or.inr ⟨by omega, hlt.2⟩, by omega⟩
end Go.Proofs.Ytmfadmhbkgemmaa
/-
  While a lock is served: the lock's block, wherever it lies, its two rows, the counter. No condition.
-/
namespace Go.Proofs.Ytmfadmhbkgemmaa
open Go.RowKit

def cur4 (cur : List Value) (o : Nat) (hv : Value) (b : Bool) (qv : Value) : List Value := ((cur.set (o + 1) hv).set (o + 2) (.bool b)).set (o + 3) qv
theorem cur4_len (cur : List Value) (o : Nat) (hv : Value) (b : Bool) (qv : Value) : (cur4 cur o hv b qv).length = cur.length := by simp [cur4]
theorem cur4_1 {cur : List Value} {o : Nat} {hv qv : Value} {b : Bool} (hc : o + 3 < cur.length) : (cur4 cur o hv b qv)[o + 1]? = some hv := by
  unfold cur4
  rw [List.getElem?_set_ne (by omega), List.getElem?_set_ne (by omega), List.getElem?_set_self (by omega)]
theorem cur4_2 {cur : List Value} {o : Nat} {hv qv : Value} {b : Bool} (hc : o + 3 < cur.length) : (cur4 cur o hv b qv)[o + 2]? = some (.bool b) := by
  unfold cur4
  rw [List.getElem?_set_ne (by omega), List.getElem?_set_self (by rw [List.length_set]; omega)]
theorem cur4_3 {cur : List Value} {o : Nat} {hv qv : Value} {b : Bool} (hc : o + 3 < cur.length) : (cur4 cur o hv b qv)[o + 3]? = some qv := by
  unfold cur4
  rw [List.getElem?_set_self (by simp only [List.length_set]; omega)]
theorem cur4_give {cur : List Value} {o : Nat} {hv qv hv' : Value} {b b' : Bool} : ((cur4 cur o hv b qv).set (o + 1) hv').set (o + 2) (.bool b') = cur4 cur o hv' b' qv := by
  unfold cur4
  rw [List.set_comm _ _ (show o + 3 ≠ o + 1 by omega), List.set_comm _ _ (show o + 3 ≠ o + 2 by omega), List.set_comm _ _ (show o + 2 ≠ o + 1 by omega), List.set_set, List.set_set]
theorem cur4_tail {cur : List Value} {o : Nat} {hv qv qv' : Value} {b : Bool} : (cur4 cur o hv b qv).set (o + 3) qv' = cur4 cur o hv b qv' := by
  unfold cur4
  rw [List.set_set]
theorem cur4_self {cur : List Value} {o : Nat} {hv qv : Value} {b : Bool} (h1 : cur[o + 1]? = some hv) (h2 : cur[o + 2]? = some (.bool b)) (h3 : cur[o + 3]? = some qv) : cur4 cur o hv b qv = cur := by
  unfold cur4
  rw [cur_self h1 h2]
  apply List.ext_getElem?
  intro i
  rw [List.getElem?_set]
  by_cases e : o + 3 = i
  · subst e
    rw [if_pos rfl, if_pos (List.getElem?_eq_some_iff.1 h3).1, h3]
  · rw [if_neg e]
/-- The lock at o of B, as it stands. -/
structure LkS (w wr : World) (D B o : Nat) (v : Value) (cur : List Value) (P : Nat → Prop) (c : Int) (h : List Int) (b : Bool) (q : List Wq) (a1 : Option Addr) (c1 : Nat) (a2 : Option Addr) (c2 : Nat) : Prop where
  blk : wr.heap[B]? = some (.cells (cur4 cur o (.slice a1 h.length c1) b (.slice a2 q.length c2)).toArray lkT (0, 0))
  hr : OwnRow intC wr P D (.slice a1 h.length c1) h
  qr : OwnRow wqC wr P D (.slice a2 q.length c2) q
  k : Kept w wr (two D B) (two D B)
  d : wr.heap[D]? = some (.cells (lsA v c) lsT (0, 0))
  pb : ∀ g, P g → g < wr.heap.size ∧ g ≠ D ∧ g ≠ B
  ne : D ≠ B ∧ D < w.heap.size ∧ B < w.heap.size
  lc : o + 3 < cur.length
section
variable {w wr wr' : World} {D B o : Nat} {v : Value} {cur : List Value} {P P' : Nat → Prop} {c : Int} {h : List Int} {b : Bool} {q : List Wq} {a1 a2 : Option Addr} {c1 c2 : Nat}
theorem LkS.cell (I : LkS w wr D B o v cur P c h b q a1 c1 a2 c2) : wr.cell? ⟨B, o + 1, none⟩ = some (.slice a1 h.length c1) ∧ wr.cell? ⟨B, o + 2, none⟩ = some (.bool b) ∧ wr.cell? ⟨B, o + 3, none⟩ = some (.slice a2 q.length c2) := by
  have h1 := cur4_1 (hv := .slice a1 h.length c1) (qv := .slice a2 q.length c2) (b := b) I.lc
  have h2 := cur4_2 (hv := .slice a1 h.length c1) (qv := .slice a2 q.length c2) (b := b) I.lc
  have h3 := cur4_3 (hv := .slice a1 h.length c1) (qv := .slice a2 q.length c2) (b := b) I.lc
  exact ⟨by simp [World.cell?, I.blk, h1], by simp [World.cell?, I.blk, h2], by simp [World.cell?, I.blk, h3]⟩
theorem LkS.fz (I : LkS w wr D B o v cur P c h b q a1 c1 a2 c2) (j : Nat) : wr.frozen? ⟨B, j, none⟩ = false := by simp [World.frozen?, I.blk]
/-- All that changed lies in one block of the caller's. -/
theorem LkS.keepX (I : LkS w wr D B o v cur P c h b q a1 c1 a2 c2) (os : wr'.os = wr.os) (tp : wr'.tape = wr.tape) (ou : wr'.output = wr.output) (hs : wr.heap.size ≤ wr'.heap.size) {U : Nat → Prop} (hU : ∀ g, U g → ¬ P g ∧ g ≠ D ∧ g ≠ B ∧ w.heap.size ≤ g) (hk : ∀ g, g < wr.heap.size → ¬ U g → wr'.heap[g]? = wr.heap[g]?) : LkS w wr' D B o v cur P c h b q a1 c1 a2 c2 := by
  obtain ⟨h1, h2, h3⟩ := I.ne
  have hDs := lt_of_block I.d
  have hBs := lt_of_block I.blk
  have hp : ∀ g, P g → g ≠ D → wr'.heap[g]? = wr.heap[g]? := fun g hg _ => hk g (I.pb g hg).1 (fun hu => (hU g hu).1 hg)
  refine ⟨(hk B hBs (fun hu => (hU B hu).2.2.1 rfl)).trans I.blk, I.hr.keep hs hp, I.qr.keep hs hp, ⟨os.trans I.k.os, tp.trans I.k.tape, ou.trans I.k.output, Nat.le_trans I.k.size hs, fun g hg => Or.inl hg, fun g hg hn => ?_⟩, (hk D hDs (fun hu => (hU D hu).2.1 rfl)).trans I.d, fun g hg => ⟨Nat.lt_of_lt_of_le (I.pb g hg).1 hs, (I.pb g hg).2⟩, I.ne, I.lc⟩
  exact (hk g (Nat.lt_of_lt_of_le hg I.k.size) (fun hu => by have := (hU g hu).2.2.2; omega)).trans (I.k.kept g hg hn)
theorem LkS.below (I : LkS w wr D B o v cur P c h b q a1 c1 a2 c2) (bl : Below wr.heap.size wr wr') : LkS w wr' D B o v cur P c h b q a1 c1 a2 c2 :=
  I.keepX bl.os bl.tape bl.output bl.size (U := fun _ => False) (fun _ hu => hu.elim) (fun g hg _ => bl.block g hg)
theorem LkS.app (I : LkS w wr D B o v cur P c h b q a1 c1 a2 c2) {u u' : Value} (a : Appended w.heap.size wr wr' u u') (hu : ∀ g, u.ownBlock = some g → ¬ P g ∧ g ≠ D ∧ g ≠ B ∧ w.heap.size ≤ g) : LkS w wr' D B o v cur P c h b q a1 c1 a2 c2 :=
  I.keepX a.below.os a.below.tape a.below.output a.below.size (U := fun g => u.ownBlock = some g) hu (fun g hg hn => a.rest g hg (fun e => hn e.symm))
theorem LkS.grow (I : LkS w wr D B o v cur P c h b q a1 c1 a2 c2) (hp : ∀ g, P g → P' g) (pb : ∀ g, P' g → g < wr.heap.size ∧ g ≠ D ∧ g ≠ B) : LkS w wr D B o v cur P' c h b q a1 c1 a2 c2 :=
  ⟨I.blk, I.hr.grow hp, I.qr.grow hp, I.k, I.d, pb, I.ne, I.lc⟩
structure LkG (w : World) (D B o : Nat) (v : Value) (cur : List Value) (P : Nat → Prop) (q : List Wq) (a2 : Option Addr) (c2 : Nat) (wr : World) (g : Int × List Int × Bool × SeR) (e : Ending) (w' : World) : Prop where
  ex : ∃ a1 c1, e = .returned (.agg (rpA g.2.2.2)) ∧ LkS w w' D B o v cur (fun b => P b ∨ wr.heap.size ≤ b ∧ b < w'.heap.size) g.1 g.2.1 g.2.2.1 q a1 c1 a2 c2
  size : wr.heap.size ≤ w'.heap.size
  kept : ∀ g, g < wr.heap.size → g ≠ D → g ≠ B → w'.heap[g]? = wr.heap[g]?
theorem LkS.give (I : LkS w wr D B o v cur P c h b q a1 c1 a2 c2) (x : Wq) (hh : ∀ a ∈ h, okI a) (hl : h.length < 65536) (hs : okI x.s) (hc0 : 0 ≤ c) (hc1 : c ≤ 18446744073709551615) :
    Calls Try.prog 34 #[.pointer (some ⟨D, 0, none⟩), .pointer (some ⟨B, o, none⟩), .agg (wqA x)] wr (LkG w D B o v cur P q a2 c2 wr (giveH c h b x)) := by
  refine (logive_any x I.d I.blk I.ne.1 (cur4_1 I.lc) (cur4_2 I.lc) I.hr I.pb hh hl hs hc0 hc1).mono ?_
  rintro e w' ⟨a, cc, he, hk, hd, hb, hr⟩
  have hne := I.ne
  have hDB : ∀ g, g < wr.heap.size → g ≠ D → g ≠ B → w'.heap[g]? = wr.heap[g]? := fun g hg h1 h2 => hk.kept g hg (fun e => by
    rcases e with e | e
    · exact h1 e
    · exact h2 e)
  refine ⟨⟨a, cc, he, ?_, hr, ?_, ⟨hk.os.trans I.k.os, hk.tape.trans I.k.tape, hk.output.trans I.k.output, Nat.le_trans I.k.size hk.size, fun g hg => Or.inl hg, fun g hg hn => ?_⟩, hd, fun g hg => ?_, I.ne, I.lc⟩, hk.size, hDB⟩
  · rw [hb, cur4_give]
  · exact (I.qr.keep hk.size fun g hg hgD => hDB g (I.pb g hg).1 hgD (I.pb g hg).2.2).grow fun g hg => Or.inl hg
  · exact (hk.kept g (Nat.lt_of_lt_of_le hg I.k.size) hn).trans (I.k.kept g hg hn)
  · have := lt_of_block I.d
    have := lt_of_block I.blk
    rcases hg with hg | hg
    · exact ⟨Nat.lt_of_lt_of_le (I.pb g hg).1 hk.size, (I.pb g hg).2⟩
    · exact ⟨hg.2, by omega, by omega⟩
/-- The queue from another place on. -/
theorem LkS.setQ (I : LkS w wr D B o v cur P c h b q a1 c1 a2 c2) {q' : List Wq} {a3 : Option Addr} {c3 : Nat} (hr : OwnRow wqC wr P D (.slice a3 q'.length c3) q') : LkS w (wr.setCell ⟨B, o + 3, none⟩ (.slice a3 q'.length c3)) D B o v cur P c h b q' a1 c1 a3 c3 := by
  have hk : ∀ g, g ≠ B → (wr.setCell ⟨B, o + 3, none⟩ (.slice a3 q'.length c3)).heap[g]? = wr.heap[g]? := fun g hg => heap_setCell_other _ _ _ _ hg
  have hs : wr.heap.size ≤ (wr.setCell ⟨B, o + 3, none⟩ (.slice a3 q'.length c3)).heap.size := by simp
  refine ⟨?_, I.hr.keep hs fun g hg _ => hk g (I.pb g hg).2.2, hr.keep hs fun g hg _ => hk g (I.pb g hg).2.2, kept_set I.k (Or.inr (Or.inl rfl)), (hk D I.ne.1).trans I.d, fun g hg => ⟨Nat.lt_of_lt_of_le (I.pb g hg).1 hs, (I.pb g hg).2⟩, I.ne, I.lc⟩
  rw [heap_setCell_same _ B _ _ _ _ I.blk]
  simp [cur4_tail]
end
end Go.Proofs.Ytmfadmhbkgemmaa
/-
  The document's locks: a lock's queue served from its front on, wherever the lock lies. The conditions: lists are short, numbers are ints.
-/
namespace Go.Proofs.Ytmfadmhbkgemmaa
open Go.RowKit

theorem infoRp : (Try.prog.info? rpT).map (fun i => (i.zero, i.size, i.bytes)) = some (some (.agg #[.int .i64 0, .int .i64 0, .int .i64 0, .int .u64 0, .int .i64 0]), 5, 40) := by kernel_rfl
theorem infoWq : (Try.prog.info? wqT).map (fun i => (i.zero, i.size, i.bytes)) = some (some (.agg #[.int .i64 0, .int .i64 0, .bool false]), 3, 24) := by kernel_rfl
def joinS (rs : List SeR) (t : Int × List Int × Bool × List Wq × List SeR) : Int × List Int × Bool × List Wq × List SeR := (t.1, t.2.1, t.2.2.1, t.2.2.2.1, rs ++ t.2.2.2.2)
theorem srv_go {x : Wq} {q : List Wq} {c : Int} {h : List Int} {b : Bool} (hf : fitH h b x.rd = true) (rs : List SeR) : joinS rs (srvH (x :: q) c h b) = joinS (rs ++ [(giveH c h b x).2.2.2]) (srvH q (giveH c h b x).1 (giveH c h b x).2.1 (giveH c h b x).2.2.1) := by
  simp only [srvH, if_pos hf, joinS, List.append_assoc, List.singleton_append]
theorem srv_no {x : Wq} {q : List Wq} {c : Int} {h : List Int} {b : Bool} (hf : fitH h b x.rd = false) (rs : List SeR) : joinS rs (srvH (x :: q) c h b) = (c, h, b, x :: q, rs) := by
  simp only [srvH, hf, joinS, Bool.false_eq_true, if_false, List.append_nil]
theorem srv_nil (c : Int) (h : List Int) (b : Bool) (rs : List SeR) : joinS rs (srvH [] c h b) = (c, h, b, [], rs) := by simp [srvH, joinS]
theorem give_ok {c : Int} {h : List Int} {b : Bool} {x : Wq} (h1 : 0 ≤ c) (h2 : c ≤ 18446744073709551615) : 0 ≤ (giveH c h b x).1 ∧ (giveH c h b x).1 ≤ 18446744073709551615 := by
  unfold giveH
  split
  · exact ⟨h1, h2⟩
  · split
    · exact ⟨h1, h2⟩
    · exact ⟨by show 0 ≤ c + 1; omega, by show c + 1 ≤ _; omega⟩
theorem give_len {c : Int} {h : List Int} {b : Bool} {x : Wq} : (giveH c h b x).2.1.length ≤ h.length + 1 := by
  unfold giveH
  split
  · exact Nat.le_of_eq (putL_length _ _)
  · split
    · exact Nat.le_succ _
    · exact Nat.le_of_eq (putL_length _ _)
theorem give_mem {c : Int} {h : List Int} {b : Bool} {x : Wq} (hh : ∀ a ∈ h, okI a) (hs : okI x.s) : ∀ a ∈ (giveH c h b x).2.1, okI a := by
  have hp : ∀ a ∈ putL h x.s, okI a := fun a ha => by
    rcases putL_mem ha with e | e
    · rw [e]; exact hs
    · exact hh a e
  unfold giveH
  split
  · exact hp
  · split
    · exact hh
    · exact hp
structure SrvP (w : World) (D B o : Nat) (v : Value) (cur : List Value) (P : Nat → Prop) (s : Int × List Int × Bool × List Wq × List SeR) (e : Ending) (w' : World) : Prop where
  ex : ∃ u a1 c1 a2 c2, e = .returned u ∧ w'.ownsRow w.heap.size rpT 5 u s.2.2.2.2.length (rowL rpC s.2.2.2.2) ∧ LkS w w' D B o v cur (fun g => (P g ∨ w.heap.size ≤ g ∧ g < w'.heap.size) ∧ u.ownBlock ≠ some g) s.1 s.2.1 s.2.2.1 s.2.2.2.1 a1 c1 a2 c2
/-- Within the loop. -/
structure SvI (w wr : World) (D B o : Nat) (v : Value) (cur : List Value) (P : Nat → Prop) (s : Int × List Int × Bool × List Wq × List SeR) (m : Nat) (u : Value) (rs : List SeR) (c : Int) (h : List Int) (b : Bool) (q : List Wq) (a1 : Option Addr) (c1 : Nat) (a2 : Option Addr) (c2 : Nat) : Prop where
  out : wr.ownsRow w.heap.size rpT 5 u rs.length (rowL rpC rs)
  lk : LkS w wr D B o v cur (fun g => (P g ∨ w.heap.size ≤ g ∧ g < wr.heap.size) ∧ u.ownBlock ≠ some g) c h b q a1 c1 a2 c2
  eq : s = joinS rs (srvH q c h b)
  hh : ∀ a ∈ h, okI a
  qq : ∀ a ∈ q, okI a.s
  hq : h.length + q.length ≤ m
  rq : rs.length + q.length ≤ m
  c0 : 0 ≤ c
  c1' : c ≤ 18446744073709551615
set_option maxHeartbeats 25600000 in
set_option maxRecDepth 100000 in
theorem loserve_any {w : World} {D B o : Nat} {v : Value} {cur : List Value} {P : Nat → Prop} {c : Int} {h : List Int} {b : Bool} {q : List Wq} {a1 a2 : Option Addr} {c1 c2 : Nat} (I : LkS w w D B o v cur P c h b q a1 c1 a2 c2) (hh : ∀ a ∈ h, okI a) (qq : ∀ a ∈ q, okI a.s) {m : Nat} (hq : h.length + q.length ≤ m) (hm : m < 65536) (hc0 : 0 ≤ c) (hc1 : c ≤ 18446744073709551615) :
    Calls Try.prog 41 #[.pointer (some ⟨D, 0, none⟩), .pointer (some ⟨B, o, none⟩)] w (SrvP w D B o v cur P (srvH q c h b)) := by
  have HP : Hid (∀ g, P g → g < w.heap.size ∧ g ≠ D ∧ g ≠ B) := I.pb
  obtain ⟨s, hs⟩ : ∃ s, s = srvH q c h b := ⟨_, rfl⟩
  have J0 : Hid (SvI w w D B o v cur P s m (.slice none 0 0) [] c h b q a1 c1 a2 c2) := (show Hid _ from (⟨World.ownsRow_nil _ _ _ _, I.grow (fun g hg => ⟨Or.inl hg, fun e => by cases e⟩) (fun g hg => by
    rcases hg.1 with h1 | h1
    · exact I.pb g h1
    · omega), hs, hh, qq, hq, by simp only [List.length_nil]; omega, hc0, hc1⟩ : SvI w w D B o v cur P s m (.slice none 0 0) [] c h b q a1 c1 a2 c2))
  rw [← hs]
  clear hs I hh qq hq hc0 hc1
  obtain ⟨i0, hi, hz0, hz1, hz2⟩ := info_parts infoRp
  obtain ⟨i1, hi1, hy0, hy1, hy2⟩ := info_parts infoWq
  go_enter Try.func41, Try.ntmps41
  go_upto_block 0 with fail
  go_wp2_with fail
  go_loopg [5] q.length (fun gh ou wr => ∃ (rs : List SeR) (c : Int) (h : List Int) (b : Bool) (q : List Wq) (a1 : Option Addr) (c1 : Nat) (a2 : Option Addr) (c2 : Nat) (pa : Option Addr) (pc : Nat), gh = q.length ∧ ou = .slice pa rs.length pc ∧ Hid (SvI w wr D B o v cur P s m (.slice pa rs.length pc) rs c h b q a1 c1 a2 c2))
  case atStart => exact ⟨[], c, h, b, q, a1, c1, a2, c2, none, 0, rfl, rfl, J0⟩
  case round =>
    clear J0
    clear a1 c1 a2 c2 c h b
    obtain ⟨rs, c, h, b, q2, a1, c1, a2, c2, pa, pc, rfl, rfl, J⟩ := hrel
    obtain ⟨z1, z2, z3⟩ := J.out.lk.cell
    cases q2 with
    | nil =>
      have hse : s = (c, h, b, [], rs) := by rw [J.out.eq, srv_nil]
      have HSE : Hid (s = (c, h, b, [], rs)) := hse
      clear hse
      rw [show (([] : List Wq).length) = 0 from rfl] at z3
      go_wp2_with fail
      go_ret
      rw [HSE.out]
      exact ⟨_, a1, c1, a2, c2, rfl, J.out.out, J.out.lk⟩
    | cons x q2 =>
      have t0 : decide ((0 : Int) < ((q2.length + 1 : Nat) : Int)) = true := decide_eq_true (by omega)
      have t0' : decide (0 < q2.length + 1) = true := decide_eq_true (by omega)
      obtain ⟨bk, off, cp, e0, hcp, hbk, hc⟩ := J.out.lk.qr.at'.cells wqC_len (by simp)
      simp only [Value.slice.injEq] at e0
      obtain ⟨rfl, _, rfl⟩ := e0
      have y0 : wr.cell? ⟨bk, off, none⟩ = some (.int .i64 x.s) := by simpa using hc 0 (by simp) 0 (.int .i64 x.s) (by decide) rfl
      have y1 : wr.cell? ⟨bk, off + 1, none⟩ = some (.int .i64 x.n) := by simpa using hc 0 (by simp) 1 (.int .i64 x.n) (by decide) rfl
      have y2 : wr.cell? ⟨bk, off + 2, none⟩ = some (.bool x.rd) := by simpa using hc 0 (by simp) 2 (.bool x.rd) (by decide) rfl
      rw [List.length_cons] at z3
      clear hc hcp hbk
      cases h with
      | nil =>
        rw [show (([] : List Int).length) = 0 from rfl] at z1
        have HF : Hid (fitH [] b x.rd = true) := (show fitH [] b x.rd = true from (by unfold fitH; simp))
        go_upto_region 4 with fail
        obtain ⟨w1, hw1⟩ : ∃ w1, w1 = wr.alloc (.cells #[.int .i64 x.s, .int .i64 x.n, .bool x.rd] wqT) := ⟨_, rfl⟩
        have b1 : Below wr.heap.size wr w1 := by rw [hw1]; exact (Below.refl _ wr).alloc (Nat.le_refl _) _
        have v1 : w1.heap[wr.heap.size]? = some (.cells (wqA x) wqT (0, 0)) := by rw [hw1]; exact heap_alloc_new wr _
        have s1 : wr.heap.size < w1.heap.size := lt_of_block v1
        have K1 : Hid _ := J.out.lk.below b1
        obtain ⟨u3, hsl, hu3⟩ := K1.out.qr.from 61 wqT i1 Try.underlying61 (by kernel_rfl) hi1 hy1 wqC_len 1 (by simp)
        have hu3' := hu3
        rw [show (x :: q2).drop 1 = q2 from rfl] at hu3'
        obtain ⟨a3, c3, hu4⟩ := hu3'.at'.form
        subst hu4
        have hsl' : ∀ w', (Instr.sliceAt 61 (.slice (some ⟨bk, off, none⟩) (q2.length + 1) c2) (some (.int .i64 1)) none none).run Try.prog w' = .ok (.slice a3 q2.length c3) w' := hsl
        have K2 : Hid _ := K1.out.setQ hu3'
        obtain ⟨_, _, y3⟩ := K1.out.cell
        have f3 := K1.out.fz (o + 3)
        rw [List.length_cons] at y3
        rw [show wr.alloc (.cells #[.int .i64 x.s, .int .i64 x.n, .bool x.rd] wqT) = w1 from hw1.symm]
        have B1 : Hid _ := b1
        clear hsl hu3 hu3' hw1 b1 z1 z2 z3 y0 y1 y2 K1
        go_upto_region 5 with fail
        obtain ⟨w2, hw2⟩ : ∃ w2, w2 = w1.setCell ⟨B, o + 3, none⟩ (.slice a3 q2.length c3) := ⟨_, rfl⟩
        rw [← hw2]
        rw [← hw2] at K2
        have hBlt : B < wr.heap.size := lt_of_block J.out.lk.blk
        have v2 : w2.heap[wr.heap.size]? = some (.cells (wqA x) wqT (0, 0)) := by rw [hw2]; exact (heap_setCell_other _ _ _ _ (fun e => by have e : wr.heap.size = B := e; omega)).trans v1
        have HU2 : Hid (∀ g, g < wr.heap.size → g ≠ B → w2.heap[g]? = wr.heap[g]?) := fun g hg hgB => by rw [hw2]; exact (heap_setCell_other _ _ _ _ hgB).trans (B1.out.block g hg)
        have HS2 : Hid (wr.heap.size < w2.heap.size) := lt_of_block v2
        clear hw2 y3 f3 hsl' v1 s1 B1 hBlt
        have y0 : w2.cell? ⟨wr.heap.size, 0, none⟩ = some (.int .i64 x.s) := by simp [World.cell?, v2]
        have y1 : w2.cell? ⟨wr.heap.size, 1, none⟩ = some (.int .i64 x.n) := by simp [World.cell?, v2]
        have y2 : w2.cell? ⟨wr.heap.size, 2, none⟩ = some (.bool x.rd) := by simp [World.cell?, v2]
        have HG : Hid (Calls Try.prog 34 #[.pointer (some ⟨D, 0, none⟩), .pointer (some ⟨B, o, none⟩), .agg (wqA x)] w2 (LkG w D B o v cur _ q2 a3 c3 w2 (giveH c [] b x))) := K2.out.give x J.out.hh (by have := J.out.hq; simp only [List.length_cons] at this; (try simp only [List.length_cons]); omega) (J.out.qq x List.mem_cons_self) J.out.c0 J.out.c1'
        obtain ⟨g, hg⟩ : ∃ g, g = giveH c [] b x := ⟨_, rfl⟩
        have HGE : Hid (g = giveH c [] b x) := hg
        rw [← hg] at HG
        clear hg v2
        go_upto_region 6 with (go_at_call 34; refine Calls.mono HG.out ?_; rintro e w3 ⟨⟨a4, c4, rfl, k3⟩, s3, d3⟩; have K3 : Hid _ := k3; have D3 : Hid (w2.heap.size ≤ w3.heap.size ∧ ∀ g, g < w2.heap.size → g ≠ D → g ≠ B → w3.heap[g]? = w2.heap[g]?) := (show Hid _ from (⟨s3, d3⟩ : _ ∧ _)); clear k3 s3 d3)
        obtain ⟨r, hr⟩ : ∃ r, r = g.2.2.2 := ⟨_, rfl⟩
        have HRE : Hid (r = g.2.2.2) := hr
        rw [← hr]
        clear hr
        obtain ⟨w4, hw4⟩ : ∃ w4, w4 = w3.alloc (.cells (rpA r) rpT) := ⟨_, rfl⟩
        have b4 : Below w3.heap.size w3 w4 := by rw [hw4]; exact (Below.refl _ w3).alloc (Nat.le_refl _) _
        have r4 : w4.heap[w3.heap.size]? = some (.cells (rpA r) rpT (0, 0)) := by rw [hw4]; exact heap_alloc_new w3 _
        rw [show w3.alloc (.cells (rpA r) rpT) = w4 from hw4.symm]
        obtain ⟨w5, hw5⟩ : ∃ w5, w5 = w4.alloc (.cells (rpA r) rpT) := ⟨_, rfl⟩
        have b5 : Below w4.heap.size w4 w5 := by rw [hw5]; exact (Below.refl _ w4).alloc (Nat.le_refl _) _
        have R5 : Hid (RowAt rpC w5 (.slice (some ⟨w4.heap.size, 0, none⟩) 1 1) [r]) := by rw [hw5]; exact RowAt.built (heap_alloc_new w4 _) rfl 1 rfl rfl
        have K5 : Hid _ := (K3.out.below b4).below b5
        have O5 : Hid (w5.ownsRow w.heap.size rpT 5 (.slice pa rs.length pc) rs.length (rowL rpC rs)) := own_keep J.out.out (fun gg e => by
          have hlt := J.out.out.lt gg e
          have hn := J.out.lk.ne
          have h2 := HS2.out
          have h3 := D3.out.1
          have h4 := b4.size
          exact (b5.block gg (by omega)).trans ((b4.block gg (by omega)).trans ((D3.out.2 gg (by omega) (by omega) (by omega)).trans (HU2.out gg hlt.2 (by omega)))))
        have HZ : Hid (wr.heap.size < w2.heap.size ∧ w2.heap.size ≤ w3.heap.size ∧ w3.heap.size ≤ w5.heap.size) := (show Hid _ from (⟨HS2.out, D3.out.1, Nat.le_trans b4.size b5.size⟩ : _ ∧ _ ∧ _))
        have c0 : w4.cell? ⟨w3.heap.size, 0, none⟩ = some (.int .i64 r.session) := by simp [World.cell?, r4]
        have c1' : w4.cell? ⟨w3.heap.size, 1, none⟩ = some (.int .i64 r.seq) := by simp [World.cell?, r4]
        have c2' : w4.cell? ⟨w3.heap.size, 2, none⟩ = some (.int .i64 r.err) := by simp [World.cell?, r4]
        have c3' : w4.cell? ⟨w3.heap.size, 3, none⟩ = some (.int .u64 r.token) := by simp [World.cell?, r4]
        have c4' : w4.cell? ⟨w3.heap.size, 4, none⟩ = some (.int .i64 r.n) := by simp [World.cell?, r4]
        have HW5 : Hid (w4.alloc (.cells #[.int .i64 r.session, .int .i64 r.seq, .int .i64 r.err, .int .u64 r.token, .int .i64 r.n] rpT) = w5) := hw5.symm
        have HLR : Hid (rs.length + (q2.length + 1) ≤ m) := (show rs.length + (q2.length + 1) ≤ m from by have := J.out.rq; simpa using this)
        clear hw4 hw5 b4 b5 r4 y0 y1 y2 HG
        go_wp2_with (at_builtin; rw [HW5.out]; refine wpList_app_row (k := 5) (enc := rpC) (l := [r]) rfl (.tmp 56) (.tmp 58) 36 rpT rfl i0 _ 40 Try.underlying36 hi hz0 hz1 hz2 rfl (by decide) rpC_len rpC_one (base := w.heap.size) rfl rfl O5.out R5.out (Nat.le_trans J.out.lk.k.size (by have := HZ.out; omega)) (by have := HLR.out; simp only [List.length_singleton]; omega) (by have := HLR.out; simp only [List.length_singleton]; omega) ?_; intro u6 w6 o6 a6; have o6' : w6.ownsRow w.heap.size rpT 5 u6 (rs ++ [r]).length (rowL rpC (rs ++ [r])) := (by rw [List.length_append, rowL_append]; exact o6); obtain ⟨p6, n6, f6⟩ := (RowAt.own rpC_len o6').form; subst f6; have O6 : Hid (w6.ownsRow w.heap.size rpT 5 (.slice p6 (rs ++ [r]).length n6) (rs ++ [r]).length (rowL rpC (rs ++ [r]))) := o6'; have A6 : Hid (Appended w.heap.size w5 w6 (.slice pa rs.length pc) (.slice p6 (rs ++ [r]).length n6)) := a6; clear o6 o6' a6)
        go_roundg q2.length
        case measure => simp
        case rel =>
          have hz := HZ.out
          have hks := J.out.lk.k.size
          have hne := J.out.lk.ne
          have k6 := K5.out.app A6.out (fun gg e => ⟨fun hp => by
            rcases hp with hp | hp
            · exact hp.2 e
            · have := (J.out.out.lt gg e).2
              omega, by have := (J.out.out.lt gg e).1; omega, by have := (J.out.out.lt gg e).1; omega, (J.out.out.lt gg e).1⟩)
          refine ⟨rs ++ [r], g.1, g.2.1, g.2.2.1, q2, a4, c4, a3, c3, p6, n6, rfl, by rw [List.length_append]; rfl, O6.out, k6.grow (fun gg hp => ?_) (fun gg hp => ?_), ?_, ?_, fun a ha => J.out.qq a (List.mem_cons_of_mem _ ha), ?_, ?_, ?_, ?_⟩
          · have hs6 := A6.out.below.size
            rcases hp with ⟨hp1, hp2⟩ | hp
            · refine ⟨?_, fun e => ?_⟩
              · rcases hp1 with hp1 | hp1
                · exact Or.inl hp1
                · exact Or.inr ⟨hp1.1, by omega⟩
              · rcases A6.out.lies with e2 | e2
                · rw [e2] at e; exact hp2 e
                · rw [e2] at e
                  have := Option.some.inj e
                  rcases hp1 with hp1 | hp1
                  · have := (HP.out gg hp1).1
                    omega
                  · omega
            · refine ⟨Or.inr ⟨by omega, by omega⟩, fun e => ?_⟩
              rcases A6.out.lies with e2 | e2
              · rw [e2] at e
                have := (J.out.out.lt gg e).2
                omega
              · rw [e2] at e
                have := Option.some.inj e
                omega
          · rcases hp.1 with hp1 | hp1
            · have h1 := HP.out gg hp1
              have hs6 := A6.out.below.size
              exact ⟨by omega, h1.2⟩
            · omega
          · rw [J.out.eq, srv_go HF.out, HRE.out, HGE.out]
          · rw [HGE.out]; exact give_mem J.out.hh (J.out.qq x List.mem_cons_self)
          · have h1 := give_len (c := c) (h := []) (b := b) (x := x)
            rw [← HGE.out] at h1
            have := J.out.hq
            simp only [List.length_cons] at this h1 ⊢
            try simp only [List.length_nil] at this h1
            omega
          · have := HLR.out
            simp only [List.length_append, List.length_singleton]
            omega
          · rw [HGE.out]; exact (give_ok J.out.c0 J.out.c1').1
          · rw [HGE.out]; exact (give_ok J.out.c0 J.out.c1').2
      | cons y h =>
        rw [List.length_cons] at z1
        have e1 : (((h.length + 1 : Nat) : Int) == 0) = false := by simp; omega
        cases hrd : x.rd with
        | false =>
          rw [hrd] at y2
          have HSE : Hid (s = (c, y :: h, b, x :: q2, rs)) := (by rw [J.out.eq]; exact srv_no (by unfold fitH; rw [hrd]; simp) rs)
          go_wp2_with fail
          go_ret
          rw [HSE.out]
          exact ⟨_, a1, c1, _, c2, rfl, J.out.out, J.out.lk⟩
        | true =>
          cases b with
          | true =>
            rw [hrd] at y2
            have HSE : Hid (s = (c, y :: h, true, x :: q2, rs)) := (by rw [J.out.eq]; exact srv_no (by unfold fitH; rw [hrd]; simp) rs)
            go_wp2_with fail
            go_ret
            rw [HSE.out]
            exact ⟨_, a1, c1, _, c2, rfl, J.out.out, J.out.lk⟩
          | false =>
            rw [hrd] at y2
            have HRD : Hid (x.rd = true) := hrd
            clear hrd
            have HF : Hid (fitH (y :: h) false x.rd = true) := (show fitH (y :: h) false x.rd = true from (by unfold fitH; rw [HRD.out]; simp))
            go_upto_region 4 with fail
            obtain ⟨w1, hw1⟩ : ∃ w1, w1 = wr.alloc (.cells #[.int .i64 x.s, .int .i64 x.n, .bool true] wqT) := ⟨_, rfl⟩
            have b1 : Below wr.heap.size wr w1 := by rw [hw1]; exact (Below.refl _ wr).alloc (Nat.le_refl _) _
            have v1 : w1.heap[wr.heap.size]? = some (.cells (wqA x) wqT (0, 0)) := by rw [hw1]; show _ = some (Obj.cells #[.int .i64 x.s, .int .i64 x.n, .bool x.rd] wqT (0, 0)); rw [HRD.out]; exact heap_alloc_new wr _
            have s1 : wr.heap.size < w1.heap.size := lt_of_block v1
            have K1 : Hid _ := J.out.lk.below b1
            obtain ⟨u3, hsl, hu3⟩ := K1.out.qr.from 61 wqT i1 Try.underlying61 (by kernel_rfl) hi1 hy1 wqC_len 1 (by simp)
            have hu3' := hu3
            rw [show (x :: q2).drop 1 = q2 from rfl] at hu3'
            obtain ⟨a3, c3, hu4⟩ := hu3'.at'.form
            subst hu4
            have hsl' : ∀ w', (Instr.sliceAt 61 (.slice (some ⟨bk, off, none⟩) (q2.length + 1) c2) (some (.int .i64 1)) none none).run Try.prog w' = .ok (.slice a3 q2.length c3) w' := hsl
            have K2 : Hid _ := K1.out.setQ hu3'
            obtain ⟨_, _, y3⟩ := K1.out.cell
            have f3 := K1.out.fz (o + 3)
            rw [List.length_cons] at y3
            rw [show wr.alloc (.cells #[.int .i64 x.s, .int .i64 x.n, .bool true] wqT) = w1 from hw1.symm]
            have B1 : Hid _ := b1
            clear hsl hu3 hu3' hw1 b1 z1 z2 z3 y0 y1 y2 K1
            go_upto_region 5 with fail
            obtain ⟨w2, hw2⟩ : ∃ w2, w2 = w1.setCell ⟨B, o + 3, none⟩ (.slice a3 q2.length c3) := ⟨_, rfl⟩
            rw [← hw2]
            rw [← hw2] at K2
            have hBlt : B < wr.heap.size := lt_of_block J.out.lk.blk
            have v2 : w2.heap[wr.heap.size]? = some (.cells (wqA x) wqT (0, 0)) := by rw [hw2]; exact (heap_setCell_other _ _ _ _ (fun e => by have e : wr.heap.size = B := e; omega)).trans v1
            have HU2 : Hid (∀ g, g < wr.heap.size → g ≠ B → w2.heap[g]? = wr.heap[g]?) := fun g hg hgB => by rw [hw2]; exact (heap_setCell_other _ _ _ _ hgB).trans (B1.out.block g hg)
            have HS2 : Hid (wr.heap.size < w2.heap.size) := lt_of_block v2
            clear hw2 y3 f3 hsl' v1 s1 B1 hBlt
            have y0 : w2.cell? ⟨wr.heap.size, 0, none⟩ = some (.int .i64 x.s) := by simp [World.cell?, v2]
            have y1 : w2.cell? ⟨wr.heap.size, 1, none⟩ = some (.int .i64 x.n) := by simp [World.cell?, v2]
            have y2 : w2.cell? ⟨wr.heap.size, 2, none⟩ = some (.bool x.rd) := by simp [World.cell?, v2]
            have HG : Hid (Calls Try.prog 34 #[.pointer (some ⟨D, 0, none⟩), .pointer (some ⟨B, o, none⟩), .agg (wqA x)] w2 (LkG w D B o v cur _ q2 a3 c3 w2 (giveH c (y :: h) false x))) := K2.out.give x J.out.hh (by have := J.out.hq; simp only [List.length_cons] at this; (try simp only [List.length_cons]); omega) (J.out.qq x List.mem_cons_self) J.out.c0 J.out.c1'
            obtain ⟨g, hg⟩ : ∃ g, g = giveH c (y :: h) false x := ⟨_, rfl⟩
            have HGE : Hid (g = giveH c (y :: h) false x) := hg
            rw [← hg] at HG
            clear hg v2
            go_upto_region 6 with (go_at_call 34; refine Calls.mono HG.out ?_; rintro e w3 ⟨⟨a4, c4, rfl, k3⟩, s3, d3⟩; have K3 : Hid _ := k3; have D3 : Hid (w2.heap.size ≤ w3.heap.size ∧ ∀ g, g < w2.heap.size → g ≠ D → g ≠ B → w3.heap[g]? = w2.heap[g]?) := (show Hid _ from (⟨s3, d3⟩ : _ ∧ _)); clear k3 s3 d3)
            obtain ⟨r, hr⟩ : ∃ r, r = g.2.2.2 := ⟨_, rfl⟩
            have HRE : Hid (r = g.2.2.2) := hr
            rw [← hr]
            clear hr
            obtain ⟨w4, hw4⟩ : ∃ w4, w4 = w3.alloc (.cells (rpA r) rpT) := ⟨_, rfl⟩
            have b4 : Below w3.heap.size w3 w4 := by rw [hw4]; exact (Below.refl _ w3).alloc (Nat.le_refl _) _
            have r4 : w4.heap[w3.heap.size]? = some (.cells (rpA r) rpT (0, 0)) := by rw [hw4]; exact heap_alloc_new w3 _
            rw [show w3.alloc (.cells (rpA r) rpT) = w4 from hw4.symm]
            obtain ⟨w5, hw5⟩ : ∃ w5, w5 = w4.alloc (.cells (rpA r) rpT) := ⟨_, rfl⟩
            have b5 : Below w4.heap.size w4 w5 := by rw [hw5]; exact (Below.refl _ w4).alloc (Nat.le_refl _) _
            have R5 : Hid (RowAt rpC w5 (.slice (some ⟨w4.heap.size, 0, none⟩) 1 1) [r]) := by rw [hw5]; exact RowAt.built (heap_alloc_new w4 _) rfl 1 rfl rfl
            have K5 : Hid _ := (K3.out.below b4).below b5
            have O5 : Hid (w5.ownsRow w.heap.size rpT 5 (.slice pa rs.length pc) rs.length (rowL rpC rs)) := own_keep J.out.out (fun gg e => by
              have hlt := J.out.out.lt gg e
              have hn := J.out.lk.ne
              have h2 := HS2.out
              have h3 := D3.out.1
              have h4 := b4.size
              exact (b5.block gg (by omega)).trans ((b4.block gg (by omega)).trans ((D3.out.2 gg (by omega) (by omega) (by omega)).trans (HU2.out gg hlt.2 (by omega)))))
            have HZ : Hid (wr.heap.size < w2.heap.size ∧ w2.heap.size ≤ w3.heap.size ∧ w3.heap.size ≤ w5.heap.size) := (show Hid _ from (⟨HS2.out, D3.out.1, Nat.le_trans b4.size b5.size⟩ : _ ∧ _ ∧ _))
            have c0 : w4.cell? ⟨w3.heap.size, 0, none⟩ = some (.int .i64 r.session) := by simp [World.cell?, r4]
            have c1' : w4.cell? ⟨w3.heap.size, 1, none⟩ = some (.int .i64 r.seq) := by simp [World.cell?, r4]
            have c2' : w4.cell? ⟨w3.heap.size, 2, none⟩ = some (.int .i64 r.err) := by simp [World.cell?, r4]
            have c3' : w4.cell? ⟨w3.heap.size, 3, none⟩ = some (.int .u64 r.token) := by simp [World.cell?, r4]
            have c4' : w4.cell? ⟨w3.heap.size, 4, none⟩ = some (.int .i64 r.n) := by simp [World.cell?, r4]
            have HW5 : Hid (w4.alloc (.cells #[.int .i64 r.session, .int .i64 r.seq, .int .i64 r.err, .int .u64 r.token, .int .i64 r.n] rpT) = w5) := hw5.symm
            have HLR : Hid (rs.length + (q2.length + 1) ≤ m) := (show rs.length + (q2.length + 1) ≤ m from by have := J.out.rq; simpa using this)
            clear hw4 hw5 b4 b5 r4 y0 y1 y2 HG
            go_wp2_with (at_builtin; rw [HW5.out]; refine wpList_app_row (k := 5) (enc := rpC) (l := [r]) rfl (.tmp 56) (.tmp 58) 36 rpT rfl i0 _ 40 Try.underlying36 hi hz0 hz1 hz2 rfl (by decide) rpC_len rpC_one (base := w.heap.size) rfl rfl O5.out R5.out (Nat.le_trans J.out.lk.k.size (by have := HZ.out; omega)) (by have := HLR.out; simp only [List.length_singleton]; omega) (by have := HLR.out; simp only [List.length_singleton]; omega) ?_; intro u6 w6 o6 a6; have o6' : w6.ownsRow w.heap.size rpT 5 u6 (rs ++ [r]).length (rowL rpC (rs ++ [r])) := (by rw [List.length_append, rowL_append]; exact o6); obtain ⟨p6, n6, f6⟩ := (RowAt.own rpC_len o6').form; subst f6; have O6 : Hid (w6.ownsRow w.heap.size rpT 5 (.slice p6 (rs ++ [r]).length n6) (rs ++ [r]).length (rowL rpC (rs ++ [r]))) := o6'; have A6 : Hid (Appended w.heap.size w5 w6 (.slice pa rs.length pc) (.slice p6 (rs ++ [r]).length n6)) := a6; clear o6 o6' a6)
            go_roundg q2.length
            case measure => simp
            case rel =>
              have hz := HZ.out
              have hks := J.out.lk.k.size
              have hne := J.out.lk.ne
              have k6 := K5.out.app A6.out (fun gg e => ⟨fun hp => by
                rcases hp with hp | hp
                · exact hp.2 e
                · have := (J.out.out.lt gg e).2
                  omega, by have := (J.out.out.lt gg e).1; omega, by have := (J.out.out.lt gg e).1; omega, (J.out.out.lt gg e).1⟩)
              refine ⟨rs ++ [r], g.1, g.2.1, g.2.2.1, q2, a4, c4, a3, c3, p6, n6, rfl, by rw [List.length_append]; rfl, O6.out, k6.grow (fun gg hp => ?_) (fun gg hp => ?_), ?_, ?_, fun a ha => J.out.qq a (List.mem_cons_of_mem _ ha), ?_, ?_, ?_, ?_⟩
              · have hs6 := A6.out.below.size
                rcases hp with ⟨hp1, hp2⟩ | hp
                · refine ⟨?_, fun e => ?_⟩
                  · rcases hp1 with hp1 | hp1
                    · exact Or.inl hp1
                    · exact Or.inr ⟨hp1.1, by omega⟩
                  · rcases A6.out.lies with e2 | e2
                    · rw [e2] at e; exact hp2 e
                    · rw [e2] at e
                      have := Option.some.inj e
                      rcases hp1 with hp1 | hp1
                      · have := (HP.out gg hp1).1
                        omega
                      · omega
                · refine ⟨Or.inr ⟨by omega, by omega⟩, fun e => ?_⟩
                  rcases A6.out.lies with e2 | e2
                  · rw [e2] at e
                    have := (J.out.out.lt gg e).2
                    omega
                  · rw [e2] at e
                    have := Option.some.inj e
                    omega
              · rcases hp.1 with hp1 | hp1
                · have h1 := HP.out gg hp1
                  have hs6 := A6.out.below.size
                  exact ⟨by omega, h1.2⟩
                · omega
              · rw [J.out.eq, srv_go HF.out, HRE.out, HGE.out]
              · rw [HGE.out]; exact give_mem J.out.hh (J.out.qq x List.mem_cons_self)
              · have h1 := give_len (c := c) (h := (y :: h)) (b := false) (x := x)
                rw [← HGE.out] at h1
                have := J.out.hq
                simp only [List.length_cons] at this h1 ⊢
                try simp only [List.length_nil] at this h1
                omega
              · have := HLR.out
                simp only [List.length_append, List.length_singleton]
                omega
              · rw [HGE.out]; exact (give_ok J.out.c0 J.out.c1').1
              · rw [HGE.out]; exact (give_ok J.out.c0 J.out.c1').2
end Go.Proofs.Ytmfadmhbkgemmaa
/-
  The document's locks: those that nobody holds nor waits for go. The condition: at most 65536 locks.
-/
namespace Go.Proofs.Ytmfadmhbkgemmaa
open Go.RowKit

theorem infoLk : (Try.prog.info? lkT).map (fun i => (i.zero, i.size, i.bytes)) = some (some (.agg #[.string ⟨#[]⟩, .slice none 0 0, .bool false, .slice none 0 0]), 4, 72) := by kernel_rfl
/-- Another row in the row's place. -/
theorem LoM.row {w wr : World} {base D : Nat} {S P : Nat → Prop} {L L' : List Lv} {v u : Value} {c : Int} (h : LoM w base D S P L v c) (b : Below w.heap.size w wr) (o : wr.ownsRow w.heap.size lkT 4 u L'.length (rowL lvC L')) (hq : ∀ x ∈ L', LvAt wr P D x) :
    LoM (wr.setCell ⟨D, 0, none⟩ u) base D (fun g => g = D ∨ u.ownBlock = some g ∨ P g) P L' u c ∧ Kept w (wr.setCell ⟨D, 0, none⟩ u) S (fun g => g = D ∨ u.ownBlock = some g ∨ P g) := by
  have hD := lt_of_block h.blk
  have hk : ∀ g, g ≠ D → (wr.setCell ⟨D, 0, none⟩ u).heap[g]? = wr.heap[g]? := fun g hg => heap_setCell_other _ _ _ _ hg
  have hs : wr.heap.size ≤ (wr.setCell ⟨D, 0, none⟩ u).heap.size := by simp
  have hu : ∀ g, u.ownBlock = some g → w.heap.size ≤ g ∧ g < wr.heap.size := fun g e => o.lt g e
  refine ⟨⟨?_, own_mono (own_keep o fun g e => hk g (by have := (hu g e).1; omega)) ?_, fun x hx => (hq x hx).keep hs fun g _ hgD => hk g hgD, fun g hg => ⟨(h.pb g hg).1, ?_, (h.pb g hg).2.2.1, fun e => by have := (hu g e).1; have := (h.pb g hg).2.1; omega⟩, h.lo, fun _ => Iff.rfl⟩, ⟨b.os, b.tape, b.output, Nat.le_trans b.size hs, fun g hg => ?_, fun g hg hn => ?_⟩⟩
  · rw [heap_setCell_same _ D 0 _ _ _ ((b.block D hD).trans h.blk)]
    rfl
  · have := h.lo
    omega
  · have := (h.pb g hg).2.1
    have := b.size
    omega
  · rcases hg with rfl | e | e
    · exact Or.inl ((h.set _).2 (Or.inl rfl))
    · exact Or.inr (hu g e).1
    · exact Or.inl ((h.set g).2 (Or.inr (Or.inr e)))
  · exact (hk g (fun e => hn ((h.set g).2 (Or.inl e)))).trans (b.block g hg)
structure LoP (w : World) (base D : Nat) (S P : Nat → Prop) (L : List Lv) (c : Int) (e : Ending) (w' : World) : Prop where
  ex : ∃ S' v', e = .returned (.tuple #[]) ∧ LoM w' base D S' P L v' c ∧ Kept w w' S S'
def tidyV (L : List Lv) : List Lv := L.filter fun x => liveK x.k
theorem tidyV_map (L : List Lv) : (tidyV L).map (·.k) = tidyL (L.map (·.k)) := by
  unfold tidyV tidyL
  rw [List.filter_map]
  rfl
structure TdI (w wr : World) (L : List Lv) (k : Nat) (u : Value) : Prop where
  out : wr.ownsRow w.heap.size lkT 4 u (tidyV (L.take k)).length (rowL lvC (tidyV (L.take k)))
  bel : Below w.heap.size w wr
theorem tidyV_take {L : List Lv} {k : Nat} (hk : k < L.length) : tidyV (L.take (k + 1)) = if liveK L[k].k = true then tidyV (L.take k) ++ [L[k]] else tidyV (L.take k) := by
  unfold tidyV
  rw [List.take_succ_eq_append_getElem hk, List.filter_append]
  by_cases h : liveK L[k].k = true
  · simp [h]
  · simp [h]
set_option maxHeartbeats 12800000 in
set_option maxRecDepth 100000 in
theorem lotidy_any {w : World} {base D : Nat} {S P : Nat → Prop} {L : List Lv} {v : Value} {c : Int} (h : LoM w base D S P L v c) (hl : L.length ≤ 65536) :
    Calls Try.prog 42 #[.pointer (some ⟨D, 0, none⟩)] w (LoP w base D S P (tidyV L) c) := by
  obtain ⟨a, cp, rfl⟩ := h.form
  have HM : Hid (LoM w base D S P L (.slice a L.length cp) c) := h
  have HL0 : Hid (∀ y, Below w.heap.size w y → y.cell? ⟨D, 0, none⟩ = some (.slice a L.length cp)) := fun y b => (h.fresh b).cell 0 _ rfl
  clear h
  obtain ⟨i0, hi, hz0, hz1, hz2⟩ := info_parts infoLk
  go_enter Try.func42, Try.ntmps42
  go_wp2
  go_loopw [2, 3] (fun ou i wr => ∃ (k : Nat) (pa : Option Addr) (pc : Nat), k ≤ L.length ∧ ou = .slice pa (tidyV (L.take k)).length pc ∧ i = .int .i64 (k : Int) ∧ Hid (TdI w wr L k (.slice pa (tidyV (L.take k)).length pc))) (fun _ i _ => L.length - (intOf i).toNat)
  case atStart => exact ⟨0, none, 0, Nat.zero_le _, rfl, rfl, World.ownsRow_nil _ _ _ _, Below.refl _ _⟩
  case round =>
    obtain ⟨k, pa, pc, hk, rfl, rfl, I⟩ := hrel
    have l0 := HL0.out wr I.out.bel
    by_cases hkl : k < L.length
    · have t0 : decide ((k : Int) < (L.length : Int)) = true := decide_eq_true (by omega)
      have t0' : decide (k < L.length) = true := decide_eq_true hkl
      obtain ⟨g, cp', J⟩ := (HM.out.fresh I.out.bel).at (List.getElem?_eq_getElem hkl)
      have e0 := J.form
      simp only [Value.slice.injEq] at e0
      obtain ⟨rfl, _, rfl⟩ := e0
      obtain ⟨x, hx⟩ : ∃ x, x = L[k] := ⟨_, rfl⟩
      rw [← hx] at J
      have z0 := J.cell 0 (.string x.k.name) rfl
      have z1 := J.cell 1 (.slice x.ha x.k.h.length x.hc) rfl
      have z2 := J.cell 2 (.bool x.k.wr) rfl
      have z3 := J.cell 3 (.slice x.qa x.k.q.length x.qc) rfl
      rw [Nat.add_zero] at z0
      have HX : Hid (tidyV (L.take (k + 1)) = if liveK x.k = true then tidyV (L.take k) ++ [x] else tidyV (L.take k)) := (by rw [hx]; exact tidyV_take hkl : tidyV (L.take (k + 1)) = if liveK x.k = true then tidyV (L.take k) ++ [x] else tidyV (L.take k))
      have HLN : Hid ((tidyV (L.take k)).length ≤ 65536) := (Nat.le_trans (List.length_filter_le _ _) (by rw [List.length_take]; omega) : (tidyV (L.take k)).length ≤ 65536)
      clear hx J
      by_cases h1 : 0 < x.k.h.length
      · have t1 : decide ((0 : Int) < (x.k.h.length : Int)) = true := decide_eq_true (by omega)
        have t1' : decide (0 < x.k.h.length) = true := decide_eq_true h1
        have HV : Hid (liveK x.k = true) := (show liveK x.k = true by unfold liveK; simp [h1])
        clear h1
        go_wp2_with (at_builtin; refine wpList_app_row (k := 4) (enc := lvC) (l := [x]) rfl (.tmp 35) (.tmp 43) 26 lkT rfl i0 _ 72 Try.underlying26 hi hz0 hz1 hz2 rfl (by decide) lvC_len lvC_one (base := w.heap.size) rfl rfl (World.ownsRow.alloc I.out.out _) (RowAt.built (heap_alloc_new _ _) rfl 1 rfl rfl) (Nat.le_trans I.out.bel.size (by simp)) (by have := HLN.out; simp only [List.length_singleton]; omega) (by have := HLN.out; simp only [List.length_singleton]; omega) ?_; intro u6 w6 o6 a6; have o6' : w6.ownsRow w.heap.size lkT 4 u6 (tidyV (L.take k) ++ [x]).length (rowL lvC (tidyV (L.take k) ++ [x])) := (by rw [List.length_append, rowL_append]; exact o6); obtain ⟨p6, n6, f6⟩ := (RowAt.own lvC_len o6').form; subst f6; have O6 : Hid (w6.ownsRow w.heap.size lkT 4 (.slice p6 (tidyV (L.take k) ++ [x]).length n6) (tidyV (L.take k) ++ [x]).length (rowL lvC (tidyV (L.take k) ++ [x]))) := o6'; have B6 : Hid (Below w.heap.size w w6) := (I.out.bel.alloc I.out.bel.size _).trans a6.below; clear o6 o6' a6)
        have e1 : tidyV (L.take (k + 1)) = tidyV (L.take k) ++ [x] := by rw [HX.out, HV.out]; rfl
        exact ⟨⟨k + 1, p6, n6, hkl, by rw [e1, List.length_append]; rfl, by simp, ⟨by rw [e1]; exact O6.out, B6.out⟩⟩, by simp [intOf]; omega⟩
      · have t1 : decide ((0 : Int) < (x.k.h.length : Int)) = false := decide_eq_false (by omega)
        have t1' : decide (0 < x.k.h.length) = false := decide_eq_false h1
        by_cases h2 : 0 < x.k.q.length
        · have t2 : decide ((0 : Int) < (x.k.q.length : Int)) = true := decide_eq_true (by omega)
          have t2' : decide (0 < x.k.q.length) = true := decide_eq_true h2
          have HV : Hid (liveK x.k = true) := (show liveK x.k = true by unfold liveK; simp [h2])
          clear h1 h2
          go_wp2_with (at_builtin; refine wpList_app_row (k := 4) (enc := lvC) (l := [x]) rfl (.tmp 35) (.tmp 43) 26 lkT rfl i0 _ 72 Try.underlying26 hi hz0 hz1 hz2 rfl (by decide) lvC_len lvC_one (base := w.heap.size) rfl rfl (World.ownsRow.alloc I.out.out _) (RowAt.built (heap_alloc_new _ _) rfl 1 rfl rfl) (Nat.le_trans I.out.bel.size (by simp)) (by have := HLN.out; simp only [List.length_singleton]; omega) (by have := HLN.out; simp only [List.length_singleton]; omega) ?_; intro u6 w6 o6 a6; have o6' : w6.ownsRow w.heap.size lkT 4 u6 (tidyV (L.take k) ++ [x]).length (rowL lvC (tidyV (L.take k) ++ [x])) := (by rw [List.length_append, rowL_append]; exact o6); obtain ⟨p6, n6, f6⟩ := (RowAt.own lvC_len o6').form; subst f6; have O6 : Hid (w6.ownsRow w.heap.size lkT 4 (.slice p6 (tidyV (L.take k) ++ [x]).length n6) (tidyV (L.take k) ++ [x]).length (rowL lvC (tidyV (L.take k) ++ [x]))) := o6'; have B6 : Hid (Below w.heap.size w w6) := (I.out.bel.alloc I.out.bel.size _).trans a6.below; clear o6 o6' a6)
          have e1 : tidyV (L.take (k + 1)) = tidyV (L.take k) ++ [x] := by rw [HX.out, HV.out]; rfl
          exact ⟨⟨k + 1, p6, n6, hkl, by rw [e1, List.length_append]; rfl, by simp, ⟨by rw [e1]; exact O6.out, B6.out⟩⟩, by simp [intOf]; omega⟩
        · have t2 : decide ((0 : Int) < (x.k.q.length : Int)) = false := decide_eq_false (by omega)
          have t2' : decide (0 < x.k.q.length) = false := decide_eq_false h2
          have HV : Hid (liveK x.k = false) := (show liveK x.k = false by unfold liveK; rw [t1', t2']; rfl)
          clear h1 h2
          go_wp2
          have e1 : tidyV (L.take (k + 1)) = tidyV (L.take k) := by rw [HX.out, HV.out]; rfl
          exact ⟨⟨k + 1, pa, pc, hkl, by rw [e1], by simp, ⟨by rw [e1]; exact I.out.out, I.out.bel⟩⟩, by simp [intOf]; omega⟩
    · obtain rfl : k = L.length := by omega
      have t0 : decide ((L.length : Int) < (L.length : Int)) = false := decide_eq_false (by omega)
      have f0 : wr.frozen? ⟨D, 0, none⟩ = false := (HM.out.fresh I.out.bel).fz 0
      have HE : Hid (L.take L.length = L) := (List.take_length : L.take L.length = L)
      go_wp2
      go_returns
      have hh := HM.out.row I.out.bel I.out.out (fun x hx => (HM.out.fresh I.out.bel).hq x (by have := (List.mem_filter.1 hx).1; rw [HE.out] at this; exact this))
      rw [HE.out] at hh
      exact ⟨_, _, rfl, hh.1, hh.2⟩
end Go.Proofs.Ytmfadmhbkgemmaa
/-
  The document's locks: a lock put where its name belongs. The condition: at most 65536 locks.
-/
namespace Go.Proofs.Ytmfadmhbkgemmaa
open Go.RowKit

theorem tw_at {α : Type} (p : α → Bool) : ∀ (l : List α) (k : Nat), k ≤ l.length → (∀ j (hj : j < l.length), j < k → p l[j] = true) → (∀ hk : k < l.length, p l[k] = false) → l.takeWhile p = l.take k ∧ l.dropWhile p = l.drop k
  | [], k, h, _, _ => by
    have : k = 0 := by simpa using h
    subst this
    exact ⟨rfl, rfl⟩
  | x :: l, 0, _, _, h2 => by
    have h3 : p x = false := h2 (by simp)
    simp [h3]
  | x :: l, k + 1, h, h1, h2 => by
    have h3 : p x = true := h1 0 (by simp) (by omega)
    obtain ⟨e1, e2⟩ := tw_at p l k (by simpa using h) (fun j hj hjk => h1 (j + 1) (by simpa using hj) (by omega)) (fun hk => h2 (by simpa using hk))
    simp [h3, e1, e2]
def addV (L : List Lv) (x : Lv) : List Lv := L.takeWhile (fun y => befK y.k.name x.k.name) ++ x :: L.dropWhile (fun y => befK y.k.name x.k.name)
theorem addV_map (L : List Lv) (x : Lv) : (addV L x).map (·.k) = addL (L.map (·.k)) x.k := by
  unfold addV addL
  rw [List.map_append, List.map_cons, List.takeWhile_map, List.dropWhile_map]
  rfl
/-- The row of locks as a row to be read. -/
theorem LoM.rowR {w : World} {base D : Nat} {S P : Nat → Prop} {L : List Lv} {v : Value} {c : Int} (h : LoM w base D S P L v c) : OwnRow lvC w (fun b => v.ownBlock = some b) D v L := by
  refine ⟨RowAt.own lvC_len h.own, fun bk off n cap h0 e => ?_⟩
  rcases h.own.2 with ⟨rfl, _⟩ | ⟨g, cp, cur, rfl, _⟩
  · simp at e
  · simp only [Value.slice.injEq, Option.some.injEq, Addr.mk.injEq] at e
    obtain ⟨⟨rfl, _, _⟩, _, _⟩ := e
    exact ⟨rfl, fun e2 => h.ne (by rw [← e2]; rfl)⟩
structure AdJ (w W wr : World) (L : List Lv) (k : Nat) (u : Value) (x : Lv) : Prop where
  out : wr.ownsRow W.heap.size lkT 4 u k (rowL lvC (L.take k))
  bel : Below W.heap.size W wr
  all : ∀ j (hj : j < L.length), j < k → befK L[j].k.name x.k.name = true
set_option maxHeartbeats 12800000 in
set_option maxRecDepth 100000 in
theorem loadd_any {w : World} {base D : Nat} {S P : Nat → Prop} {L : List Lv} {v : Value} {c : Int} (h : LoM w base D S P L v c) (hl : L.length ≤ 65536) (x : Lv) (hx : LvAt w P D x) :
    Calls Try.prog 35 #[.pointer (some ⟨D, 0, none⟩), .agg (lvA x)] w (LoP w base D S P (addV L x) c) := by
  obtain ⟨a, cp, rfl⟩ := h.form
  have HLN : Hid (L.length ≤ 65536) := hl
  obtain ⟨W, hW⟩ : ∃ W, W = w.alloc (.cells (lvA x) lkT) := ⟨_, rfl⟩
  have bW : Below w.heap.size w W := by rw [hW]; exact (Below.refl _ w).alloc (Nat.le_refl _) _
  have rW : W.heap[w.heap.size]? = some (.cells (lvA x) lkT (0, 0)) := by rw [hW]; exact heap_alloc_new w _
  have HW : Hid (w.alloc (.cells #[.string x.k.name, .slice x.ha x.k.h.length x.hc, .bool x.k.wr, .slice x.qa x.k.q.length x.qc] lkT) = W) := hW.symm
  have BW : Hid (Below w.heap.size w W) := bW
  have RW : Hid (W.heap[w.heap.size]? = some (.cells (lvA x) lkT (0, 0))) := rW
  have HXW : Hid (∀ y, Below W.heap.size W y → y.heap[w.heap.size]? = some (.cells (lvA x) lkT (0, 0))) := fun y b => (b.block _ (lt_of_block rW)).trans rW
  have hW0 : LoM W base D S P L (.slice a L.length cp) c := h.fresh bW
  have HM : Hid (LoM W base D S P L (.slice a L.length cp) c) := hW0
  have HX : Hid (LvAt W P D x ∧ ∀ b, P b → b < W.heap.size) := (show Hid _ from (⟨hx.keep bW.size fun b hb _ => bW.block b (h.pb b hb).2.1, fun b hb => (hW0.pb b hb).2.1⟩ : _ ∧ _))
  have HL0 : Hid (∀ y, Below W.heap.size W y → y.cell? ⟨D, 0, none⟩ = some (.slice a L.length cp)) := fun y b => (hW0.fresh b).cell 0 _ rfl
  clear h hx hl hW bW rW hW0
  obtain ⟨i0, hi, hz0, hz1, hz2⟩ := info_parts infoLk
  go_enter Try.func35, Try.ntmps35
  go_upto_region 1 with fail
  rw [HW.out]
  go_wp2
  go_loopw [4, 5] (fun ou i wr => ∃ (k : Nat) (pa : Option Addr) (pc : Nat), k ≤ L.length ∧ ou = .slice pa k pc ∧ i = .int .i64 (k : Int) ∧ Hid (AdJ w W wr L k (.slice pa k pc) x)) (fun _ i _ => L.length - (intOf i).toNat)
  case atStart => exact ⟨0, none, 0, Nat.zero_le _, rfl, rfl, World.ownsRow_nil _ _ _ _, Below.refl _ _, fun j hj h => by omega⟩
  case round =>
    obtain ⟨k, pa, pc, hk, rfl, rfl, I⟩ := hrel
    have hln : L.length ≤ 65536 := HLN.out
    have l0 := HL0.out wr I.out.bel
    have x0 : wr.cell? ⟨w.heap.size, 0, none⟩ = some (.string x.k.name) := by simp [World.cell?, HXW.out wr I.out.bel]

    by_cases hkl : k < L.length
    · have t0 : decide ((k : Int) < (L.length : Int)) = true := decide_eq_true (by omega)
      have t0' : decide (k < L.length) = true := decide_eq_true hkl
      obtain ⟨g, cp', J⟩ := (HM.out.fresh I.out.bel).at (List.getElem?_eq_getElem hkl)
      have e0 := J.form
      simp only [Value.slice.injEq] at e0
      obtain ⟨rfl, _, rfl⟩ := e0
      obtain ⟨y, hy⟩ : ∃ y, y = L[k] := ⟨_, rfl⟩
      rw [← hy] at J
      have HYE : Hid (y = L[k]) := hy
      have z0 := J.cell 0 (.string y.k.name) rfl
      rw [Nat.add_zero] at z0
      have HJ : Hid _ := J
      clear hy J
      cases hb : befK y.k.name x.k.name with
      | false =>
        have tb : Go.Op.bytesLess y.k.name.toList x.k.name.toList = false := hb
        have HT : Hid (L.takeWhile (fun z => befK z.k.name x.k.name) = L.take k ∧ L.dropWhile (fun z => befK z.k.name x.k.name) = L.drop k) := tw_at _ L k hk (fun j hj hjk => I.out.all j hj hjk) (fun hk2 => by rw [← HYE.out]; exact hb)
        clear hb
        go_upto_region 3 with fail
        go_quiet (fail)
        go_upto_region 6 with fail
        clear z0 tb
        obtain ⟨w1, hw1⟩ : ∃ w1, w1 = wr.drewN nq := ⟨_, rfl⟩
        rw [← hw1]
        have b1 : Below W.heap.size W w1 := by rw [hw1]; exact below_drewN I.out.bel _
        have rx : w1.heap[w.heap.size]? = some (.cells (lvA x) lkT (0, 0)) := by rw [hw1]; exact HXW.out wr I.out.bel
        have O1 : Hid (w1.ownsRow W.heap.size lkT 4 (.slice pa k pc) k (rowL lvC (L.take k))) := by rw [hw1]; exact own_keep I.out.out (fun _ _ => rfl)
        have B1 : Hid _ := b1
        clear hw1 b1 l0 x0
        have y0 : w1.cell? ⟨w.heap.size, 0, none⟩ = some (.string x.k.name) := by simp [World.cell?, rx]
        have y1 : w1.cell? ⟨w.heap.size, 1, none⟩ = some (.slice x.ha x.k.h.length x.hc) := by simp [World.cell?, rx]
        have y2 : w1.cell? ⟨w.heap.size, 2, none⟩ = some (.bool x.k.wr) := by simp [World.cell?, rx]
        have y3 : w1.cell? ⟨w.heap.size, 3, none⟩ = some (.slice x.qa x.k.q.length x.qc) := by simp [World.cell?, rx]
        clear rx
        go_upto_region 7 with (at_builtin; refine wpList_app_row (k := 4) (enc := lvC) (l := [x]) rfl (.tmp 38) (.tmp 40) 26 lkT rfl i0 _ 72 Try.underlying26 hi hz0 hz1 hz2 rfl (by decide) lvC_len lvC_one (base := W.heap.size) rfl rfl (World.ownsRow.alloc O1.out _) (RowAt.built (heap_alloc_new _ _) rfl 1 rfl rfl) (Nat.le_trans B1.out.size (by simp)) (by have := HLN.out; simp only [List.length_singleton]; omega) (by have := HLN.out; simp only [List.length_singleton]; omega) ?_; intro u6 w6 o6 a6; have o6' : w6.ownsRow W.heap.size lkT 4 u6 (k + 1) (rowL lvC (L.take k ++ [x])) := (by rw [rowL_append]; exact o6); obtain ⟨p6, n6, f6⟩ := (RowAt.own lvC_len (l := L.take k ++ [x]) (by rw [(show (L.take k ++ [x]).length = k + 1 by simp only [List.length_append, List.length_take, List.length_singleton]; omega)]; exact o6')).form; rw [(show (L.take k ++ [x]).length = k + 1 by simp only [List.length_append, List.length_take, List.length_singleton]; omega)] at f6; subst f6; have O6 : Hid (w6.ownsRow W.heap.size lkT 4 (.slice p6 (k + 1) n6) (k + 1) (rowL lvC (L.take k ++ [x]))) := o6'; have B6 : Hid (Below W.heap.size W w6) := (B1.out.alloc B1.out.size _).trans a6.below; clear o6 o6' a6)
        clear y0 y1 y2 y3
        have M6 : Hid _ := HM.out.fresh B6.out
        have l6 := HL0.out w6 B6.out
        have f6 := M6.out.fz 0
        obtain ⟨u7, hsl, hu7⟩ := M6.out.rowR.from 26 lkT i0 Try.underlying26 (by kernel_rfl) hi hz1 lvC_len k hk
        have R7 : Hid (RowAt lvC w6 u7 (L.drop k)) := hu7.at'
        have hc7 := fun (y : World) (b : Below W.heap.size W y) => And.intro (HL0.out y b) ((HM.out.fresh b).fz 0)
        have HC7 : Hid _ := hc7
        clear hu7 hc7
        go_wp2_with (at_builtin; refine wpList_app_row (k := 4) (enc := lvC) (l := L.drop k) rfl (.tmp 43) (.tmp 49) 26 lkT rfl i0 _ 72 Try.underlying26 hi hz0 hz1 hz2 rfl (by decide) lvC_len lvC_one (base := W.heap.size) rfl rfl O6.out R7.out B6.out.size (by have := HLN.out; simp only [List.length_drop]; omega) (by have := HLN.out; simp only [List.length_drop]; omega) ?_; intro u8 w8 o8 a8; have o8' : w8.ownsRow W.heap.size lkT 4 u8 (k + 1 + (L.length - k)) (rowL lvC ((L.take k ++ [x]) ++ L.drop k)) := (by rw [rowL_append]; (rw [← List.length_drop]; exact o8)); obtain ⟨p8, n8, f8⟩ := (RowAt.own lvC_len (l := (L.take k ++ [x]) ++ L.drop k) (by rw [(show ((L.take k ++ [x]) ++ L.drop k).length = k + 1 + (L.length - k) by simp only [List.length_append, List.length_take, List.length_singleton, List.length_drop]; omega)]; exact o8')).form; rw [(show ((L.take k ++ [x]) ++ L.drop k).length = k + 1 + (L.length - k) by simp only [List.length_append, List.length_take, List.length_singleton, List.length_drop]; omega)] at f8; subst f8; have O8 : Hid (w8.ownsRow W.heap.size lkT 4 (.slice p8 (k + 1 + (L.length - k)) n8) (k + 1 + (L.length - k)) (rowL lvC ((L.take k ++ [x]) ++ L.drop k))) := o8'; have B8 : Hid (Below W.heap.size W w8) := B6.out.trans a8.below; have l8 := (HC7.out w8 B8.out).1; have f8 := (HC7.out w8 B8.out).2; clear o8 o8' a8)
        go_returns
        have hh := HM.out.row (L' := (L.take k ++ [x]) ++ L.drop k) B8.out (by rw [show ((L.take k ++ [x]) ++ L.drop k).length = k + 1 + (L.length - k) from by (simp only [List.length_append, List.length_take, List.length_singleton, List.length_drop]; omega)]; exact O8.out) (fun y hy => by
          rw [List.append_assoc, List.singleton_append] at hy
          rcases List.mem_append.1 hy with h1 | h1
          · exact (HM.out.fresh B8.out).hq y (List.mem_of_mem_take h1)
          · rcases List.mem_cons.1 h1 with rfl | h1
            · exact HX.out.1.keep B8.out.size fun b hb _ => B8.out.block b (HX.out.2 b hb)
            · exact (HM.out.fresh B8.out).hq y (List.mem_of_mem_drop h1))
        have e1 : addV L x = (L.take k ++ [x]) ++ L.drop k := by unfold addV; rw [HT.out.1, HT.out.2, List.append_assoc, List.singleton_append]
        rw [e1]
        exact ⟨_, _, rfl, hh.1, (Kept.of BW.out).trans hh.2⟩
      | true =>
        have tb : Go.Op.bytesLess y.k.name.toList x.k.name.toList = true := hb
        have HA : Hid (∀ j (hj : j < L.length), j < k + 1 → befK L[j].k.name x.k.name = true) := fun j hj hjk => by
          by_cases e : j = k
          · subst e
            rw [← HYE.out]
            exact hb
          · exact I.out.all j hj (by omega)
        clear hb
        go_upto_region 3 with fail
        go_quiet (fail)
        go_upto_region 4 with fail
        obtain ⟨w1, hw1⟩ : ∃ w1, w1 = wr.drewN nq := ⟨_, rfl⟩
        rw [← hw1]
        have b1 : Below W.heap.size W w1 := by rw [hw1]; exact below_drewN I.out.bel _
        have O1 : Hid (w1.ownsRow W.heap.size lkT 4 (.slice pa k pc) k (rowL lvC (L.take k))) := by rw [hw1]; exact own_keep I.out.out (fun _ _ => rfl)
        have l1 := HL0.out w1 b1
        have c1 : ∀ (j : Nat) (u : Value), (lvC y)[j]? = some u → w1.cell? ⟨g, k * 4 + j, none⟩ = some u := fun j u hu => by rw [hw1]; exact HJ.out.cell j u hu
        have y0 := c1 0 (.string y.k.name) rfl
        have y1 := c1 1 (.slice y.ha y.k.h.length y.hc) rfl
        have y2 := c1 2 (.bool y.k.wr) rfl
        have y3 := c1 3 (.slice y.qa y.k.q.length y.qc) rfl
        rw [Nat.add_zero] at y0
        have B1 : Hid _ := b1
        clear hw1 b1 l0 x0 z0 tb c1
        go_wp2_with (at_builtin; refine wpList_app_row (k := 4) (enc := lvC) (l := [y]) rfl (.tmp 26) (.tmp 34) 26 lkT rfl i0 _ 72 Try.underlying26 hi hz0 hz1 hz2 rfl (by decide) lvC_len lvC_one (base := W.heap.size) rfl rfl (World.ownsRow.alloc O1.out _) (RowAt.built (heap_alloc_new _ _) rfl 1 rfl rfl) (Nat.le_trans B1.out.size (by simp)) (by have := HLN.out; simp only [List.length_singleton]; omega) (by have := HLN.out; simp only [List.length_singleton]; omega) ?_; intro u6 w6 o6 a6; have o6' : w6.ownsRow W.heap.size lkT 4 u6 (k + 1) (rowL lvC (L.take k ++ [y])) := (by rw [rowL_append]; exact o6); obtain ⟨p6, n6, f6⟩ := (RowAt.own lvC_len (l := L.take k ++ [y]) (by rw [(show (L.take k ++ [y]).length = k + 1 by simp only [List.length_append, List.length_take, List.length_singleton]; omega)]; exact o6')).form; rw [(show (L.take k ++ [y]).length = k + 1 by simp only [List.length_append, List.length_take, List.length_singleton]; omega)] at f6; subst f6; have O6 : Hid (w6.ownsRow W.heap.size lkT 4 (.slice p6 (k + 1) n6) (k + 1) (rowL lvC (L.take k ++ [y]))) := o6'; have B6 : Hid (Below W.heap.size W w6) := (B1.out.alloc B1.out.size _).trans a6.below; clear o6 o6' a6)
        have e1 : L.take (k + 1) = L.take k ++ [y] := by rw [List.take_succ_eq_append_getElem hkl, ← HYE.out]
        exact ⟨⟨k + 1, p6, n6, hkl, rfl, by simp, ⟨by rw [e1]; exact O6.out, B6.out, HA.out⟩⟩, by simp [intOf]; omega⟩
    · have hke : k = L.length := by omega
      have t0 : decide ((k : Int) < (L.length : Int)) = false := decide_eq_false (by omega)
      have t0' : decide (k < L.length) = false := decide_eq_false hkl
      have HT : Hid (L.takeWhile (fun z => befK z.k.name x.k.name) = L.take k ∧ L.dropWhile (fun z => befK z.k.name x.k.name) = L.drop k) := tw_at _ L k hk (fun j hj hjk => I.out.all j hj hjk) (fun hk2 => absurd hk2 hkl)
      clear hke
      go_upto_region 3 with fail
      go_quiet (fail)
      go_upto_region 6 with fail
      obtain ⟨w1, hw1⟩ : ∃ w1, w1 = wr.drewN nq := ⟨_, rfl⟩
      rw [← hw1]
      have b1 : Below W.heap.size W w1 := by rw [hw1]; exact below_drewN I.out.bel _
      have rx : w1.heap[w.heap.size]? = some (.cells (lvA x) lkT (0, 0)) := by rw [hw1]; exact HXW.out wr I.out.bel
      have O1 : Hid (w1.ownsRow W.heap.size lkT 4 (.slice pa k pc) k (rowL lvC (L.take k))) := by rw [hw1]; exact own_keep I.out.out (fun _ _ => rfl)
      have B1 : Hid _ := b1
      clear hw1 b1 l0 x0
      have y0 : w1.cell? ⟨w.heap.size, 0, none⟩ = some (.string x.k.name) := by simp [World.cell?, rx]
      have y1 : w1.cell? ⟨w.heap.size, 1, none⟩ = some (.slice x.ha x.k.h.length x.hc) := by simp [World.cell?, rx]
      have y2 : w1.cell? ⟨w.heap.size, 2, none⟩ = some (.bool x.k.wr) := by simp [World.cell?, rx]
      have y3 : w1.cell? ⟨w.heap.size, 3, none⟩ = some (.slice x.qa x.k.q.length x.qc) := by simp [World.cell?, rx]
      clear rx
      go_upto_region 7 with (at_builtin; refine wpList_app_row (k := 4) (enc := lvC) (l := [x]) rfl (.tmp 38) (.tmp 40) 26 lkT rfl i0 _ 72 Try.underlying26 hi hz0 hz1 hz2 rfl (by decide) lvC_len lvC_one (base := W.heap.size) rfl rfl (World.ownsRow.alloc O1.out _) (RowAt.built (heap_alloc_new _ _) rfl 1 rfl rfl) (Nat.le_trans B1.out.size (by simp)) (by have := HLN.out; simp only [List.length_singleton]; omega) (by have := HLN.out; simp only [List.length_singleton]; omega) ?_; intro u6 w6 o6 a6; have o6' : w6.ownsRow W.heap.size lkT 4 u6 (k + 1) (rowL lvC (L.take k ++ [x])) := (by rw [rowL_append]; exact o6); obtain ⟨p6, n6, f6⟩ := (RowAt.own lvC_len (l := L.take k ++ [x]) (by rw [(show (L.take k ++ [x]).length = k + 1 by simp only [List.length_append, List.length_take, List.length_singleton]; omega)]; exact o6')).form; rw [(show (L.take k ++ [x]).length = k + 1 by simp only [List.length_append, List.length_take, List.length_singleton]; omega)] at f6; subst f6; have O6 : Hid (w6.ownsRow W.heap.size lkT 4 (.slice p6 (k + 1) n6) (k + 1) (rowL lvC (L.take k ++ [x]))) := o6'; have B6 : Hid (Below W.heap.size W w6) := (B1.out.alloc B1.out.size _).trans a6.below; clear o6 o6' a6)
      clear y0 y1 y2 y3
      have M6 : Hid _ := HM.out.fresh B6.out
      have l6 := HL0.out w6 B6.out
      have f6 := M6.out.fz 0
      obtain ⟨u7, hsl, hu7⟩ := M6.out.rowR.from 26 lkT i0 Try.underlying26 (by kernel_rfl) hi hz1 lvC_len k hk
      have R7 : Hid (RowAt lvC w6 u7 (L.drop k)) := hu7.at'
      have hc7 := fun (y : World) (b : Below W.heap.size W y) => And.intro (HL0.out y b) ((HM.out.fresh b).fz 0)
      have HC7 : Hid _ := hc7
      clear hu7 hc7
      go_wp2_with (at_builtin; refine wpList_app_row (k := 4) (enc := lvC) (l := L.drop k) rfl (.tmp 43) (.tmp 49) 26 lkT rfl i0 _ 72 Try.underlying26 hi hz0 hz1 hz2 rfl (by decide) lvC_len lvC_one (base := W.heap.size) rfl rfl O6.out R7.out B6.out.size (by have := HLN.out; simp only [List.length_drop]; omega) (by have := HLN.out; simp only [List.length_drop]; omega) ?_; intro u8 w8 o8 a8; have o8' : w8.ownsRow W.heap.size lkT 4 u8 (k + 1 + (L.length - k)) (rowL lvC ((L.take k ++ [x]) ++ L.drop k)) := (by rw [rowL_append]; (rw [← List.length_drop]; exact o8)); obtain ⟨p8, n8, f8⟩ := (RowAt.own lvC_len (l := (L.take k ++ [x]) ++ L.drop k) (by rw [(show ((L.take k ++ [x]) ++ L.drop k).length = k + 1 + (L.length - k) by simp only [List.length_append, List.length_take, List.length_singleton, List.length_drop]; omega)]; exact o8')).form; rw [(show ((L.take k ++ [x]) ++ L.drop k).length = k + 1 + (L.length - k) by simp only [List.length_append, List.length_take, List.length_singleton, List.length_drop]; omega)] at f8; subst f8; have O8 : Hid (w8.ownsRow W.heap.size lkT 4 (.slice p8 (k + 1 + (L.length - k)) n8) (k + 1 + (L.length - k)) (rowL lvC ((L.take k ++ [x]) ++ L.drop k))) := o8'; have B8 : Hid (Below W.heap.size W w8) := B6.out.trans a8.below; have l8 := (HC7.out w8 B8.out).1; have f8 := (HC7.out w8 B8.out).2; clear o8 o8' a8)
      go_returns
      have hh := HM.out.row (L' := (L.take k ++ [x]) ++ L.drop k) B8.out (by rw [show ((L.take k ++ [x]) ++ L.drop k).length = k + 1 + (L.length - k) from by (simp only [List.length_append, List.length_take, List.length_singleton, List.length_drop]; omega)]; exact O8.out) (fun y hy => by
        rw [List.append_assoc, List.singleton_append] at hy
        rcases List.mem_append.1 hy with h1 | h1
        · exact (HM.out.fresh B8.out).hq y (List.mem_of_mem_take h1)
        · rcases List.mem_cons.1 h1 with rfl | h1
          · exact HX.out.1.keep B8.out.size fun b hb _ => B8.out.block b (HX.out.2 b hb)
          · exact (HM.out.fresh B8.out).hq y (List.mem_of_mem_drop h1))
      have e1 : addV L x = (L.take k ++ [x]) ++ L.drop k := by unfold addV; rw [HT.out.1, HT.out.2, List.append_assoc, List.singleton_append]
      rw [e1]
      exact ⟨_, _, rfl, hh.1, (Kept.of BW.out).trans hh.2⟩
end Go.Proofs.Ytmfadmhbkgemmaa
/-
  The document's locks: one lock of the row turned; the counter alone. No condition.
-/
namespace Go.Proofs.Ytmfadmhbkgemmaa
open Go.RowKit

theorem rowL_setg {α : Type} {k : Nat} {enc : α → List Value} (hk : ∀ x, (enc x).length = k) {raw : List α} {i j : Nat} {x y : α} {u : Value} (hx : raw[i]? = some x) (hj : j < k) (hy : enc y = (enc x).set j u) : (rowL enc raw).set (i * k + j) u = rowL enc (raw.set i y) := by
  obtain ⟨hi, hv⟩ := List.getElem?_eq_some_iff.1 hx
  have hsplit : raw = raw.take i ++ x :: raw.drop (i + 1) := by rw [← hv, List.getElem_cons_drop, List.take_append_drop]
  have hlt : (raw.take i).length = i := by rw [List.length_take]; omega
  have e1 : rowL enc raw = rowL enc (raw.take i) ++ (enc x ++ rowL enc (raw.drop (i + 1))) := by
    have h2 : rowL enc (raw.take i ++ x :: raw.drop (i + 1)) = rowL enc (raw.take i) ++ (enc x ++ rowL enc (raw.drop (i + 1))) := by
      rw [rowL_append]
      rfl
    rw [← hsplit] at h2
    exact h2
  have e2 : rowL enc (raw.set i y) = rowL enc (raw.take i) ++ (enc y ++ rowL enc (raw.drop (i + 1))) := by
    rw [List.set_eq_take_append_cons_drop, if_pos hi, rowL_append]
    rfl
  have hl := rowL_length hk (raw.take i)
  rw [hlt] at hl
  rw [e1, e2, List.set_append_right _ _ (by rw [hl]; omega), hl, List.set_append_left _ _ (by rw [hk]; omega), hy]
  congr 3
  omega
section
variable {w w' : World} {base D : Nat} {S P P' : Nat → Prop} {L : List Lv} {v : Value} {c c' : Int}
/-- A lock of the row, looked at alone. -/
theorem LoM.lks (h : LoM w base D S P L v c) {k : Nat} {x : Lv} (hx : L[k]? = some x) {g cp : Nat} (J : LoI w base D S P L v g cp k x) : ∃ cur, w.heap[g]? = some (.cells cur.toArray lkT (0, 0)) ∧ cur.take (L.length * 4) = rowL lvC L ∧ cur.length = cp * 4 ∧ LkS w w D g (k * 4) v cur P c x.k.h x.k.wr x.k.q x.ha x.hc x.qa x.qc := by
  obtain ⟨cur, h1, h2, h3⟩ := J.blk
  obtain ⟨hk, hv⟩ := List.getElem?_eq_some_iff.1 hx
  have hcp := J.cps
  have hat : ∀ j (hj : j < 4) (u : Value), (lvC x)[j]? = some u → cur[k * 4 + j]? = some u := fun j hj u hu => by
    have e := rowL_at lvC_len L k hk j hj
    rw [hv, hu, ← h2, List.getElem?_take, if_pos (by omega)] at e
    exact e
  refine ⟨cur, h1, h2, h3, ?_, J.at'.h, J.at'.q, Kept.refl _ _, h.blk, fun b hb => ⟨(h.pb b hb).2.1, (h.pb b hb).2.2.1, fun e => J.gs.2.2.2 (by rw [← e]; exact hb)⟩, ⟨fun e => J.gs.2.1 e.symm, lt_of_block h.blk, J.gs.2.2.1⟩, by omega⟩
  rw [cur4_self (hat 1 (by decide) _ rfl) (hat 2 (by decide) _ rfl) (hat 3 (by decide) _ rfl)]
  exact h1
def turnV (x : Lv) (h : List Int) (b : Bool) (q : List Wq) (a1 : Option Addr) (c1 : Nat) (a2 : Option Addr) (c2 : Nat) : Lv := ⟨⟨x.k.name, h, b, q⟩, a1, c1, a2, c2⟩
theorem turn_row {L : List Lv} {k : Nat} {x : Lv} (hx : L[k]? = some x) (h : List Int) (b : Bool) (q : List Wq) (a1 : Option Addr) (c1 : Nat) (a2 : Option Addr) (c2 : Nat) : cur4 (rowL lvC L) (k * 4) (.slice a1 h.length c1) b (.slice a2 q.length c2) = rowL lvC (L.set k (turnV x h b q a1 c1 a2 c2)) := by
  have nx : ∀ (M : List Lv) (y z : Lv), M[k]? = some y → (M.set k z)[k]? = some z := fun M y z hy => by
    rw [List.getElem?_set_self (List.getElem?_eq_some_iff.1 hy).1]
  unfold cur4
  rw [rowL_setg lvC_len (y := ⟨{ x.k with h := h }, a1, c1, x.qa, x.qc⟩) hx (by decide) rfl,
    rowL_setg lvC_len (y := ⟨{ x.k with h := h, wr := b }, a1, c1, x.qa, x.qc⟩) (nx _ _ _ hx) (by decide) rfl,
    rowL_setg lvC_len (y := turnV x h b q a1 c1 a2 c2) (nx _ _ _ (nx _ _ _ hx)) (by decide) rfl]
  simp only [List.set_set]
/-- A lock of the row turned. -/
theorem LoM.turn (h : LoM w base D S P L v c) {k : Nat} {x : Lv} (hx : L[k]? = some x) {g cp : Nat} (J : LoI w base D S P L v g cp k x) {cur : List Value} (hb : w.heap[g]? = some (.cells cur.toArray lkT (0, 0))) (ht : cur.take (L.length * 4) = rowL lvC L) (hcl : cur.length = cp * 4)
    {hh : List Int} {b : Bool} {q : List Wq} {a1 a2 : Option Addr} {c1 c2 : Nat} (I : LkS w w' D g (k * 4) v cur P' c' hh b q a1 c1 a2 c2) (hP : ∀ b, P b → P' b) (hP' : ∀ b, P' b → P b ∨ w.heap.size ≤ b ∧ b < w'.heap.size) :
    LoM w' base D (fun b => S b ∨ P' b) P' (L.set k (turnV x hh b q a1 c1 a2 c2)) v c' ∧ Kept w w' S (fun b => S b ∨ P' b) := by
  have hform := J.form
  subst hform
  obtain ⟨cur2, h1, h2, h3, h4, h5, h6⟩ := own_open h.own
  have hcc : cur2 = cur := by
    rw [hb] at h1
    injection h1 with h1
    injection h1 with h1
    exact (congrArg Array.toList h1).symm
  subst hcc
  obtain ⟨hk, hv⟩ := List.getElem?_eq_some_iff.1 hx
  have hsz := I.k.size
  refine ⟨⟨I.d, ?_, fun y hy => ?_, fun b hb => ?_, h.lo, fun b => ?_⟩, ⟨I.k.os, I.k.tape, I.k.output, I.k.size, fun b hb => ?_, fun b hb hn => I.k.kept b hb (fun e => ?_)⟩⟩
  · rw [List.length_set]
    refine own_shut I.blk h2 h3 h4 (by rw [cur4_len]; exact h5) ?_ ?_
    · rw [← turn_row hx, ← h6]
      unfold cur4
      rw [List.take_set, List.take_set, List.take_set]
    · rw [rowL_length lvC_len, List.length_set]
  · rcases List.mem_or_eq_of_mem_set hy with hy | rfl
    · refine ((h.hq y hy).keep hsz fun b hb hbD => I.k.kept b (h.pb b hb).2.1 (fun e => ?_)).grow hP
      rcases e with e | e
      · exact hbD e
      · exact J.gs.2.2.2 (by rw [← e]; exact hb)
    · exact ⟨I.hr, I.qr⟩
  · refine ⟨?_, (I.pb b hb).1, (I.pb b hb).2.1, fun e => (I.pb b hb).2.2 ?_⟩
    · rcases hP' b hb with h7 | h7
      · exact (h.pb b h7).1
      · have := h.lo
        have := lt_of_block h.blk
        omega
    · have e : some g = some b := e
      exact (Option.some.inj e).symm
  · constructor
    · rintro (e | e)
      · rcases (h.set b).1 e with e | e | e
        · exact Or.inl e
        · exact Or.inr (Or.inl e)
        · exact Or.inr (Or.inr (hP b e))
      · exact Or.inr (Or.inr e)
    · rintro (e | e | e)
      · exact Or.inl ((h.set b).2 (Or.inl e))
      · exact Or.inl ((h.set b).2 (Or.inr (Or.inl e)))
      · exact Or.inr e
  · rcases hb with hb | hb
    · exact Or.inl hb
    · rcases hP' b hb with h7 | h7
      · exact Or.inl ((h.set b).2 (Or.inr (Or.inr h7)))
      · exact Or.inr h7.1
  · rcases e with e | e
    · exact hn ((h.set b).2 (Or.inl e))
    · rw [e] at hn
      exact hn J.gs.1
/-- The counter, and blocks of one's own. -/
theorem LoM.count (h : LoM w base D S P L v c) (hs : w.heap.size ≤ w'.heap.size) (hk : ∀ b, S b → b ≠ D → w'.heap[b]? = w.heap[b]?) (hd : w'.heap[D]? = some (.cells (lsA v c') lsT (0, 0))) (hP : ∀ b, P b → P' b) (hP' : ∀ b, P' b → P b ∨ w.heap.size ≤ b ∧ b < w'.heap.size) :
    LoM w' base D (fun b => S b ∨ P' b) P' L v c' := by
  have hvb : ∀ g, v.ownBlock = some g → g ≠ D := fun g e e2 => h.ne (by rw [← e2]; exact e)
  refine ⟨hd, own_keep h.own fun g e => hk g ((h.set g).2 (Or.inr (Or.inl e))) (hvb g e), fun x hx => ((h.hq x hx).keep hs fun b hb hbD => hk b ((h.set b).2 (Or.inr (Or.inr hb))) hbD).grow hP, fun b hb => ?_, h.lo, fun b => ?_⟩
  · rcases hP' b hb with h7 | h7
    · exact ⟨(h.pb b h7).1, Nat.lt_of_lt_of_le (h.pb b h7).2.1 hs, (h.pb b h7).2.2⟩
    · have := h.lo
      have := lt_of_block h.blk
      exact ⟨by omega, h7.2, by omega, fun e => by have := (h.own.lt b e).2; omega⟩
  · constructor
    · rintro (e | e)
      · rcases (h.set b).1 e with e | e | e
        · exact Or.inl e
        · exact Or.inr (Or.inl e)
        · exact Or.inr (Or.inr (hP b e))
      · exact Or.inr (Or.inr e)
    · rintro (e | e | e)
      · exact Or.inl ((h.set b).2 (Or.inl e))
      · exact Or.inl ((h.set b).2 (Or.inr (Or.inl e)))
      · exact Or.inr e
end
end Go.Proofs.Ytmfadmhbkgemmaa
/-
  While a lock is asked for: the command's block, the reply's, that of who waits. No condition.
-/
namespace Go.Proofs.Ytmfadmhbkgemmaa
open Go.RowKit

abbrev cmT : TypeId := 31
abbrev cmA (k s n : Int) (nm : ByteArray) (m : Int) : Array Value := #[.int .i64 k, .int .i64 s, .int .i64 n, .string nm, .int .i64 m]
/-- The document's locks, without the bounds. -/
def LoB (w : World) (base D : Nat) (S : Nat → Prop) (c : Int) (l : List Lk) : Prop := ∃ P L v, LoM w base D S P L v c ∧ l = L.map (·.k)
structure AskP (w : World) (base D : Nat) (S : Nat → Prop) (q : Int × List Lk × List SeR × Bool) (e : Ending) (w' : World) : Prop where
  ex : ∃ u S', e = .returned (.tuple #[u, .bool q.2.2.2]) ∧ RowAt rpC w' u q.2.2.1 ∧ LoB w' base D S' q.1 q.2.1 ∧ Kept w w' S S'
/-- A block with a reply. -/
abbrev RpAt (w : World) (B : Nat) (r : SeR) : Prop := w.heap[B]? = some (.cells (rpA r) rpT (0, 0))
theorem RpAt.cell {w : World} {B : Nat} {r : SeR} (h : RpAt w B r) (j : Nat) (u : Value) (hu : (rpC r)[j]? = some u) : w.cell? ⟨B, j, none⟩ = some u := by
  simp only [World.cell?, h]
  simpa [rpC] using hu
theorem RpAt.fz {w : World} {B : Nat} {r : SeR} (h : RpAt w B r) (j : Nat) : w.frozen? ⟨B, j, none⟩ = false := by simp [World.frozen?, h]
theorem RpAt.set {w : World} {B : Nat} {r r' : SeR} (h : RpAt w B r) (j : Nat) (u : Value) (hr : (rpA r).setIfInBounds j u = rpA r') : RpAt (w.setCell ⟨B, j, none⟩ u) B r' := by
  show (w.setCell ⟨B, j, none⟩ u).heap[B]? = _
  rw [heap_setCell_same _ B j _ _ _ h, hr]
theorem wq_n {y : World} {B : Nat} {x : Wq} (h : y.heap[B]? = some (.cells (wqA x) wqT (0, 0))) : y.cell? ⟨B, 1, none⟩ = some (.int .i64 x.n) := by simp [World.cell?, h]
theorem wq_r {y : World} {B : Nat} {x : Wq} (h : y.heap[B]? = some (.cells (wqA x) wqT (0, 0))) : y.cell? ⟨B, 2, none⟩ = some (.bool x.rd) := by simp [World.cell?, h]
/-- The one that is answered. -/
theorem rp_one {w : World} {r : SeR} : RowAt rpC (w.alloc (.cells (rpA r) rpT)) (.slice (some ⟨w.heap.size, 0, none⟩) 1 1) [r] := RowAt.built (heap_alloc_new w _) rfl 1 rfl rfl
theorem LoB.fresh {w w' : World} {base D : Nat} {S : Nat → Prop} {c : Int} {l : List Lk} (h : LoB w base D S c l) (b : Below w.heap.size w w') : LoB w' base D S c l := by
  obtain ⟨P, L, v, hM, e⟩ := h
  exact ⟨P, L, v, hM.fresh b, e⟩
theorem map_set_k (L : List Lv) (i : Nat) (y : Lv) : (L.set i y).map (·.k) = (L.map (·.k)).set i y.k := by rw [List.map_set]
/-- One more waits. -/
theorem LoM.wait {w w8 : World} {base D g cp i : Nat} {S P : Nat → Prop} {L : List Lv} {v : Value} {c : Int} {y : Lv} {cur : List Value} (h : LoM w base D S P L v c) (hy : L[i]? = some y) (J : LoI w base D S P L v g cp i y) (hb : w.heap[g]? = some (.cells cur.toArray lkT (0, 0))) (ht : cur.take (L.length * 4) = rowL lvC L) (hcl : cur.length = cp * 4)
    (K : LkS w w D g (i * 4) v cur P c y.k.h y.k.wr y.k.q y.ha y.hc y.qa y.qc) (b : Below w.heap.size w w8) {x : Wq} {p8 : Option Addr} {n8 c8 : Nat} (o : w8.ownsRow w.heap.size wqT 3 (.slice p8 n8 c8) (y.k.q ++ [x]).length (rowL wqC (y.k.q ++ [x]))) (hn : n8 = (y.k.q ++ [x]).length) :
    ∃ S', LoB (w8.setCell ⟨g, i * 4 + 3, none⟩ (.slice p8 n8 c8)) base D S' c ((L.map (·.k)).set i { y.k with q := y.k.q ++ [x] }) ∧ Kept w (w8.setCell ⟨g, i * 4 + 3, none⟩ (.slice p8 n8 c8)) S S' := by
  subst hn
  have k2 := (K.below b).grow (P' := fun b => P b ∨ w.heap.size ≤ b ∧ b < w8.heap.size) (fun b hb => Or.inl hb) (fun b' hb' => by
    have hd := lt_of_block h.blk
    have hg := J.gs.2.2.1
    rcases hb' with hb' | hb'
    · exact ⟨Nat.lt_of_lt_of_le (K.pb b' hb').1 b.size, (K.pb b' hb').2⟩
    · exact ⟨hb'.2, by omega, by omega⟩)
  have o9 : OwnRow wqC w8 (fun b => P b ∨ w.heap.size ≤ b ∧ b < w8.heap.size) D (.slice p8 (y.k.q ++ [x]).length c8) (y.k.q ++ [x]) := ⟨RowAt.own wqC_len o, fun bk off n cap h0 e => by
    simp only [Value.slice.injEq] at e
    obtain ⟨e1, _, _⟩ := e
    have hlt := o.lt bk (by rw [e1]; rfl)
    have hd := lt_of_block h.blk
    exact ⟨Or.inr hlt, by omega⟩⟩
  have t3 := h.turn hy J hb ht hcl (k2.setQ o9) (fun b hb => Or.inl hb) (fun b hb => by simpa using hb)
  exact ⟨_, ⟨_, _, _, t3.1, by rw [map_set_k]; rfl⟩, t3.2⟩
theorem lkIx_lv {L : List Lv} {nm : ByteArray} {i : Nat} (h : lkIx (L.map (·.k)) nm = some i) : ∃ y : Lv, L[i]? = some y ∧ (L.map (·.k))[i]? = some y.k ∧ y.k.name = nm ∧ i < L.length := by
  obtain ⟨hi, hn⟩ := lkIx_at h
  rw [List.length_map] at hi
  refine ⟨L[i], List.getElem?_eq_getElem hi, by rw [List.getElem?_map, List.getElem?_eq_getElem hi]; rfl, ?_, hi⟩
  rw [List.getElem_map] at hn
  exact hn
end Go.Proofs.Ytmfadmhbkgemmaa
/-
  The document's locks: a lock asked for. The conditions: lists are short, numbers are ints.
-/
namespace Go.Proofs.Ytmfadmhbkgemmaa
open Go.RowKit

section
variable {P : Program} {md : Region.Mode} {Q : Exit → Act → World → Prop} {S : World → Prop} {fuel : Nat} {listed : Array Bool} {a : Act} {w : World} {l : List Oper}
theorem rd4_7 {o0 o1 o2 o3 o4 o5 o6 o7 : Oper} (hr : Region.ready md (o0 :: o1 :: o2 :: o3 :: o4 :: o5 :: o6 :: o7 :: l).toArray listed = [4, 7]) (hw0 : Region.wanted o4 (yielded (o0 :: o1 :: o2 :: o3 :: o4 :: o5 :: o6 :: o7 :: l).toArray a.tmps) = true) (hw1 : Region.wanted o7 (yielded (o0 :: o1 :: o2 :: o3 :: o4 :: o5 :: o6 :: o7 :: l).toArray a.tmps) = true)
    (h0 : ∀ K' : Act → World → Prop, Shut (∀ a w, S w → (S w → wpAnyH P md (o0 :: o1 :: o2 :: o3 :: o4 :: o5 :: o6 :: o7 :: l).toArray Q S fuel (listed.setIfInBounds 4 true) a w) → K' a w) → Oper.wp P o4 a w K' Q)
    (h1 : ∀ K' : Act → World → Prop, Shut (∀ a w, S w → (S w → wpAnyH P md (o0 :: o1 :: o2 :: o3 :: o4 :: o5 :: o6 :: o7 :: l).toArray Q S fuel (listed.setIfInBounds 7 true) a w) → K' a w) → Oper.wp P o7 a w K' Q) : wpAnyH P md (o0 :: o1 :: o2 :: o3 :: o4 :: o5 :: o6 :: o7 :: l).toArray Q S (fuel + 1) listed a w :=
  wpAnyH_ready hr (by simp) (AllReadyH.cons (o := o4) rfl (fun K hK => by rw [if_pos hw0]; exact h0 K hK) (AllReadyH.cons (o := o7) rfl (fun K hK => by rw [if_pos hw1]; exact h1 K hK) AllReadyH.nil))
theorem rd5_7 {o0 o1 o2 o3 o4 o5 o6 o7 : Oper} (hr : Region.ready md (o0 :: o1 :: o2 :: o3 :: o4 :: o5 :: o6 :: o7 :: l).toArray listed = [5, 7]) (hw0 : Region.wanted o5 (yielded (o0 :: o1 :: o2 :: o3 :: o4 :: o5 :: o6 :: o7 :: l).toArray a.tmps) = true) (hw1 : Region.wanted o7 (yielded (o0 :: o1 :: o2 :: o3 :: o4 :: o5 :: o6 :: o7 :: l).toArray a.tmps) = true)
    (h0 : ∀ K' : Act → World → Prop, Shut (∀ a w, S w → (S w → wpAnyH P md (o0 :: o1 :: o2 :: o3 :: o4 :: o5 :: o6 :: o7 :: l).toArray Q S fuel (listed.setIfInBounds 5 true) a w) → K' a w) → Oper.wp P o5 a w K' Q)
    (h1 : ∀ K' : Act → World → Prop, Shut (∀ a w, S w → (S w → wpAnyH P md (o0 :: o1 :: o2 :: o3 :: o4 :: o5 :: o6 :: o7 :: l).toArray Q S fuel (listed.setIfInBounds 7 true) a w) → K' a w) → Oper.wp P o7 a w K' Q) : wpAnyH P md (o0 :: o1 :: o2 :: o3 :: o4 :: o5 :: o6 :: o7 :: l).toArray Q S (fuel + 1) listed a w :=
  wpAnyH_ready hr (by simp) (AllReadyH.cons (o := o5) rfl (fun K hK => by rw [if_pos hw0]; exact h0 K hK) (AllReadyH.cons (o := o7) rfl (fun K hK => by rw [if_pos hw1]; exact h1 K hK) AllReadyH.nil))
end
set_option maxHeartbeats 51200000 in
set_option maxRecDepth 100000 in
theorem loask_any {w : World} {base D : Nat} {S P : Nat → Prop} {L : List Lv} {v : Value} {c : Int} (h : LoM w base D S P L v c) (hl : L.length ≤ 65536) {N : Nat} (hN : N < 65535) (hok : ∀ x ∈ L, LkOk N x.k) (hc0 : 0 ≤ c) (hc1 : c ≤ 18446744073709551615) (k s n : Int) (nm : ByteArray) (m : Int) (hs : okI s) :
    Calls Try.prog 11 #[.pointer (some ⟨D, 0, none⟩), .agg (cmA k s n nm m)] w (AskP w base D S (askL c (L.map (·.k)) k s n nm)) := by
  have HO : Hid (okI s ∧ 0 ≤ c ∧ c ≤ 18446744073709551615) := (show Hid _ from (⟨hs, hc0, hc1⟩ : _ ∧ _ ∧ _))
  have HK : Hid (N < 65535 ∧ ∀ x ∈ L, LkOk N x.k) := (show Hid _ from (⟨hN, hok⟩ : _ ∧ _))
  clear hs hc0 hc1 hN hok
  by_cases h5 : k = 5
  · subst h5
    obtain ⟨e1, e2, e3, e4⟩ := three_blks w (.cells (cmA 5 s n nm m) cmT) (.cells (rpA ⟨s, n, 0, 0, 0⟩) rpT) (.cells (wqA ⟨s, n, false⟩) wqT)
    obtain ⟨W, hW⟩ : ∃ W, W = ((w.alloc (.cells (cmA 5 s n nm m) cmT)).alloc (.cells (rpA ⟨s, n, 0, 0, 0⟩) rpT)).alloc (.cells (wqA ⟨s, n, false⟩) wqT) := ⟨_, rfl⟩
    have bW : Below w.heap.size w W := by rw [hW]; exact (((Below.refl _ w).alloc (Nat.le_refl _) _).alloc (by simp) _).alloc (by simp; omega) _
    rw [← hW] at e1 e2 e3 e4
    have HW : Hid (((w.alloc (.cells #[.int .i64 5, .int .i64 s, .int .i64 n, .string nm, .int .i64 m] cmT)).alloc (.cells #[.int .i64 s, .int .i64 n, .int .i64 0, .int .u64 0, .int .i64 0] rpT)).alloc (.cells #[.int .i64 s, .int .i64 n, .bool false] wqT) = W) := hW.symm
    have HB : Hid (W.heap[w.heap.size]? = some (.cells (cmA 5 s n nm m) cmT (0, 0)) ∧ RpAt W (w.heap.size + 1) ⟨s, n, 0, 0, 0⟩ ∧ W.heap[(w.heap.size + 1 + 1)]? = some (.cells (wqA ⟨s, n, false⟩) wqT (0, 0)) ∧ W.heap.size = w.heap.size + 3) := (show Hid _ from (⟨e1, e2, e3, e4⟩ : _ ∧ _ ∧ _ ∧ _))
    have HM : Hid (LoM W base D S P L v c) := h.fresh bW
    have BW : Hid (Below w.heap.size w W) := bW
    have HSL : Hid (∀ g, S g → g < w.heap.size) := fun g hg => (h.bd g hg).2
    have y1 : W.cell? ⟨w.heap.size, 1, none⟩ = some (.int .i64 s) := by simp [World.cell?, e1]
    have y3 : W.cell? ⟨w.heap.size, 3, none⟩ = some (.string nm) := by simp [World.cell?, e1]
    have HFD : Hid (Calls Try.prog 33 #[.pointer (some ⟨D, 0, none⟩), .string nm] W fun e w' => e = .returned (.int .i64 (ixI (lkIx (L.map (·.k)) nm))) ∧ w' = W) := lofind_any HM.out (by omega) nm
    have HLN : Hid (L.length ≤ 65536) := hl
    obtain ⟨q, hq⟩ : ∃ q, q = askL c (L.map (·.k)) 5 s n nm := ⟨_, rfl⟩
    rw [← hq]
    clear h bW hW e1 e2 e3 e4
    cases hix : lkIx (L.map (·.k)) nm with
    | none =>
      rw [hix] at HFD
      have hqn : q = askN c (L.map (·.k)) ⟨s, n, false⟩ nm := by rw [hq]; unfold askL; rw [if_neg (by decide), hix]; rfl
      clear hq hix
      have l0 := HM.out.cell 0 _ rfl
      obtain ⟨va, vc, hvv⟩ := HM.out.form
      rw [hvv] at l0
      have HVV : Hid _ := hvv
      clear hvv
      by_cases hful : 256 ≤ L.length
      · have t0 : decide ((256 : Int) ≤ (L.length : Int)) = true := decide_eq_true (by omega)
        have t0' : decide (256 ≤ L.length) = true := decide_eq_true hful
        have HQ : Hid (q = (c, L.map (·.k), [⟨s, n, 17, 0, 0⟩], false)) := (show q = (c, L.map (·.k), [⟨s, n, 17, 0, 0⟩], false) from by rw [hqn]; unfold askN; rw [if_pos (by rw [List.length_map]; exact hful)])
        clear hqn hful
        go_enter Try.func11, Try.ntmps11
        go_upto_region 5 with fail
        rw [HW.out]
        have x2 := HB.out.2.1.cell 2 _ rfl
        have f2 := HB.out.2.1.fz 2
        go_upto_region 9 with (go_at_call 33; refine Calls.mono HFD.out ?_; rintro e w1 ⟨rfl, hw1⟩; rw [hw1]; clear hw1)
        obtain ⟨w2, hw2⟩ : ∃ w2, w2 = W.setCell ⟨w.heap.size + 1, 2, none⟩ (.int .i64 17) := ⟨_, rfl⟩
        rw [← hw2]
        have R2 : Hid (RpAt w2 (w.heap.size + 1) ⟨s, n, 17, 0, 0⟩) := by rw [hw2]; exact HB.out.2.1.set 2 _ rfl
        have B2 : Hid (Below w.heap.size w w2) := by rw [hw2]; exact BW.out.setCell (by show w.heap.size ≤ w.heap.size + 1; omega) _
        have M2 : Hid (LoB w2 base D S c (L.map (·.k))) := by rw [hw2]; exact ⟨P, L, v, HM.out.keep (by simp) (fun g hg => heap_setCell_other _ _ _ _ (fun e => by have e : g = w.heap.size + 1 := e; have := HSL.out g hg; omega)), rfl⟩
        clear hw2 y1 y3 l0 t0 t0' x2 f2
        have y0 := R2.out.cell 0 _ rfl
        have y1 := R2.out.cell 1 _ rfl
        have y2 := R2.out.cell 2 _ rfl
        have y3 := R2.out.cell 3 _ rfl
        have y4 := R2.out.cell 4 _ rfl
        go_wp2_with fail
        go_ret2
        rw [HQ.out]
        exact ⟨.slice (some ⟨w2.heap.size, 0, none⟩) 1 1, _, rfl, (rp_one : RowAt rpC (w2.alloc (.cells (rpA (⟨s, n, 17, 0, 0⟩)) rpT)) _ [(⟨s, n, 17, 0, 0⟩)]), LoB.fresh M2.out ((Below.refl _ _).alloc (Nat.le_refl _) _), (Kept.of B2.out).trans (Kept.of ((Below.refl _ _).alloc (Nat.le_refl _) _))⟩
      · have t0 : decide ((256 : Int) ≤ (L.length : Int)) = false := decide_eq_false (by omega)
        have t0' : decide (256 ≤ L.length) = false := decide_eq_false hful
        obtain ⟨g, hg⟩ : ∃ g, g = giveH c [] false ⟨s, n, false⟩ := ⟨_, rfl⟩
        have HQ0 : Hid (q = (g.1, if g.2.2.2.err = 0 then addL (L.map (·.k)) ⟨nm, g.2.1, g.2.2.1, []⟩ else L.map (·.k), [g.2.2.2], false)) := (show q = _ from by rw [hqn, hg]; unfold askN; rw [if_neg (by rw [List.length_map]; exact hful)])
        have HFU : Hid (L.length < 256) := (show L.length < 256 from by omega)
        have HGD : Hid (g = giveH c [] false ⟨s, n, false⟩) := hg
        clear hqn hful hg
        go_enter Try.func11, Try.ntmps11
        go_upto_region 5 with fail
        rw [HW.out]
        go_upto_region 11 with (go_at_call 33; refine Calls.mono HFD.out ?_; rintro e w1 ⟨rfl, hw1⟩; rw [hw1]; clear hw1)
        obtain ⟨w2, hw2⟩ : ∃ w2, w2 = W.alloc (.cells #[.string nm, .slice none 0 0, .bool false, .slice none 0 0] lkT) := ⟨_, rfl⟩
        have b2 : Below W.heap.size W w2 := by rw [hw2]; exact (Below.refl _ W).alloc (Nat.le_refl _) _
        have x2 : w2.heap[W.heap.size]? = some (.cells #[.string nm, .slice none 0 0, .bool false, .slice none 0 0] lkT (0, 0)) := by rw [hw2]; exact heap_alloc_new W _
        rw [show W.alloc (.cells #[.string nm, .slice none 0 0, .bool false, .slice none 0 0] lkT) = w2 from hw2.symm]
        have hs2 : W.heap.size < w2.heap.size := lt_of_block x2
        have M2 : Hid (LoM w2 base D S P L v c) := HM.out.fresh b2
        have hWs := HB.out.2.2.2
        have hDW := lt_of_block HM.out.blk
        have hDw : D < w.heap.size := HSL.out D ((HM.out.set D).2 (Or.inl rfl))
        have K2 : LkS w2 w2 D W.heap.size 0 v [.string nm, .slice none 0 0, .bool false, .slice none 0 0] P c [] false [] none 0 none 0 := ⟨x2, OwnRow.nil _ _ _, OwnRow.nil _ _ _, Kept.refl _ _, M2.out.blk, fun b hb => ⟨(M2.out.pb b hb).2.1, (M2.out.pb b hb).2.2.1, by have := (HM.out.pb b hb).2.1; omega⟩, ⟨by omega, by omega, hs2⟩, (by show 0 + 3 < 4; decide)⟩
        have HG : Hid (Calls Try.prog 34 #[.pointer (some ⟨D, 0, none⟩), .pointer (some ⟨W.heap.size, 0, none⟩), .agg (wqA ⟨s, n, false⟩)] w2 (LkG w2 D W.heap.size 0 v [.string nm, .slice none 0 0, .bool false, .slice none 0 0] P [] none 0 w2 g)) := by rw [HGD.out]; exact K2.give ⟨s, n, false⟩ (fun a ha => by cases ha) (by decide) HO.out.1 HO.out.2.1 HO.out.2.2
        have q2 : w2.heap[(w.heap.size + 1 + 1)]? = some (.cells (wqA ⟨s, n, false⟩) wqT (0, 0)) := (b2.block _ (by omega)).trans HB.out.2.2.1
        have r2 : RpAt w2 (w.heap.size + 1) ⟨s, n, 0, 0, 0⟩ := (b2.block _ (by omega)).trans HB.out.2.1
        have v0 : w2.cell? ⟨w.heap.size + 1 + 1, 0, none⟩ = some (.int .i64 s) := by simp [World.cell?, q2]
        have v1 : w2.cell? ⟨w.heap.size + 1 + 1, 1, none⟩ = some (.int .i64 n) := by simp [World.cell?, q2]
        have v2 : w2.cell? ⟨w.heap.size + 1 + 1, 2, none⟩ = some (.bool false) := by simp [World.cell?, q2]
        have HZ : Hid (W.heap.size = w.heap.size + 3 ∧ D < w.heap.size ∧ W.heap.size < w2.heap.size ∧ Below W.heap.size W w2) := (show Hid _ from (⟨hWs, hDw, hs2, b2⟩ : _ ∧ _ ∧ _ ∧ _))
        have R2 : Hid (RpAt w2 (w.heap.size + 1) ⟨s, n, 0, 0, 0⟩) := r2
        clear hw2 b2 x2 hs2 hWs hDW hDw K2 q2 r2 y1 y3 l0 t0 t0'
        go_upto_region 12 with (first
          | (show wpList _ _ _ (⟨_, Op.store rpT _ _, _, _, _, _⟩ :: _) _ _; refine store_row_g rfl rpT _ _ rfl (w.heap.size + 1) (rpA g.2.2.2) rfl rfl rpT _ R3.out sizeRp rfl (by simp [Value.oneCell']) ?_; intro w4 h4 g4)
          | (go_at_call 34; refine Calls.mono HG.out ?_; rintro e w3 ⟨⟨a1, c1, rfl, k3⟩, s3, d3⟩; have K3 : Hid _ := k3; have D3 : Hid (w2.heap.size ≤ w3.heap.size ∧ ∀ b, b < w2.heap.size → b ≠ D → b ≠ W.heap.size → w3.heap[b]? = w2.heap[b]?) := (show Hid _ from (⟨s3, d3⟩ : _ ∧ _)); have R3 : Hid (RpAt w3 (w.heap.size + 1) ⟨s, n, 0, 0, 0⟩) := (D3.out.2 _ (by have := HZ.out; omega) (by have := HZ.out; omega) (by have := HZ.out; omega)).trans R2.out; clear k3 s3 d3))
        have R4 : Hid (RpAt w4 (w.heap.size + 1) g.2.2.2) := h4
        have G4 : Hid (w3.grownBy w4 (some (w.heap.size + 1))) := g4
        clear h4 g4 v0 v1 v2 HG
        have hSb : ∀ b, S b → b < w2.heap.size ∧ b ≠ W.heap.size ∧ b < w.heap.size := fun b hb => by have h1 := HSL.out b hb; have h2 := HZ.out; exact ⟨by omega, by omega, h1⟩
        have m3 : LoM w3 base D (fun b => S b ∨ (P b ∨ w2.heap.size ≤ b ∧ b < w3.heap.size)) (fun b => P b ∨ w2.heap.size ≤ b ∧ b < w3.heap.size) L v g.1 := M2.out.count D3.out.1 (fun b hb hbD => D3.out.2 b (hSb b hb).1 hbD (hSb b hb).2.1) K3.out.d (fun b hb => Or.inl hb) (fun b hb => hb)
        have hgr : ∀ b, b < w3.heap.size → b ≠ w.heap.size + 1 → w4.heap[b]? = w3.heap[b]? := fun b hb hn => G4.out.block b hb (fun e => hn (Option.some.inj e))
        have hne : ∀ b, (S b ∨ (P b ∨ w2.heap.size ≤ b ∧ b < w3.heap.size)) → b ≠ w.heap.size + 1 := fun b hb => by
          have h2 := HZ.out
          rcases hb with hb | hb | hb
          · have := (hSb b hb).2.2
            omega
          · have := HSL.out b ((HM.out.set b).2 (Or.inr (Or.inr hb)))
            omega
          · omega
        have M4 : Hid (LoM w4 base D (fun b => S b ∨ (P b ∨ w2.heap.size ≤ b ∧ b < w3.heap.size)) (fun b => P b ∨ w2.heap.size ≤ b ∧ b < w3.heap.size) L v g.1) := m3.keep G4.out.size (fun b hb => hgr b (m3.bd b hb).2 (hne b hb))
        have B4 : Hid (∀ b, b < w.heap.size → b ≠ D → w4.heap[b]? = w.heap[b]?) := fun b hb hbD => by
          have h2 := HZ.out
          have h3 := D3.out.1
          exact (hgr b (by omega) (by omega)).trans ((D3.out.2 b (by omega) hbD (by omega)).trans ((HZ.out.2.2.2.block b (by omega)).trans (BW.out.block b hb)))
        have T4 : Hid (w4.os = w.os ∧ w4.tape = w.tape ∧ w4.output = w.output ∧ w.heap.size ≤ w4.heap.size) := (show Hid _ from (⟨G4.out.os.trans (K3.out.k.os.trans (HZ.out.2.2.2.os.trans BW.out.os)), G4.out.tape.trans (K3.out.k.tape.trans (HZ.out.2.2.2.tape.trans BW.out.tape)), G4.out.output.trans (K3.out.k.output.trans (HZ.out.2.2.2.output.trans BW.out.output)), by have := HZ.out; have := D3.out.1; have := G4.out.size; omega⟩ : _ ∧ _ ∧ _ ∧ _))
        have KP4 : Hid (Kept w w4 S (fun b => S b ∨ (P b ∨ w2.heap.size ≤ b ∧ b < w3.heap.size))) := ⟨T4.out.1, T4.out.2.1, T4.out.2.2.1, T4.out.2.2.2, fun b hb => (by
          have h2 := HZ.out
          rcases hb with hb | hb | hb
          · exact Or.inl hb
          · exact Or.inl ((HM.out.set b).2 (Or.inr (Or.inr hb)))
          · exact Or.inr (by omega)), fun b hb hn => B4.out b hb (fun e => hn (by rw [e]; exact (HM.out.set D).2 (Or.inl rfl)))⟩
        have X4 : Hid (w4.heap[W.heap.size]? = some (.cells #[.string nm, .slice a1 g.2.1.length c1, .bool g.2.2.1, .slice none 0 0] lkT (0, 0))) := (hgr _ (by have := HZ.out; have := D3.out.1; omega) (by have := HZ.out; omega)).trans K3.out.blk
        have HH4 : Hid (OwnRow intC w4 (fun b => P b ∨ w2.heap.size ≤ b ∧ b < w3.heap.size) D (.slice a1 g.2.1.length c1) g.2.1) := K3.out.hr.keep G4.out.size (fun b hb _ => hgr b (K3.out.pb b hb).1 (hne b (Or.inr hb)))
        clear hSb m3 hgr hne
        have y2 := R4.out.cell 2 _ rfl
        by_cases he : g.2.2.2.err = 0
        · have t1 : (g.2.2.2.err == 0) = true := by simpa using he
          obtain ⟨x, hx⟩ : ∃ x : Lv, x = ⟨⟨nm, g.2.1, g.2.2.1, []⟩, a1, c1, none, 0⟩ := ⟨_, rfl⟩
          have HX : Hid (LvAt w4 (fun b => P b ∨ w2.heap.size ≤ b ∧ b < w3.heap.size) D x) := by rw [hx]; exact ⟨HH4.out, OwnRow.nil _ _ _⟩
          have HA : Hid (Calls Try.prog 35 #[.pointer (some ⟨D, 0, none⟩), .agg #[.string nm, .slice a1 g.2.1.length c1, .bool g.2.2.1, .slice none 0 0]] w4 (LoP w4 base D (fun b => S b ∨ (P b ∨ w2.heap.size ≤ b ∧ b < w3.heap.size)) (fun b => P b ∨ w2.heap.size ≤ b ∧ b < w3.heap.size) (addV L x) g.1)) := by have := loadd_any M4.out HLN.out x HX.out; rw [hx] at this ⊢; exact this
          have HXK : Hid (x.k = ⟨nm, g.2.1, g.2.2.1, []⟩) := by rw [hx]; rfl
          have z0 : w4.cell? ⟨W.heap.size, 0, none⟩ = some (.string nm) := by simp [World.cell?, X4.out]
          have z1 : w4.cell? ⟨W.heap.size, 1, none⟩ = some (.slice a1 g.2.1.length c1) := by simp [World.cell?, X4.out]
          have z2 : w4.cell? ⟨W.heap.size, 2, none⟩ = some (.bool g.2.2.1) := by simp [World.cell?, X4.out]
          have z3 : w4.cell? ⟨W.heap.size, 3, none⟩ = some (.slice none 0 0) := by simp [World.cell?, X4.out]
          have HQ : Hid (q = (g.1, addL (L.map (·.k)) ⟨nm, g.2.1, g.2.2.1, []⟩, [g.2.2.2], false)) := (show q = _ from by rw [HQ0.out, if_pos he])
          clear hx he
          go_upto_region 14 with (go_at_call 35; refine Calls.mono HA.out ?_; rintro e w5 ⟨⟨S5, v5, rfl, m5, k5⟩⟩; have M5 : Hid (LoB w5 base D S5 g.1 (addL (L.map (·.k)) ⟨nm, g.2.1, g.2.2.1, []⟩)) := ⟨_, _, _, m5, by rw [addV_map, HXK.out]⟩; have KP5 : Hid (Kept w4 w5 (fun b => S b ∨ (P b ∨ w2.heap.size ≤ b ∧ b < w3.heap.size)) S5) := k5; clear m5 k5)
          have R5 : Hid (RpAt w5 (w.heap.size + 1) g.2.2.2) := (KP5.out.kept _ (lt_of_block R4.out) (fun hb => by
            have h2 := HZ.out
            rcases hb with hb | hb | hb
            · have := HSL.out _ hb
              omega
            · have := HSL.out _ ((HM.out.set _).2 (Or.inr (Or.inr hb)))
              omega
            · omega)).trans R4.out
          clear y2 t1 z0 z1 z2 z3
          have y0 := R5.out.cell 0 _ rfl
          have y1 := R5.out.cell 1 _ rfl
          have y2 := R5.out.cell 2 _ rfl
          have y3 := R5.out.cell 3 _ rfl
          have y4 := R5.out.cell 4 _ rfl
          go_wp2_with fail
          go_ret2
          rw [HQ.out]
          exact ⟨.slice (some ⟨w5.heap.size, 0, none⟩) 1 1, _, rfl, (rp_one : RowAt rpC (w5.alloc (.cells (rpA (g.2.2.2)) rpT)) _ [(g.2.2.2)]), LoB.fresh M5.out ((Below.refl _ _).alloc (Nat.le_refl _) _), (KP4.out.trans KP5.out).trans (Kept.of ((Below.refl _ _).alloc (Nat.le_refl _) _))⟩
        · have t1 : (g.2.2.2.err == 0) = false := by simpa using he
          have HQ : Hid (q = (g.1, L.map (·.k), [g.2.2.2], false)) := (show q = _ from by rw [HQ0.out, if_neg he])
          clear he
          go_upto_region 14 with fail
          clear y2 t1
          have M5 : Hid (LoB w4 base D (fun b => S b ∨ (P b ∨ w2.heap.size ≤ b ∧ b < w3.heap.size)) g.1 (L.map (·.k))) := ⟨_, L, v, M4.out, rfl⟩
          have y0 := R4.out.cell 0 _ rfl
          have y1 := R4.out.cell 1 _ rfl
          have y2 := R4.out.cell 2 _ rfl
          have y3 := R4.out.cell 3 _ rfl
          have y4 := R4.out.cell 4 _ rfl
          go_wp2_with fail
          go_ret2
          rw [HQ.out]
          exact ⟨.slice (some ⟨w4.heap.size, 0, none⟩) 1 1, _, rfl, (rp_one : RowAt rpC (w4.alloc (.cells (rpA (g.2.2.2)) rpT)) _ [(g.2.2.2)]), LoB.fresh M5.out ((Below.refl _ _).alloc (Nat.le_refl _) _), KP4.out.trans (Kept.of ((Below.refl _ _).alloc (Nat.le_refl _) _))⟩
    | some i =>
      rw [hix, show ixI (some i) = (i : Int) from rfl] at HFD
      obtain ⟨y, hy, hyk, _, hi⟩ := lkIx_lv hix
      have hqs : q = askS c (L.map (·.k)) i y.k ⟨s, n, false⟩ := by rw [hq]; unfold askL; rw [if_neg (by decide), hix]; show (match (L.map (·.k))[i]? with | none => _ | some z => _) = _; rw [hyk]; rfl
      clear hq hix hyk
      obtain ⟨g, cp, J⟩ := HM.out.at hy
      obtain rfl := J.form
      have l0 := HM.out.cell 0 _ rfl
      have j1 : (i : Int) < (L.length : Int) := by omega
      have j1' : decide ((i : Int) < (L.length : Int)) = true := decide_eq_true j1
      have j2 : (0 : Int) ≤ (i : Int) := by omega
      have j3 : decide ((i : Int) < 0) = false := decide_eq_false (by omega)
      have hlen : L.length ≤ 65536 := HLN.out
      have HY : Hid (L[i]? = some y ∧ LkOk N y.k) := (show Hid _ from (⟨hy, HK.out.2 y (List.mem_of_getElem? hy)⟩ : _ ∧ _))
      have BD : Hid (Below W.heap.size W W.drew) := (Below.refl _ W).drew
      have HIN : Hid (Calls Try.prog 36 #[.agg (lvA y), .int .i64 s] W.drew fun e w' => e = .returned (.bool (inK y.k s)) ∧ Below W.drew.heap.size W.drew w') := loin_any ((HM.out.fresh BD.out).hq y (List.mem_of_getElem? hy)) HY.out.2 (by have := HK.out.1; omega) s
      have HS : Hid (∀ z, Below W.heap.size W z → (∀ (j : Nat) (u : Value), (lvC y)[j]? = some u → z.cell? ⟨g, i * 4 + j, none⟩ = some u) ∧ z.cell? ⟨w.heap.size, 1, none⟩ = some (.int .i64 s)) := fun z b => ⟨fun j u hu => (b.cell (p := ⟨g, i * 4 + j, none⟩) (by exact J.gs.2.2.1)).trans (J.cell j u hu), (b.cell (p := ⟨w.heap.size, 1, none⟩) (by show w.heap.size < W.heap.size; have := HB.out.2.2.2; omega)).trans y1⟩
      clear hy J
      cases hin : inK y.k s with
      | true =>
        rw [hin] at HIN
        have HIK : Hid (inK y.k s = true) := hin
        clear hin
        have HQS : Hid _ := hqs
        clear hqs
        go_enter Try.func11, Try.ntmps11
        go_upto_region 5 with fail
        rw [HW.out]
        go_upto_region 16 with (go_at_call 33; refine Calls.mono HFD.out ?_; rintro e w1 ⟨rfl, hw1⟩; rw [hw1]; clear hw1)
        clear y1 y3
        refine wp_region_held_drew (S := (fun z : World => (∀ (j : Nat) (u : Value), (lvC y)[j]? = some u → z.cell? ⟨g, i * 4 + j, none⟩ = some u) ∧ z.cell? ⟨w.heap.size, 1, none⟩ = some (.int .i64 s))) (by kernel_rfl) ?_ (fun hHeld0 => ?_)
        · exact HS.out _ (Below.refl _ W).drew
        refine tk0 (.pointer (some ⟨g, i * 4, none⟩)) (by kernel_rfl) (by kernel_rfl) (by kernel_rfl) (fun _ _ _ h => h) rfl (fun w hSw => by (try dsimp only at hSw); have s0 := hSw.1 0 _ rfl; have s1 := hSw.1 1 _ rfl; have s2 := hSw.1 2 _ rfl; have s3 := hSw.1 3 _ rfl; have s4 := hSw.2; rw [Nat.add_zero] at s0; go_simp) (by assumption) ?_
        try simp only [Act.put, List.setIfInBounds_toArray, List.set_cons_zero, List.set_cons_succ]
        refine tk1 (.pointer (some ⟨g, i * 4, none⟩)) (by kernel_rfl) (by kernel_rfl) (by kernel_rfl) (fun _ _ _ h => h) rfl (fun w hSw => by (try dsimp only at hSw); have s0 := hSw.1 0 _ rfl; have s1 := hSw.1 1 _ rfl; have s2 := hSw.1 2 _ rfl; have s3 := hSw.1 3 _ rfl; have s4 := hSw.2; rw [Nat.add_zero] at s0; go_simp) (by assumption) ?_
        try simp only [Act.put, List.setIfInBounds_toArray, List.set_cons_zero, List.set_cons_succ]
        refine tk2 (.agg (lvA y)) (by kernel_rfl) (by kernel_rfl) (by kernel_rfl) (fun _ _ _ h => h) rfl (fun w hSw => by (try dsimp only at hSw); have s0 := hSw.1 0 _ rfl; have s1 := hSw.1 1 _ rfl; have s2 := hSw.1 2 _ rfl; have s3 := hSw.1 3 _ rfl; have s4 := hSw.2; rw [Nat.add_zero] at s0; go_simp) (by assumption) ?_
        try simp only [Act.put, List.setIfInBounds_toArray, List.set_cons_zero, List.set_cons_succ]
        refine tk3 (.pointer (some ⟨w.heap.size, 1, none⟩)) (by kernel_rfl) (by kernel_rfl) (by kernel_rfl) (fun _ _ _ h => h) rfl (fun w hSw => by (try dsimp only at hSw); have s0 := hSw.1 0 _ rfl; have s1 := hSw.1 1 _ rfl; have s2 := hSw.1 2 _ rfl; have s3 := hSw.1 3 _ rfl; have s4 := hSw.2; rw [Nat.add_zero] at s0; go_simp) (by assumption) ?_
        try simp only [Act.put, List.setIfInBounds_toArray, List.set_cons_zero, List.set_cons_succ]
        refine tk4 (.int .i64 s) (by kernel_rfl) (by kernel_rfl) (by kernel_rfl) (fun _ _ _ h => h) rfl (fun w hSw => by (try dsimp only at hSw); have s0 := hSw.1 0 _ rfl; have s1 := hSw.1 1 _ rfl; have s2 := hSw.1 2 _ rfl; have s3 := hSw.1 3 _ rfl; have s4 := hSw.2; rw [Nat.add_zero] at s0; go_simp) (by assumption) ?_
        try simp only [Act.put, List.setIfInBounds_toArray, List.set_cons_zero, List.set_cons_succ]
        refine cl5 (by kernel_rfl) rfl (fun K hK => ?_)
        go_simp
        go_at_call 36
        refine Calls.mono HIN.out ?_
        rintro e w1 ⟨rfl, b1⟩
        have B1 : Hid (Below W.heap.size W w1) := undrew b1
        clear b1
        refine hK.out _ _ ?_ (fun hHeld => ?_)
        · exact HS.out _ B1.out
        clear hK K
        try simp only [Act.put, List.setIfInBounds_toArray, List.set_cons_zero, List.set_cons_succ]
        refine wpAnyH_done (by kernel_rfl) ?_ _
        have R1 : Hid (RpAt w1 (w.heap.size + 1) ⟨s, n, 0, 0, 0⟩) := (B1.out.block _ (by have := HB.out.2.2.2; omega)).trans HB.out.2.1
        have Q1 : Hid (w1.heap[(w.heap.size + 1 + 1)]? = some (.cells (wqA ⟨s, n, false⟩) wqT (0, 0))) := (B1.out.block _ (by have := HB.out.2.2.2; omega)).trans HB.out.2.2.1
        have M1 : Hid (LoM w1 base D S P L (.slice (some ⟨g, 0, none⟩) L.length cp) c) := HM.out.fresh B1.out
        have BW1 : Hid (Below w.heap.size w w1) := bmm BW.out BW.out.size B1.out
        have HZ1 : Hid (w.heap.size + 3 ≤ w1.heap.size) := (show w.heap.size + 3 ≤ w1.heap.size from by have := HB.out.2.2.2; have := B1.out.size; omega)
        have x2 := R1.out.cell 2 _ rfl
        have f2 := R1.out.fz 2
        have HQ : Hid (q = (c, L.map (·.k), [⟨s, n, 12, 0, 0⟩], false)) := (show q = _ from by rw [HQS.out]; unfold askS; rw [if_pos HIK.out])
        go_upto_region 18 with fail
        obtain ⟨w2, hw2⟩ : ∃ w2, w2 = w1.setCell ⟨w.heap.size + 1, 2, none⟩ (.int .i64 12) := ⟨_, rfl⟩
        rw [← hw2]
        have R2 : Hid (RpAt w2 (w.heap.size + 1) ⟨s, n, 12, 0, 0⟩) := by rw [hw2]; exact R1.out.set 2 _ rfl
        have B2 : Hid (Below w.heap.size w w2) := by rw [hw2]; exact BW1.out.setCell (by show w.heap.size ≤ w.heap.size + 1; omega) _
        have M2 : Hid (LoB w2 base D S c (L.map (·.k))) := by rw [hw2]; exact ⟨P, L, _, M1.out.keep (by simp) (fun b hb => heap_setCell_other _ _ _ _ (fun e => by have e : b = w.heap.size + 1 := e; have := HSL.out b hb; omega)), rfl⟩
        clear hw2 x2 f2
        have y0 := R2.out.cell 0 _ rfl
        have y1 := R2.out.cell 1 _ rfl
        have y2 := R2.out.cell 2 _ rfl
        have y3 := R2.out.cell 3 _ rfl
        have y4 := R2.out.cell 4 _ rfl
        go_wp2_with fail
        go_ret2
        rw [HQ.out]
        exact ⟨.slice (some ⟨w2.heap.size, 0, none⟩) 1 1, _, rfl, (rp_one : RowAt rpC (w2.alloc (.cells (rpA (⟨s, n, 12, 0, 0⟩)) rpT)) _ [(⟨s, n, 12, 0, 0⟩)]), LoB.fresh M2.out ((Below.refl _ _).alloc (Nat.le_refl _) _), (Kept.of B2.out).trans (Kept.of ((Below.refl _ _).alloc (Nat.le_refl _) _))⟩
      | false =>
        rw [hin] at HIN
        have HIK : Hid (inK y.k s = false) := hin
        clear hin
        have HQS : Hid _ := hqs
        clear hqs
        go_enter Try.func11, Try.ntmps11
        go_upto_region 5 with fail
        rw [HW.out]
        go_upto_region 16 with (go_at_call 33; refine Calls.mono HFD.out ?_; rintro e w1 ⟨rfl, hw1⟩; rw [hw1]; clear hw1)
        clear y1 y3
        refine wp_region_held_drew (S := (fun z : World => (∀ (j : Nat) (u : Value), (lvC y)[j]? = some u → z.cell? ⟨g, i * 4 + j, none⟩ = some u) ∧ z.cell? ⟨w.heap.size, 1, none⟩ = some (.int .i64 s))) (by kernel_rfl) ?_ (fun hHeld0 => ?_)
        · exact HS.out _ (Below.refl _ W).drew
        refine tk0 (.pointer (some ⟨g, i * 4, none⟩)) (by kernel_rfl) (by kernel_rfl) (by kernel_rfl) (fun _ _ _ h => h) rfl (fun w hSw => by (try dsimp only at hSw); have s0 := hSw.1 0 _ rfl; have s1 := hSw.1 1 _ rfl; have s2 := hSw.1 2 _ rfl; have s3 := hSw.1 3 _ rfl; have s4 := hSw.2; rw [Nat.add_zero] at s0; go_simp) (by assumption) ?_
        try simp only [Act.put, List.setIfInBounds_toArray, List.set_cons_zero, List.set_cons_succ]
        refine tk1 (.pointer (some ⟨g, i * 4, none⟩)) (by kernel_rfl) (by kernel_rfl) (by kernel_rfl) (fun _ _ _ h => h) rfl (fun w hSw => by (try dsimp only at hSw); have s0 := hSw.1 0 _ rfl; have s1 := hSw.1 1 _ rfl; have s2 := hSw.1 2 _ rfl; have s3 := hSw.1 3 _ rfl; have s4 := hSw.2; rw [Nat.add_zero] at s0; go_simp) (by assumption) ?_
        try simp only [Act.put, List.setIfInBounds_toArray, List.set_cons_zero, List.set_cons_succ]
        refine tk2 (.agg (lvA y)) (by kernel_rfl) (by kernel_rfl) (by kernel_rfl) (fun _ _ _ h => h) rfl (fun w hSw => by (try dsimp only at hSw); have s0 := hSw.1 0 _ rfl; have s1 := hSw.1 1 _ rfl; have s2 := hSw.1 2 _ rfl; have s3 := hSw.1 3 _ rfl; have s4 := hSw.2; rw [Nat.add_zero] at s0; go_simp) (by assumption) ?_
        try simp only [Act.put, List.setIfInBounds_toArray, List.set_cons_zero, List.set_cons_succ]
        refine tk3 (.pointer (some ⟨w.heap.size, 1, none⟩)) (by kernel_rfl) (by kernel_rfl) (by kernel_rfl) (fun _ _ _ h => h) rfl (fun w hSw => by (try dsimp only at hSw); have s0 := hSw.1 0 _ rfl; have s1 := hSw.1 1 _ rfl; have s2 := hSw.1 2 _ rfl; have s3 := hSw.1 3 _ rfl; have s4 := hSw.2; rw [Nat.add_zero] at s0; go_simp) (by assumption) ?_
        try simp only [Act.put, List.setIfInBounds_toArray, List.set_cons_zero, List.set_cons_succ]
        refine tk4 (.int .i64 s) (by kernel_rfl) (by kernel_rfl) (by kernel_rfl) (fun _ _ _ h => h) rfl (fun w hSw => by (try dsimp only at hSw); have s0 := hSw.1 0 _ rfl; have s1 := hSw.1 1 _ rfl; have s2 := hSw.1 2 _ rfl; have s3 := hSw.1 3 _ rfl; have s4 := hSw.2; rw [Nat.add_zero] at s0; go_simp) (by assumption) ?_
        try simp only [Act.put, List.setIfInBounds_toArray, List.set_cons_zero, List.set_cons_succ]
        refine cl5 (by kernel_rfl) rfl (fun K hK => ?_)
        go_simp
        go_at_call 36
        refine Calls.mono HIN.out ?_
        rintro e w1 ⟨rfl, b1⟩
        have B1 : Hid (Below W.heap.size W w1) := undrew b1
        clear b1
        refine hK.out _ _ ?_ (fun hHeld => ?_)
        · exact HS.out _ B1.out
        clear hK K
        try simp only [Act.put, List.setIfInBounds_toArray, List.set_cons_zero, List.set_cons_succ]
        refine wpAnyH_done (by kernel_rfl) ?_ _
        have R1 : Hid (RpAt w1 (w.heap.size + 1) ⟨s, n, 0, 0, 0⟩) := (B1.out.block _ (by have := HB.out.2.2.2; omega)).trans HB.out.2.1
        have Q1 : Hid (w1.heap[(w.heap.size + 1 + 1)]? = some (.cells (wqA ⟨s, n, false⟩) wqT (0, 0))) := (B1.out.block _ (by have := HB.out.2.2.2; omega)).trans HB.out.2.2.1
        have M1 : Hid (LoM w1 base D S P L (.slice (some ⟨g, 0, none⟩) L.length cp) c) := HM.out.fresh B1.out
        have BW1 : Hid (Below w.heap.size w w1) := bmm BW.out BW.out.size B1.out
        have HZ1 : Hid (w.heap.size + 3 ≤ w1.heap.size) := (show w.heap.size + 3 ≤ w1.heap.size from by have := HB.out.2.2.2; have := B1.out.size; omega)
        obtain ⟨cells1, _⟩ := HS.out _ B1.out
        have z2 := cells1 2 (.bool y.k.wr) rfl
        have z3 := cells1 3 (.slice y.qa y.k.q.length y.qc) rfl
        have v2 : w1.cell? ⟨w.heap.size + 1 + 1, 2, none⟩ = some (.bool false) := by simp [World.cell?, Q1.out]
        obtain ⟨ql, hql⟩ : ∃ ql, ql = y.k.q.length := ⟨_, rfl⟩
        rw [← hql] at z3
        have HQL : Hid (ql = y.k.q.length) := hql
        clear hql cells1
        cases ql with
        | zero =>
          go_upto_region 22 with fail
          clear z2 z3 v2
          obtain ⟨i1, hi1, hy0, hy1, hy2⟩ := info_parts infoWq
          obtain ⟨g2, cp2, J1⟩ := M1.out.at HY.out.1
          have e2 := J1.form
          simp only [Value.slice.injEq, Option.some.injEq, Addr.mk.injEq, and_true, true_and] at e2
          obtain ⟨rfl, rfl⟩ := e2
          obtain ⟨cur, hb, ht, hcl, K1⟩ := M1.out.lks HY.out.1 J1
          have HQ : Hid (q = (c, (L.map (·.k)).set i { y.k with q := y.k.q ++ [(⟨s, n, false⟩ : Wq)] }, [], true)) := (show q = _ from by rw [HQS.out]; unfold askS; rw [if_neg (by rw [HIK.out]; decide), if_neg (by rintro ⟨_, h, _⟩; cases h)])
          have HT : Hid (w1.heap[g]? = some (.cells cur.toArray lkT (0, 0)) ∧ cur.take (L.length * 4) = rowL lvC L ∧ cur.length = cp * 4 ∧ LoI w1 base D S P L (.slice (some ⟨g, 0, none⟩) L.length cp) g cp i y) := (show Hid _ from (⟨hb, ht, hcl, J1⟩ : _ ∧ _ ∧ _ ∧ _))
          have KK : Hid _ := K1
          have HC : Hid (∀ z, Below w1.heap.size w1 z → z.cell? ⟨g, i * 4 + 3, none⟩ = some (.slice y.qa y.k.q.length y.qc) ∧ z.frozen? ⟨g, i * 4 + 3, none⟩ = false ∧ z.heap[(w.heap.size + 1 + 1)]? = some (.cells (wqA (⟨s, n, false⟩ : Wq)) wqT (0, 0)) ∧ RowAt wqC z (.slice y.qa y.k.q.length y.qc) y.k.q) := fun z b => ⟨(KK.out.below b).cell.2.2, (KK.out.below b).fz _, (b.block _ (by have := HZ1.out; omega)).trans Q1.out, (KK.out.below b).qr.at'⟩
          have HL2 : Hid (y.k.q.length ≤ 65535) := (show y.k.q.length ≤ 65535 from by have := HY.out.2.ql; have := HK.out.1; omega)
          have HXE : Hid ((w.heap.size + 1 + 1) ≠ g) := (show (w.heap.size + 1 + 1) ≠ g from by have := HSL.out g J1.gs.1; omega)
          clear hb ht hcl K1 J1
          refine wp_region_held_drew (S := (fun z : World => z.heap[(w.heap.size + 1 + 1)]? = some (.cells (wqA (⟨s, n, false⟩ : Wq)) wqT (0, 0)))) (by kernel_rfl) ?_ (fun hHeld0 => ?_)
          · exact (HC.out _ (Below.refl _ w1).drew).2.2.1
          refine tk0 (.pointer (some ⟨g, i * 4, none⟩)) (by kernel_rfl) (by kernel_rfl) (by kernel_rfl) (fun _ _ _ h => h) rfl (fun w hSw => by (try dsimp only at hSw); have s0 := hSw; go_simp) (by assumption) ?_
          try simp only [Act.put, List.setIfInBounds_toArray, List.set_cons_zero, List.set_cons_succ]
          refine tk1 (.pointer (some ⟨g, i * 4, none⟩)) (by kernel_rfl) (by kernel_rfl) (by kernel_rfl) (fun _ _ _ h => h) rfl (fun w hSw => by (try dsimp only at hSw); have s0 := hSw; go_simp) (by assumption) ?_
          try simp only [Act.put, List.setIfInBounds_toArray, List.set_cons_zero, List.set_cons_succ]
          refine tk2 (.pointer (some ⟨g, i * 4, none⟩)) (by kernel_rfl) (by kernel_rfl) (by kernel_rfl) (fun _ _ _ h => h) rfl (fun w hSw => by (try dsimp only at hSw); have s0 := hSw; go_simp) (by assumption) ?_
          try simp only [Act.put, List.setIfInBounds_toArray, List.set_cons_zero, List.set_cons_succ]
          refine tk3 (.pointer (some ⟨g, i * 4 + 3, none⟩)) (by kernel_rfl) (by kernel_rfl) (by kernel_rfl) (fun _ _ _ h => h) rfl (fun w hSw => by (try dsimp only at hSw); have s0 := hSw; go_simp) (by assumption) ?_
          try simp only [Act.put, List.setIfInBounds_toArray, List.set_cons_zero, List.set_cons_succ]
          refine tk6 (.agg (wqA (⟨s, n, false⟩ : Wq))) (by kernel_rfl) (by kernel_rfl) (by kernel_rfl) (fun _ _ _ h => h) rfl (fun w hSw => by (try dsimp only at hSw); have s0 := hSw; have a0 := wq_s s0; have a1 := wq_n s0; have a2 := wq_r s0; go_simp) (by assumption) ?_
          try simp only [Act.put, List.setIfInBounds_toArray, List.set_cons_zero, List.set_cons_succ]
          refine rd4_7 (by kernel_rfl) rfl rfl (fun K hK => ?_) (fun K hK => ?_)
          · have c1 := (HC.out w1.drew (Below.refl _ w1).drew).1
            go_simp
            refine hK.out _ _ ?_ (fun hHeld => ?_)
            · exact (HC.out _ (Below.refl _ w1).drew).2.2.1
            clear hK K
            try simp only [Act.put, List.setIfInBounds_toArray, List.set_cons_zero, List.set_cons_succ]
            refine rd5_7 (by kernel_rfl) rfl rfl (fun K hK => ?_) (fun K hK => ?_)
            · refine wp_app_row (k := 3) (enc := wqC) (l := y.k.q) (.const (.slice none 0 0)) (.tmp 103) 61 wqT rfl i1 _ 24 Try.underlying61 hi1 hy0 hy1 hy2 rfl (by decide) wqC_len wqC_one (base := w1.heap.size) rfl rfl (World.ownsRow_nil _ _ _ _) (HC.out w1.drew (Below.refl _ w1).drew).2.2.2 (Nat.le_refl _) (by have := HL2.out; omega) (by have := HL2.out; omega) ?_
              intro u5 y5 o5 a5
              have b5 : Below w1.heap.size w1 y5 := ((Below.refl _ w1).drew).trans a5.below
              have o5n : y5.ownsRow w1.heap.size wqT 3 u5 y.k.q.length (rowL wqC y.k.q) := by simpa using o5
              obtain ⟨p5, c5, hu5⟩ := (RowAt.own wqC_len o5n).form
              subst hu5
              have x5 := (HC.out y5 b5).2.2.1
              have O5 : Hid (y5.ownsRow w1.heap.size wqT 3 (.slice p5 y.k.q.length c5) y.k.q.length (rowL wqC y.k.q)) := o5n
              have B5 : Hid (Below w1.heap.size w1 y5) := b5
              clear o5 a5 b5 o5n
              refine hK.out _ _ ?_ (fun hHeld => ?_)
              · exact x5
              clear hK K
              try simp only [Act.put, List.setIfInBounds_toArray, List.set_cons_zero, List.set_cons_succ]
              refine cl7 (by kernel_rfl) rfl (fun K hK => ?_)
              go_simp
              obtain ⟨y57, hy7⟩ : ∃ y, y = y5.alloc (.cells (wqA (⟨s, n, false⟩ : Wq)) wqT) := ⟨_, rfl⟩
              have b7 : Below w1.heap.size w1 y57 := by rw [hy7]; exact (B5.out).alloc B5.out.size _
              have r7 : RowAt wqC y57 (.slice (some ⟨y5.heap.size, 0, none⟩) 1 1) [(⟨s, n, false⟩ : Wq)] := by rw [hy7]; exact RowAt.built (heap_alloc_new y5 _) rfl 1 rfl rfl
              have o5n : y57.ownsRow w1.heap.size wqT 3 (.slice p5 y.k.q.length c5) y.k.q.length (rowL wqC y.k.q) := by rw [hy7]; exact World.ownsRow.alloc O5.out _
              have HY7 : Hid (y5.alloc (.cells #[.int .i64 s, .int .i64 n, .bool false] wqT) = y57) := hy7.symm
              obtain ⟨B7n, hB7⟩ : ∃ B, B = y5.heap.size := ⟨_, rfl⟩
              rw [← hB7] at r7
              have lt7 : B7n < y57.heap.size := by rw [hB7, hy7]; simp
              have ge7 : w1.heap.size ≤ B7n := by rw [hB7]; exact B5.out.size
              rw [HY7.out]
              rw [show y5.heap.size = B7n from hB7.symm]
              have x7 := (HC.out y57 b7).2.2.1
              have O57 : Hid _ := o5n
              clear o5n
              have R7b : Hid (RowAt wqC y57 (.slice (some ⟨B7n, 0, none⟩) 1 1) [(⟨s, n, false⟩ : Wq)] ∧ w1.heap.size ≤ B7n) := (show Hid _ from (⟨r7, ge7⟩ : _ ∧ _))
              have B7 : Hid (Below w1.heap.size w1 y57) := b7
              clear hy7 hB7 b7 r7 lt7 ge7 HY7
              refine hK.out _ _ ?_ (fun hHeld => ?_)
              · exact x7
              clear hK K
              try simp only [Act.put, List.setIfInBounds_toArray, List.set_cons_zero, List.set_cons_succ]
              refine cl8 (by kernel_rfl) rfl (fun K hK => ?_)
              refine wp_app_row (k := 3) (enc := wqC) (l := [(⟨s, n, false⟩ : Wq)]) (.tmp 104) (.tmp 106) 61 wqT rfl i1 _ 24 Try.underlying61 hi1 hy0 hy1 hy2 rfl (by decide) wqC_len wqC_one (base := w1.heap.size) rfl rfl O57.out R7b.out.1 B7.out.size (by have := HL2.out; simp only [List.length_singleton]; omega) (by have := HL2.out; simp only [List.length_singleton]; omega) ?_
              intro u8 y8 o8 a8
              have b8 : Below w1.heap.size w1 y8 := B7.out.trans a8.below
              have o8n : y8.ownsRow w1.heap.size wqT 3 u8 (y.k.q ++ [(⟨s, n, false⟩ : Wq)]).length (rowL wqC (y.k.q ++ [(⟨s, n, false⟩ : Wq)])) := by rw [List.length_append, rowL_append]; exact o8
              obtain ⟨p8, n8, c8, rfl⟩ := own_form o8n
              have hn8 : n8 = (y.k.q ++ [(⟨s, n, false⟩ : Wq)]).length := by obtain ⟨a9, c9, e9⟩ := (RowAt.own wqC_len o8n).form; injection e9
              have c1 := (HC.out y8 b8).1
              have f1 := (HC.out y8 b8).2.1
              have x8 := (HC.out y8 b8).2.2.1
              have O8 : Hid _ := o8n
              have B8 : Hid _ := b8
              have HN8 : Hid (n8 = (y.k.q ++ [(⟨s, n, false⟩ : Wq)]).length) := hn8
              clear o8 a8 o8n b8 hn8
              refine hK.out _ _ ?_ (fun hHeld => ?_)
              · exact x8
              clear hK K
              try simp only [Act.put, List.setIfInBounds_toArray, List.set_cons_zero, List.set_cons_succ]
              refine tk9 (.pointer (some ⟨g, i * 4, none⟩)) (by kernel_rfl) (by kernel_rfl) (by kernel_rfl) (fun _ _ _ h => h) rfl (fun w hSw => by (try dsimp only at hSw); have s0 := hSw; go_simp) (by assumption) ?_
              try simp only [Act.put, List.setIfInBounds_toArray, List.set_cons_zero, List.set_cons_succ]
              refine tk10 (.pointer (some ⟨g, i * 4 + 3, none⟩)) (by kernel_rfl) (by kernel_rfl) (by kernel_rfl) (fun _ _ _ h => h) rfl (fun w hSw => by (try dsimp only at hSw); have s0 := hSw; go_simp) (by assumption) ?_
              try simp only [Act.put, List.setIfInBounds_toArray, List.set_cons_zero, List.set_cons_succ]
              refine cl11 (by kernel_rfl) rfl (fun K hK => ?_)
              go_simp
              refine hK.out _ _ ?_ (fun hHeld => ?_)
              · exact (heap_setCell_other _ _ _ _ (fun e9 => HXE.out e9)).trans x8
              clear hK K
              try simp only [Act.put, List.setIfInBounds_toArray, List.set_cons_zero, List.set_cons_succ]
              refine wpAnyH_done (by kernel_rfl) ?_ _
              obtain ⟨S9, m9, k9⟩ := M1.out.wait HY.out.1 HT.out.2.2.2 HT.out.1 HT.out.2.1 HT.out.2.2.1 KK.out B8.out O8.out HN8.out
              obtain ⟨y9, hy9⟩ : ∃ z, z = y8.setCell ⟨g, i * 4 + 3, none⟩ (.slice p8 n8 c8) := ⟨_, rfl⟩
              rw [← hy9]
              rw [← hy9] at m9 k9
              have FQ : Hid (AskP w base D S q (.returned (.tuple #[.slice none 0 0, .bool true])) y9) := (show AskP w base D S q _ y9 from by rw [HQ.out]; exact ⟨_, S9, rfl, RowAt.nil _, m9, (Kept.of BW1.out).trans k9⟩)
              clear m9 k9 hy9 c1 f1 x8
              go_wp2
              go_ret2
              exact FQ.out
            · go_simp
              obtain ⟨y7, hy7⟩ : ∃ y, y = w1.drew.alloc (.cells (wqA (⟨s, n, false⟩ : Wq)) wqT) := ⟨_, rfl⟩
              have b7 : Below w1.heap.size w1 y7 := by rw [hy7]; exact ((Below.refl _ w1).drew).alloc (Nat.le_refl _) _
              have r7 : RowAt wqC y7 (.slice (some ⟨w1.drew.heap.size, 0, none⟩) 1 1) [(⟨s, n, false⟩ : Wq)] := by rw [hy7]; exact RowAt.built (heap_alloc_new w1.drew _) rfl 1 rfl rfl
              have HY7 : Hid (w1.drew.alloc (.cells #[.int .i64 s, .int .i64 n, .bool false] wqT) = y7) := hy7.symm
              obtain ⟨B7n, hB7⟩ : ∃ B, B = w1.drew.heap.size := ⟨_, rfl⟩
              rw [← hB7] at r7
              have lt7 : B7n < y7.heap.size := by rw [hB7, hy7]; simp
              have ge7 : w1.heap.size ≤ B7n := by rw [hB7]; exact (Nat.le_refl _)
              rw [show (w1.alloc (.cells #[.int .i64 s, .int .i64 n, .bool false] wqT)).drew = y7 from hy7.symm]
              rw [show w1.heap.size = B7n from hB7.symm]
              have x7 := (HC.out y7 b7).2.2.1
              have c1 := (HC.out y7 b7).1
              have R7 : Hid (RowAt wqC y7 (.slice (some ⟨B7n, 0, none⟩) 1 1) [(⟨s, n, false⟩ : Wq)] ∧ w1.heap.size ≤ B7n ∧ B7n < y7.heap.size) := (show Hid _ from (⟨r7, ge7, lt7⟩ : _ ∧ _ ∧ _))
              have B7 : Hid (Below w1.heap.size w1 y7) := b7
              clear hy7 hB7 b7 r7 lt7 ge7 HY7
              refine hK.out _ _ ?_ (fun hHeld => ?_)
              · exact x7
              clear hK K
              try simp only [Act.put, List.setIfInBounds_toArray, List.set_cons_zero, List.set_cons_succ]
              refine cl5 (by kernel_rfl) rfl (fun K hK => ?_)
              refine wp_app_row (k := 3) (enc := wqC) (l := y.k.q) (.const (.slice none 0 0)) (.tmp 103) 61 wqT rfl i1 _ 24 Try.underlying61 hi1 hy0 hy1 hy2 rfl (by decide) wqC_len wqC_one (base := w1.heap.size) rfl rfl (World.ownsRow_nil _ _ _ _) (HC.out y7 B7.out).2.2.2 B7.out.size (by have := HL2.out; omega) (by have := HL2.out; omega) ?_
              intro u5 y57 o5 a5
              have b5 : Below w1.heap.size w1 y57 := (B7.out).trans a5.below
              have o5n : y57.ownsRow w1.heap.size wqT 3 u5 y.k.q.length (rowL wqC y.k.q) := by simpa using o5
              obtain ⟨p5, c5, hu5⟩ := (RowAt.own wqC_len o5n).form
              subst hu5
              have x5 := (HC.out y57 b5).2.2.1
              have O5 : Hid (y57.ownsRow w1.heap.size wqT 3 (.slice p5 y.k.q.length c5) y.k.q.length (rowL wqC y.k.q)) := o5n
              have R7b : Hid (RowAt wqC y57 (.slice (some ⟨B7n, 0, none⟩) 1 1) [(⟨s, n, false⟩ : Wq)] ∧ w1.heap.size ≤ B7n) := (show Hid _ from (⟨R7.out.1.keep a5.below.size (fun bk off n c h0 e9 => by injection e9 with e9 _ _; injection e9 with e9; injection e9 with e9 _ _; rw [← e9]; exact a5.rest B7n R7.out.2.2 (show some B7n ≠ none by simp)), R7.out.2.1⟩ : _ ∧ _))
              have B5 : Hid (Below w1.heap.size w1 y57) := b5
              clear o5 a5 b5 o5n
              refine hK.out _ _ ?_ (fun hHeld => ?_)
              · exact x5
              clear hK K
              try simp only [Act.put, List.setIfInBounds_toArray, List.set_cons_zero, List.set_cons_succ]
              refine cl8 (by kernel_rfl) rfl (fun K hK => ?_)
              refine wp_app_row (k := 3) (enc := wqC) (l := [(⟨s, n, false⟩ : Wq)]) (.tmp 104) (.tmp 106) 61 wqT rfl i1 _ 24 Try.underlying61 hi1 hy0 hy1 hy2 rfl (by decide) wqC_len wqC_one (base := w1.heap.size) rfl rfl O5.out R7b.out.1 B5.out.size (by have := HL2.out; simp only [List.length_singleton]; omega) (by have := HL2.out; simp only [List.length_singleton]; omega) ?_
              intro u8 y8 o8 a8
              have b8 : Below w1.heap.size w1 y8 := B5.out.trans a8.below
              have o8n : y8.ownsRow w1.heap.size wqT 3 u8 (y.k.q ++ [(⟨s, n, false⟩ : Wq)]).length (rowL wqC (y.k.q ++ [(⟨s, n, false⟩ : Wq)])) := by rw [List.length_append, rowL_append]; exact o8
              obtain ⟨p8, n8, c8, rfl⟩ := own_form o8n
              have hn8 : n8 = (y.k.q ++ [(⟨s, n, false⟩ : Wq)]).length := by obtain ⟨a9, c9, e9⟩ := (RowAt.own wqC_len o8n).form; injection e9
              have c1 := (HC.out y8 b8).1
              have f1 := (HC.out y8 b8).2.1
              have x8 := (HC.out y8 b8).2.2.1
              have O8 : Hid _ := o8n
              have B8 : Hid _ := b8
              have HN8 : Hid (n8 = (y.k.q ++ [(⟨s, n, false⟩ : Wq)]).length) := hn8
              clear o8 a8 o8n b8 hn8
              refine hK.out _ _ ?_ (fun hHeld => ?_)
              · exact x8
              clear hK K
              try simp only [Act.put, List.setIfInBounds_toArray, List.set_cons_zero, List.set_cons_succ]
              refine tk9 (.pointer (some ⟨g, i * 4, none⟩)) (by kernel_rfl) (by kernel_rfl) (by kernel_rfl) (fun _ _ _ h => h) rfl (fun w hSw => by (try dsimp only at hSw); have s0 := hSw; go_simp) (by assumption) ?_
              try simp only [Act.put, List.setIfInBounds_toArray, List.set_cons_zero, List.set_cons_succ]
              refine tk10 (.pointer (some ⟨g, i * 4 + 3, none⟩)) (by kernel_rfl) (by kernel_rfl) (by kernel_rfl) (fun _ _ _ h => h) rfl (fun w hSw => by (try dsimp only at hSw); have s0 := hSw; go_simp) (by assumption) ?_
              try simp only [Act.put, List.setIfInBounds_toArray, List.set_cons_zero, List.set_cons_succ]
              refine cl11 (by kernel_rfl) rfl (fun K hK => ?_)
              go_simp
              refine hK.out _ _ ?_ (fun hHeld => ?_)
              · exact (heap_setCell_other _ _ _ _ (fun e9 => HXE.out e9)).trans x8
              clear hK K
              try simp only [Act.put, List.setIfInBounds_toArray, List.set_cons_zero, List.set_cons_succ]
              refine wpAnyH_done (by kernel_rfl) ?_ _
              obtain ⟨S9, m9, k9⟩ := M1.out.wait HY.out.1 HT.out.2.2.2 HT.out.1 HT.out.2.1 HT.out.2.2.1 KK.out B8.out O8.out HN8.out
              obtain ⟨y9, hy9⟩ : ∃ z, z = y8.setCell ⟨g, i * 4 + 3, none⟩ (.slice p8 n8 c8) := ⟨_, rfl⟩
              rw [← hy9]
              rw [← hy9] at m9 k9
              have FQ : Hid (AskP w base D S q (.returned (.tuple #[.slice none 0 0, .bool true])) y9) := (show AskP w base D S q _ y9 from by rw [HQ.out]; exact ⟨_, S9, rfl, RowAt.nil _, m9, (Kept.of BW1.out).trans k9⟩)
              clear m9 k9 hy9 c1 f1 x8
              go_wp2
              go_ret2
              exact FQ.out
          · go_simp
            obtain ⟨y7, hy7⟩ : ∃ y, y = w1.drew.alloc (.cells (wqA (⟨s, n, false⟩ : Wq)) wqT) := ⟨_, rfl⟩
            have b7 : Below w1.heap.size w1 y7 := by rw [hy7]; exact ((Below.refl _ w1).drew).alloc (Nat.le_refl _) _
            have r7 : RowAt wqC y7 (.slice (some ⟨w1.drew.heap.size, 0, none⟩) 1 1) [(⟨s, n, false⟩ : Wq)] := by rw [hy7]; exact RowAt.built (heap_alloc_new w1.drew _) rfl 1 rfl rfl
            have HY7 : Hid (w1.drew.alloc (.cells #[.int .i64 s, .int .i64 n, .bool false] wqT) = y7) := hy7.symm
            obtain ⟨B7n, hB7⟩ : ∃ B, B = w1.drew.heap.size := ⟨_, rfl⟩
            rw [← hB7] at r7
            have lt7 : B7n < y7.heap.size := by rw [hB7, hy7]; simp
            have ge7 : w1.heap.size ≤ B7n := by rw [hB7]; exact (Nat.le_refl _)
            rw [show (w1.alloc (.cells #[.int .i64 s, .int .i64 n, .bool false] wqT)).drew = y7 from hy7.symm]
            rw [show w1.heap.size = B7n from hB7.symm]
            have x7 := (HC.out y7 b7).2.2.1
            have c1 := (HC.out y7 b7).1
            have R7 : Hid (RowAt wqC y7 (.slice (some ⟨B7n, 0, none⟩) 1 1) [(⟨s, n, false⟩ : Wq)] ∧ w1.heap.size ≤ B7n ∧ B7n < y7.heap.size) := (show Hid _ from (⟨r7, ge7, lt7⟩ : _ ∧ _ ∧ _))
            have B7 : Hid (Below w1.heap.size w1 y7) := b7
            clear hy7 hB7 b7 r7 lt7 ge7 HY7
            refine hK.out _ _ ?_ (fun hHeld => ?_)
            · exact x7
            clear hK K
            try simp only [Act.put, List.setIfInBounds_toArray, List.set_cons_zero, List.set_cons_succ]
            refine cl4 (by kernel_rfl) rfl (fun K hK => ?_)
            go_simp
            refine hK.out _ _ ?_ (fun hHeld => ?_)
            · exact x7
            clear hK K
            try simp only [Act.put, List.setIfInBounds_toArray, List.set_cons_zero, List.set_cons_succ]
            refine cl5 (by kernel_rfl) rfl (fun K hK => ?_)
            refine wp_app_row (k := 3) (enc := wqC) (l := y.k.q) (.const (.slice none 0 0)) (.tmp 103) 61 wqT rfl i1 _ 24 Try.underlying61 hi1 hy0 hy1 hy2 rfl (by decide) wqC_len wqC_one (base := w1.heap.size) rfl rfl (World.ownsRow_nil _ _ _ _) (HC.out y7 B7.out).2.2.2 B7.out.size (by have := HL2.out; omega) (by have := HL2.out; omega) ?_
            intro u5 y57 o5 a5
            have b5 : Below w1.heap.size w1 y57 := (B7.out).trans a5.below
            have o5n : y57.ownsRow w1.heap.size wqT 3 u5 y.k.q.length (rowL wqC y.k.q) := by simpa using o5
            obtain ⟨p5, c5, hu5⟩ := (RowAt.own wqC_len o5n).form
            subst hu5
            have x5 := (HC.out y57 b5).2.2.1
            have O5 : Hid (y57.ownsRow w1.heap.size wqT 3 (.slice p5 y.k.q.length c5) y.k.q.length (rowL wqC y.k.q)) := o5n
            have R7b : Hid (RowAt wqC y57 (.slice (some ⟨B7n, 0, none⟩) 1 1) [(⟨s, n, false⟩ : Wq)] ∧ w1.heap.size ≤ B7n) := (show Hid _ from (⟨R7.out.1.keep a5.below.size (fun bk off n c h0 e9 => by injection e9 with e9 _ _; injection e9 with e9; injection e9 with e9 _ _; rw [← e9]; exact a5.rest B7n R7.out.2.2 (show some B7n ≠ none by simp)), R7.out.2.1⟩ : _ ∧ _))
            have B5 : Hid (Below w1.heap.size w1 y57) := b5
            clear o5 a5 b5 o5n
            refine hK.out _ _ ?_ (fun hHeld => ?_)
            · exact x5
            clear hK K
            try simp only [Act.put, List.setIfInBounds_toArray, List.set_cons_zero, List.set_cons_succ]
            refine cl8 (by kernel_rfl) rfl (fun K hK => ?_)
            refine wp_app_row (k := 3) (enc := wqC) (l := [(⟨s, n, false⟩ : Wq)]) (.tmp 104) (.tmp 106) 61 wqT rfl i1 _ 24 Try.underlying61 hi1 hy0 hy1 hy2 rfl (by decide) wqC_len wqC_one (base := w1.heap.size) rfl rfl O5.out R7b.out.1 B5.out.size (by have := HL2.out; simp only [List.length_singleton]; omega) (by have := HL2.out; simp only [List.length_singleton]; omega) ?_
            intro u8 y8 o8 a8
            have b8 : Below w1.heap.size w1 y8 := B5.out.trans a8.below
            have o8n : y8.ownsRow w1.heap.size wqT 3 u8 (y.k.q ++ [(⟨s, n, false⟩ : Wq)]).length (rowL wqC (y.k.q ++ [(⟨s, n, false⟩ : Wq)])) := by rw [List.length_append, rowL_append]; exact o8
            obtain ⟨p8, n8, c8, rfl⟩ := own_form o8n
            have hn8 : n8 = (y.k.q ++ [(⟨s, n, false⟩ : Wq)]).length := by obtain ⟨a9, c9, e9⟩ := (RowAt.own wqC_len o8n).form; injection e9
            have c1 := (HC.out y8 b8).1
            have f1 := (HC.out y8 b8).2.1
            have x8 := (HC.out y8 b8).2.2.1
            have O8 : Hid _ := o8n
            have B8 : Hid _ := b8
            have HN8 : Hid (n8 = (y.k.q ++ [(⟨s, n, false⟩ : Wq)]).length) := hn8
            clear o8 a8 o8n b8 hn8
            refine hK.out _ _ ?_ (fun hHeld => ?_)
            · exact x8
            clear hK K
            try simp only [Act.put, List.setIfInBounds_toArray, List.set_cons_zero, List.set_cons_succ]
            refine tk9 (.pointer (some ⟨g, i * 4, none⟩)) (by kernel_rfl) (by kernel_rfl) (by kernel_rfl) (fun _ _ _ h => h) rfl (fun w hSw => by (try dsimp only at hSw); have s0 := hSw; go_simp) (by assumption) ?_
            try simp only [Act.put, List.setIfInBounds_toArray, List.set_cons_zero, List.set_cons_succ]
            refine tk10 (.pointer (some ⟨g, i * 4 + 3, none⟩)) (by kernel_rfl) (by kernel_rfl) (by kernel_rfl) (fun _ _ _ h => h) rfl (fun w hSw => by (try dsimp only at hSw); have s0 := hSw; go_simp) (by assumption) ?_
            try simp only [Act.put, List.setIfInBounds_toArray, List.set_cons_zero, List.set_cons_succ]
            refine cl11 (by kernel_rfl) rfl (fun K hK => ?_)
            go_simp
            refine hK.out _ _ ?_ (fun hHeld => ?_)
            · exact (heap_setCell_other _ _ _ _ (fun e9 => HXE.out e9)).trans x8
            clear hK K
            try simp only [Act.put, List.setIfInBounds_toArray, List.set_cons_zero, List.set_cons_succ]
            refine wpAnyH_done (by kernel_rfl) ?_ _
            obtain ⟨S9, m9, k9⟩ := M1.out.wait HY.out.1 HT.out.2.2.2 HT.out.1 HT.out.2.1 HT.out.2.2.1 KK.out B8.out O8.out HN8.out
            obtain ⟨y9, hy9⟩ : ∃ z, z = y8.setCell ⟨g, i * 4 + 3, none⟩ (.slice p8 n8 c8) := ⟨_, rfl⟩
            rw [← hy9]
            rw [← hy9] at m9 k9
            have FQ : Hid (AskP w base D S q (.returned (.tuple #[.slice none 0 0, .bool true])) y9) := (show AskP w base D S q _ y9 from by rw [HQ.out]; exact ⟨_, S9, rfl, RowAt.nil _, m9, (Kept.of BW1.out).trans k9⟩)
            clear m9 k9 hy9 c1 f1 x8
            go_wp2
            go_ret2
            exact FQ.out
        | succ qn =>
          have e1 : (((qn + 1 : Nat) : Int) == 0) = false := by simp; omega
          go_upto_region 22 with fail
          clear z2 z3 v2 e1
          obtain ⟨i1, hi1, hy0, hy1, hy2⟩ := info_parts infoWq
          obtain ⟨g2, cp2, J1⟩ := M1.out.at HY.out.1
          have e2 := J1.form
          simp only [Value.slice.injEq, Option.some.injEq, Addr.mk.injEq, and_true, true_and] at e2
          obtain ⟨rfl, rfl⟩ := e2
          obtain ⟨cur, hb, ht, hcl, K1⟩ := M1.out.lks HY.out.1 J1
          have HQ : Hid (q = (c, (L.map (·.k)).set i { y.k with q := y.k.q ++ [(⟨s, n, false⟩ : Wq)] }, [], true)) := (show q = _ from by rw [HQS.out]; unfold askS; rw [if_neg (by rw [HIK.out]; decide), if_neg (by rintro ⟨h, _⟩; have := HQL.out; omega)])
          have HT : Hid (w1.heap[g]? = some (.cells cur.toArray lkT (0, 0)) ∧ cur.take (L.length * 4) = rowL lvC L ∧ cur.length = cp * 4 ∧ LoI w1 base D S P L (.slice (some ⟨g, 0, none⟩) L.length cp) g cp i y) := (show Hid _ from (⟨hb, ht, hcl, J1⟩ : _ ∧ _ ∧ _ ∧ _))
          have KK : Hid _ := K1
          have HC : Hid (∀ z, Below w1.heap.size w1 z → z.cell? ⟨g, i * 4 + 3, none⟩ = some (.slice y.qa y.k.q.length y.qc) ∧ z.frozen? ⟨g, i * 4 + 3, none⟩ = false ∧ z.heap[(w.heap.size + 1 + 1)]? = some (.cells (wqA (⟨s, n, false⟩ : Wq)) wqT (0, 0)) ∧ RowAt wqC z (.slice y.qa y.k.q.length y.qc) y.k.q) := fun z b => ⟨(KK.out.below b).cell.2.2, (KK.out.below b).fz _, (b.block _ (by have := HZ1.out; omega)).trans Q1.out, (KK.out.below b).qr.at'⟩
          have HL2 : Hid (y.k.q.length ≤ 65535) := (show y.k.q.length ≤ 65535 from by have := HY.out.2.ql; have := HK.out.1; omega)
          have HXE : Hid ((w.heap.size + 1 + 1) ≠ g) := (show (w.heap.size + 1 + 1) ≠ g from by have := HSL.out g J1.gs.1; omega)
          clear hb ht hcl K1 J1
          refine wp_region_held_drew (S := (fun z : World => z.heap[(w.heap.size + 1 + 1)]? = some (.cells (wqA (⟨s, n, false⟩ : Wq)) wqT (0, 0)))) (by kernel_rfl) ?_ (fun hHeld0 => ?_)
          · exact (HC.out _ (Below.refl _ w1).drew).2.2.1
          refine tk0 (.pointer (some ⟨g, i * 4, none⟩)) (by kernel_rfl) (by kernel_rfl) (by kernel_rfl) (fun _ _ _ h => h) rfl (fun w hSw => by (try dsimp only at hSw); have s0 := hSw; go_simp) (by assumption) ?_
          try simp only [Act.put, List.setIfInBounds_toArray, List.set_cons_zero, List.set_cons_succ]
          refine tk1 (.pointer (some ⟨g, i * 4, none⟩)) (by kernel_rfl) (by kernel_rfl) (by kernel_rfl) (fun _ _ _ h => h) rfl (fun w hSw => by (try dsimp only at hSw); have s0 := hSw; go_simp) (by assumption) ?_
          try simp only [Act.put, List.setIfInBounds_toArray, List.set_cons_zero, List.set_cons_succ]
          refine tk2 (.pointer (some ⟨g, i * 4, none⟩)) (by kernel_rfl) (by kernel_rfl) (by kernel_rfl) (fun _ _ _ h => h) rfl (fun w hSw => by (try dsimp only at hSw); have s0 := hSw; go_simp) (by assumption) ?_
          try simp only [Act.put, List.setIfInBounds_toArray, List.set_cons_zero, List.set_cons_succ]
          refine tk3 (.pointer (some ⟨g, i * 4 + 3, none⟩)) (by kernel_rfl) (by kernel_rfl) (by kernel_rfl) (fun _ _ _ h => h) rfl (fun w hSw => by (try dsimp only at hSw); have s0 := hSw; go_simp) (by assumption) ?_
          try simp only [Act.put, List.setIfInBounds_toArray, List.set_cons_zero, List.set_cons_succ]
          refine tk6 (.agg (wqA (⟨s, n, false⟩ : Wq))) (by kernel_rfl) (by kernel_rfl) (by kernel_rfl) (fun _ _ _ h => h) rfl (fun w hSw => by (try dsimp only at hSw); have s0 := hSw; have a0 := wq_s s0; have a1 := wq_n s0; have a2 := wq_r s0; go_simp) (by assumption) ?_
          try simp only [Act.put, List.setIfInBounds_toArray, List.set_cons_zero, List.set_cons_succ]
          refine rd4_7 (by kernel_rfl) rfl rfl (fun K hK => ?_) (fun K hK => ?_)
          · have c1 := (HC.out w1.drew (Below.refl _ w1).drew).1
            go_simp
            refine hK.out _ _ ?_ (fun hHeld => ?_)
            · exact (HC.out _ (Below.refl _ w1).drew).2.2.1
            clear hK K
            try simp only [Act.put, List.setIfInBounds_toArray, List.set_cons_zero, List.set_cons_succ]
            refine rd5_7 (by kernel_rfl) rfl rfl (fun K hK => ?_) (fun K hK => ?_)
            · refine wp_app_row (k := 3) (enc := wqC) (l := y.k.q) (.const (.slice none 0 0)) (.tmp 103) 61 wqT rfl i1 _ 24 Try.underlying61 hi1 hy0 hy1 hy2 rfl (by decide) wqC_len wqC_one (base := w1.heap.size) rfl rfl (World.ownsRow_nil _ _ _ _) (HC.out w1.drew (Below.refl _ w1).drew).2.2.2 (Nat.le_refl _) (by have := HL2.out; omega) (by have := HL2.out; omega) ?_
              intro u5 y5 o5 a5
              have b5 : Below w1.heap.size w1 y5 := ((Below.refl _ w1).drew).trans a5.below
              have o5n : y5.ownsRow w1.heap.size wqT 3 u5 y.k.q.length (rowL wqC y.k.q) := by simpa using o5
              obtain ⟨p5, c5, hu5⟩ := (RowAt.own wqC_len o5n).form
              subst hu5
              have x5 := (HC.out y5 b5).2.2.1
              have O5 : Hid (y5.ownsRow w1.heap.size wqT 3 (.slice p5 y.k.q.length c5) y.k.q.length (rowL wqC y.k.q)) := o5n
              have B5 : Hid (Below w1.heap.size w1 y5) := b5
              clear o5 a5 b5 o5n
              refine hK.out _ _ ?_ (fun hHeld => ?_)
              · exact x5
              clear hK K
              try simp only [Act.put, List.setIfInBounds_toArray, List.set_cons_zero, List.set_cons_succ]
              refine cl7 (by kernel_rfl) rfl (fun K hK => ?_)
              go_simp
              obtain ⟨y57, hy7⟩ : ∃ y, y = y5.alloc (.cells (wqA (⟨s, n, false⟩ : Wq)) wqT) := ⟨_, rfl⟩
              have b7 : Below w1.heap.size w1 y57 := by rw [hy7]; exact (B5.out).alloc B5.out.size _
              have r7 : RowAt wqC y57 (.slice (some ⟨y5.heap.size, 0, none⟩) 1 1) [(⟨s, n, false⟩ : Wq)] := by rw [hy7]; exact RowAt.built (heap_alloc_new y5 _) rfl 1 rfl rfl
              have o5n : y57.ownsRow w1.heap.size wqT 3 (.slice p5 y.k.q.length c5) y.k.q.length (rowL wqC y.k.q) := by rw [hy7]; exact World.ownsRow.alloc O5.out _
              have HY7 : Hid (y5.alloc (.cells #[.int .i64 s, .int .i64 n, .bool false] wqT) = y57) := hy7.symm
              obtain ⟨B7n, hB7⟩ : ∃ B, B = y5.heap.size := ⟨_, rfl⟩
              rw [← hB7] at r7
              have lt7 : B7n < y57.heap.size := by rw [hB7, hy7]; simp
              have ge7 : w1.heap.size ≤ B7n := by rw [hB7]; exact B5.out.size
              rw [HY7.out]
              rw [show y5.heap.size = B7n from hB7.symm]
              have x7 := (HC.out y57 b7).2.2.1
              have O57 : Hid _ := o5n
              clear o5n
              have R7b : Hid (RowAt wqC y57 (.slice (some ⟨B7n, 0, none⟩) 1 1) [(⟨s, n, false⟩ : Wq)] ∧ w1.heap.size ≤ B7n) := (show Hid _ from (⟨r7, ge7⟩ : _ ∧ _))
              have B7 : Hid (Below w1.heap.size w1 y57) := b7
              clear hy7 hB7 b7 r7 lt7 ge7 HY7
              refine hK.out _ _ ?_ (fun hHeld => ?_)
              · exact x7
              clear hK K
              try simp only [Act.put, List.setIfInBounds_toArray, List.set_cons_zero, List.set_cons_succ]
              refine cl8 (by kernel_rfl) rfl (fun K hK => ?_)
              refine wp_app_row (k := 3) (enc := wqC) (l := [(⟨s, n, false⟩ : Wq)]) (.tmp 104) (.tmp 106) 61 wqT rfl i1 _ 24 Try.underlying61 hi1 hy0 hy1 hy2 rfl (by decide) wqC_len wqC_one (base := w1.heap.size) rfl rfl O57.out R7b.out.1 B7.out.size (by have := HL2.out; simp only [List.length_singleton]; omega) (by have := HL2.out; simp only [List.length_singleton]; omega) ?_
              intro u8 y8 o8 a8
              have b8 : Below w1.heap.size w1 y8 := B7.out.trans a8.below
              have o8n : y8.ownsRow w1.heap.size wqT 3 u8 (y.k.q ++ [(⟨s, n, false⟩ : Wq)]).length (rowL wqC (y.k.q ++ [(⟨s, n, false⟩ : Wq)])) := by rw [List.length_append, rowL_append]; exact o8
              obtain ⟨p8, n8, c8, rfl⟩ := own_form o8n
              have hn8 : n8 = (y.k.q ++ [(⟨s, n, false⟩ : Wq)]).length := by obtain ⟨a9, c9, e9⟩ := (RowAt.own wqC_len o8n).form; injection e9
              have c1 := (HC.out y8 b8).1
              have f1 := (HC.out y8 b8).2.1
              have x8 := (HC.out y8 b8).2.2.1
              have O8 : Hid _ := o8n
              have B8 : Hid _ := b8
              have HN8 : Hid (n8 = (y.k.q ++ [(⟨s, n, false⟩ : Wq)]).length) := hn8
              clear o8 a8 o8n b8 hn8
              refine hK.out _ _ ?_ (fun hHeld => ?_)
              · exact x8
              clear hK K
              try simp only [Act.put, List.setIfInBounds_toArray, List.set_cons_zero, List.set_cons_succ]
              refine tk9 (.pointer (some ⟨g, i * 4, none⟩)) (by kernel_rfl) (by kernel_rfl) (by kernel_rfl) (fun _ _ _ h => h) rfl (fun w hSw => by (try dsimp only at hSw); have s0 := hSw; go_simp) (by assumption) ?_
              try simp only [Act.put, List.setIfInBounds_toArray, List.set_cons_zero, List.set_cons_succ]
              refine tk10 (.pointer (some ⟨g, i * 4 + 3, none⟩)) (by kernel_rfl) (by kernel_rfl) (by kernel_rfl) (fun _ _ _ h => h) rfl (fun w hSw => by (try dsimp only at hSw); have s0 := hSw; go_simp) (by assumption) ?_
              try simp only [Act.put, List.setIfInBounds_toArray, List.set_cons_zero, List.set_cons_succ]
              refine cl11 (by kernel_rfl) rfl (fun K hK => ?_)
              go_simp
              refine hK.out _ _ ?_ (fun hHeld => ?_)
              · exact (heap_setCell_other _ _ _ _ (fun e9 => HXE.out e9)).trans x8
              clear hK K
              try simp only [Act.put, List.setIfInBounds_toArray, List.set_cons_zero, List.set_cons_succ]
              refine wpAnyH_done (by kernel_rfl) ?_ _
              obtain ⟨S9, m9, k9⟩ := M1.out.wait HY.out.1 HT.out.2.2.2 HT.out.1 HT.out.2.1 HT.out.2.2.1 KK.out B8.out O8.out HN8.out
              obtain ⟨y9, hy9⟩ : ∃ z, z = y8.setCell ⟨g, i * 4 + 3, none⟩ (.slice p8 n8 c8) := ⟨_, rfl⟩
              rw [← hy9]
              rw [← hy9] at m9 k9
              have FQ : Hid (AskP w base D S q (.returned (.tuple #[.slice none 0 0, .bool true])) y9) := (show AskP w base D S q _ y9 from by rw [HQ.out]; exact ⟨_, S9, rfl, RowAt.nil _, m9, (Kept.of BW1.out).trans k9⟩)
              clear m9 k9 hy9 c1 f1 x8
              go_wp2
              go_ret2
              exact FQ.out
            · go_simp
              obtain ⟨y7, hy7⟩ : ∃ y, y = w1.drew.alloc (.cells (wqA (⟨s, n, false⟩ : Wq)) wqT) := ⟨_, rfl⟩
              have b7 : Below w1.heap.size w1 y7 := by rw [hy7]; exact ((Below.refl _ w1).drew).alloc (Nat.le_refl _) _
              have r7 : RowAt wqC y7 (.slice (some ⟨w1.drew.heap.size, 0, none⟩) 1 1) [(⟨s, n, false⟩ : Wq)] := by rw [hy7]; exact RowAt.built (heap_alloc_new w1.drew _) rfl 1 rfl rfl
              have HY7 : Hid (w1.drew.alloc (.cells #[.int .i64 s, .int .i64 n, .bool false] wqT) = y7) := hy7.symm
              obtain ⟨B7n, hB7⟩ : ∃ B, B = w1.drew.heap.size := ⟨_, rfl⟩
              rw [← hB7] at r7
              have lt7 : B7n < y7.heap.size := by rw [hB7, hy7]; simp
              have ge7 : w1.heap.size ≤ B7n := by rw [hB7]; exact (Nat.le_refl _)
              rw [show (w1.alloc (.cells #[.int .i64 s, .int .i64 n, .bool false] wqT)).drew = y7 from hy7.symm]
              rw [show w1.heap.size = B7n from hB7.symm]
              have x7 := (HC.out y7 b7).2.2.1
              have c1 := (HC.out y7 b7).1
              have R7 : Hid (RowAt wqC y7 (.slice (some ⟨B7n, 0, none⟩) 1 1) [(⟨s, n, false⟩ : Wq)] ∧ w1.heap.size ≤ B7n ∧ B7n < y7.heap.size) := (show Hid _ from (⟨r7, ge7, lt7⟩ : _ ∧ _ ∧ _))
              have B7 : Hid (Below w1.heap.size w1 y7) := b7
              clear hy7 hB7 b7 r7 lt7 ge7 HY7
              refine hK.out _ _ ?_ (fun hHeld => ?_)
              · exact x7
              clear hK K
              try simp only [Act.put, List.setIfInBounds_toArray, List.set_cons_zero, List.set_cons_succ]
              refine cl5 (by kernel_rfl) rfl (fun K hK => ?_)
              refine wp_app_row (k := 3) (enc := wqC) (l := y.k.q) (.const (.slice none 0 0)) (.tmp 103) 61 wqT rfl i1 _ 24 Try.underlying61 hi1 hy0 hy1 hy2 rfl (by decide) wqC_len wqC_one (base := w1.heap.size) rfl rfl (World.ownsRow_nil _ _ _ _) (HC.out y7 B7.out).2.2.2 B7.out.size (by have := HL2.out; omega) (by have := HL2.out; omega) ?_
              intro u5 y57 o5 a5
              have b5 : Below w1.heap.size w1 y57 := (B7.out).trans a5.below
              have o5n : y57.ownsRow w1.heap.size wqT 3 u5 y.k.q.length (rowL wqC y.k.q) := by simpa using o5
              obtain ⟨p5, c5, hu5⟩ := (RowAt.own wqC_len o5n).form
              subst hu5
              have x5 := (HC.out y57 b5).2.2.1
              have O5 : Hid (y57.ownsRow w1.heap.size wqT 3 (.slice p5 y.k.q.length c5) y.k.q.length (rowL wqC y.k.q)) := o5n
              have R7b : Hid (RowAt wqC y57 (.slice (some ⟨B7n, 0, none⟩) 1 1) [(⟨s, n, false⟩ : Wq)] ∧ w1.heap.size ≤ B7n) := (show Hid _ from (⟨R7.out.1.keep a5.below.size (fun bk off n c h0 e9 => by injection e9 with e9 _ _; injection e9 with e9; injection e9 with e9 _ _; rw [← e9]; exact a5.rest B7n R7.out.2.2 (show some B7n ≠ none by simp)), R7.out.2.1⟩ : _ ∧ _))
              have B5 : Hid (Below w1.heap.size w1 y57) := b5
              clear o5 a5 b5 o5n
              refine hK.out _ _ ?_ (fun hHeld => ?_)
              · exact x5
              clear hK K
              try simp only [Act.put, List.setIfInBounds_toArray, List.set_cons_zero, List.set_cons_succ]
              refine cl8 (by kernel_rfl) rfl (fun K hK => ?_)
              refine wp_app_row (k := 3) (enc := wqC) (l := [(⟨s, n, false⟩ : Wq)]) (.tmp 104) (.tmp 106) 61 wqT rfl i1 _ 24 Try.underlying61 hi1 hy0 hy1 hy2 rfl (by decide) wqC_len wqC_one (base := w1.heap.size) rfl rfl O5.out R7b.out.1 B5.out.size (by have := HL2.out; simp only [List.length_singleton]; omega) (by have := HL2.out; simp only [List.length_singleton]; omega) ?_
              intro u8 y8 o8 a8
              have b8 : Below w1.heap.size w1 y8 := B5.out.trans a8.below
              have o8n : y8.ownsRow w1.heap.size wqT 3 u8 (y.k.q ++ [(⟨s, n, false⟩ : Wq)]).length (rowL wqC (y.k.q ++ [(⟨s, n, false⟩ : Wq)])) := by rw [List.length_append, rowL_append]; exact o8
              obtain ⟨p8, n8, c8, rfl⟩ := own_form o8n
              have hn8 : n8 = (y.k.q ++ [(⟨s, n, false⟩ : Wq)]).length := by obtain ⟨a9, c9, e9⟩ := (RowAt.own wqC_len o8n).form; injection e9
              have c1 := (HC.out y8 b8).1
              have f1 := (HC.out y8 b8).2.1
              have x8 := (HC.out y8 b8).2.2.1
              have O8 : Hid _ := o8n
              have B8 : Hid _ := b8
              have HN8 : Hid (n8 = (y.k.q ++ [(⟨s, n, false⟩ : Wq)]).length) := hn8
              clear o8 a8 o8n b8 hn8
              refine hK.out _ _ ?_ (fun hHeld => ?_)
              · exact x8
              clear hK K
              try simp only [Act.put, List.setIfInBounds_toArray, List.set_cons_zero, List.set_cons_succ]
              refine tk9 (.pointer (some ⟨g, i * 4, none⟩)) (by kernel_rfl) (by kernel_rfl) (by kernel_rfl) (fun _ _ _ h => h) rfl (fun w hSw => by (try dsimp only at hSw); have s0 := hSw; go_simp) (by assumption) ?_
              try simp only [Act.put, List.setIfInBounds_toArray, List.set_cons_zero, List.set_cons_succ]
              refine tk10 (.pointer (some ⟨g, i * 4 + 3, none⟩)) (by kernel_rfl) (by kernel_rfl) (by kernel_rfl) (fun _ _ _ h => h) rfl (fun w hSw => by (try dsimp only at hSw); have s0 := hSw; go_simp) (by assumption) ?_
              try simp only [Act.put, List.setIfInBounds_toArray, List.set_cons_zero, List.set_cons_succ]
              refine cl11 (by kernel_rfl) rfl (fun K hK => ?_)
              go_simp
              refine hK.out _ _ ?_ (fun hHeld => ?_)
              · exact (heap_setCell_other _ _ _ _ (fun e9 => HXE.out e9)).trans x8
              clear hK K
              try simp only [Act.put, List.setIfInBounds_toArray, List.set_cons_zero, List.set_cons_succ]
              refine wpAnyH_done (by kernel_rfl) ?_ _
              obtain ⟨S9, m9, k9⟩ := M1.out.wait HY.out.1 HT.out.2.2.2 HT.out.1 HT.out.2.1 HT.out.2.2.1 KK.out B8.out O8.out HN8.out
              obtain ⟨y9, hy9⟩ : ∃ z, z = y8.setCell ⟨g, i * 4 + 3, none⟩ (.slice p8 n8 c8) := ⟨_, rfl⟩
              rw [← hy9]
              rw [← hy9] at m9 k9
              have FQ : Hid (AskP w base D S q (.returned (.tuple #[.slice none 0 0, .bool true])) y9) := (show AskP w base D S q _ y9 from by rw [HQ.out]; exact ⟨_, S9, rfl, RowAt.nil _, m9, (Kept.of BW1.out).trans k9⟩)
              clear m9 k9 hy9 c1 f1 x8
              go_wp2
              go_ret2
              exact FQ.out
          · go_simp
            obtain ⟨y7, hy7⟩ : ∃ y, y = w1.drew.alloc (.cells (wqA (⟨s, n, false⟩ : Wq)) wqT) := ⟨_, rfl⟩
            have b7 : Below w1.heap.size w1 y7 := by rw [hy7]; exact ((Below.refl _ w1).drew).alloc (Nat.le_refl _) _
            have r7 : RowAt wqC y7 (.slice (some ⟨w1.drew.heap.size, 0, none⟩) 1 1) [(⟨s, n, false⟩ : Wq)] := by rw [hy7]; exact RowAt.built (heap_alloc_new w1.drew _) rfl 1 rfl rfl
            have HY7 : Hid (w1.drew.alloc (.cells #[.int .i64 s, .int .i64 n, .bool false] wqT) = y7) := hy7.symm
            obtain ⟨B7n, hB7⟩ : ∃ B, B = w1.drew.heap.size := ⟨_, rfl⟩
            rw [← hB7] at r7
            have lt7 : B7n < y7.heap.size := by rw [hB7, hy7]; simp
            have ge7 : w1.heap.size ≤ B7n := by rw [hB7]; exact (Nat.le_refl _)
            rw [show (w1.alloc (.cells #[.int .i64 s, .int .i64 n, .bool false] wqT)).drew = y7 from hy7.symm]
            rw [show w1.heap.size = B7n from hB7.symm]
            have x7 := (HC.out y7 b7).2.2.1
            have c1 := (HC.out y7 b7).1
            have R7 : Hid (RowAt wqC y7 (.slice (some ⟨B7n, 0, none⟩) 1 1) [(⟨s, n, false⟩ : Wq)] ∧ w1.heap.size ≤ B7n ∧ B7n < y7.heap.size) := (show Hid _ from (⟨r7, ge7, lt7⟩ : _ ∧ _ ∧ _))
            have B7 : Hid (Below w1.heap.size w1 y7) := b7
            clear hy7 hB7 b7 r7 lt7 ge7 HY7
            refine hK.out _ _ ?_ (fun hHeld => ?_)
            · exact x7
            clear hK K
            try simp only [Act.put, List.setIfInBounds_toArray, List.set_cons_zero, List.set_cons_succ]
            refine cl4 (by kernel_rfl) rfl (fun K hK => ?_)
            go_simp
            refine hK.out _ _ ?_ (fun hHeld => ?_)
            · exact x7
            clear hK K
            try simp only [Act.put, List.setIfInBounds_toArray, List.set_cons_zero, List.set_cons_succ]
            refine cl5 (by kernel_rfl) rfl (fun K hK => ?_)
            refine wp_app_row (k := 3) (enc := wqC) (l := y.k.q) (.const (.slice none 0 0)) (.tmp 103) 61 wqT rfl i1 _ 24 Try.underlying61 hi1 hy0 hy1 hy2 rfl (by decide) wqC_len wqC_one (base := w1.heap.size) rfl rfl (World.ownsRow_nil _ _ _ _) (HC.out y7 B7.out).2.2.2 B7.out.size (by have := HL2.out; omega) (by have := HL2.out; omega) ?_
            intro u5 y57 o5 a5
            have b5 : Below w1.heap.size w1 y57 := (B7.out).trans a5.below
            have o5n : y57.ownsRow w1.heap.size wqT 3 u5 y.k.q.length (rowL wqC y.k.q) := by simpa using o5
            obtain ⟨p5, c5, hu5⟩ := (RowAt.own wqC_len o5n).form
            subst hu5
            have x5 := (HC.out y57 b5).2.2.1
            have O5 : Hid (y57.ownsRow w1.heap.size wqT 3 (.slice p5 y.k.q.length c5) y.k.q.length (rowL wqC y.k.q)) := o5n
            have R7b : Hid (RowAt wqC y57 (.slice (some ⟨B7n, 0, none⟩) 1 1) [(⟨s, n, false⟩ : Wq)] ∧ w1.heap.size ≤ B7n) := (show Hid _ from (⟨R7.out.1.keep a5.below.size (fun bk off n c h0 e9 => by injection e9 with e9 _ _; injection e9 with e9; injection e9 with e9 _ _; rw [← e9]; exact a5.rest B7n R7.out.2.2 (show some B7n ≠ none by simp)), R7.out.2.1⟩ : _ ∧ _))
            have B5 : Hid (Below w1.heap.size w1 y57) := b5
            clear o5 a5 b5 o5n
            refine hK.out _ _ ?_ (fun hHeld => ?_)
            · exact x5
            clear hK K
            try simp only [Act.put, List.setIfInBounds_toArray, List.set_cons_zero, List.set_cons_succ]
            refine cl8 (by kernel_rfl) rfl (fun K hK => ?_)
            refine wp_app_row (k := 3) (enc := wqC) (l := [(⟨s, n, false⟩ : Wq)]) (.tmp 104) (.tmp 106) 61 wqT rfl i1 _ 24 Try.underlying61 hi1 hy0 hy1 hy2 rfl (by decide) wqC_len wqC_one (base := w1.heap.size) rfl rfl O5.out R7b.out.1 B5.out.size (by have := HL2.out; simp only [List.length_singleton]; omega) (by have := HL2.out; simp only [List.length_singleton]; omega) ?_
            intro u8 y8 o8 a8
            have b8 : Below w1.heap.size w1 y8 := B5.out.trans a8.below
            have o8n : y8.ownsRow w1.heap.size wqT 3 u8 (y.k.q ++ [(⟨s, n, false⟩ : Wq)]).length (rowL wqC (y.k.q ++ [(⟨s, n, false⟩ : Wq)])) := by rw [List.length_append, rowL_append]; exact o8
            obtain ⟨p8, n8, c8, rfl⟩ := own_form o8n
            have hn8 : n8 = (y.k.q ++ [(⟨s, n, false⟩ : Wq)]).length := by obtain ⟨a9, c9, e9⟩ := (RowAt.own wqC_len o8n).form; injection e9
            have c1 := (HC.out y8 b8).1
            have f1 := (HC.out y8 b8).2.1
            have x8 := (HC.out y8 b8).2.2.1
            have O8 : Hid _ := o8n
            have B8 : Hid _ := b8
            have HN8 : Hid (n8 = (y.k.q ++ [(⟨s, n, false⟩ : Wq)]).length) := hn8
            clear o8 a8 o8n b8 hn8
            refine hK.out _ _ ?_ (fun hHeld => ?_)
            · exact x8
            clear hK K
            try simp only [Act.put, List.setIfInBounds_toArray, List.set_cons_zero, List.set_cons_succ]
            refine tk9 (.pointer (some ⟨g, i * 4, none⟩)) (by kernel_rfl) (by kernel_rfl) (by kernel_rfl) (fun _ _ _ h => h) rfl (fun w hSw => by (try dsimp only at hSw); have s0 := hSw; go_simp) (by assumption) ?_
            try simp only [Act.put, List.setIfInBounds_toArray, List.set_cons_zero, List.set_cons_succ]
            refine tk10 (.pointer (some ⟨g, i * 4 + 3, none⟩)) (by kernel_rfl) (by kernel_rfl) (by kernel_rfl) (fun _ _ _ h => h) rfl (fun w hSw => by (try dsimp only at hSw); have s0 := hSw; go_simp) (by assumption) ?_
            try simp only [Act.put, List.setIfInBounds_toArray, List.set_cons_zero, List.set_cons_succ]
            refine cl11 (by kernel_rfl) rfl (fun K hK => ?_)
            go_simp
            refine hK.out _ _ ?_ (fun hHeld => ?_)
            · exact (heap_setCell_other _ _ _ _ (fun e9 => HXE.out e9)).trans x8
            clear hK K
            try simp only [Act.put, List.setIfInBounds_toArray, List.set_cons_zero, List.set_cons_succ]
            refine wpAnyH_done (by kernel_rfl) ?_ _
            obtain ⟨S9, m9, k9⟩ := M1.out.wait HY.out.1 HT.out.2.2.2 HT.out.1 HT.out.2.1 HT.out.2.2.1 KK.out B8.out O8.out HN8.out
            obtain ⟨y9, hy9⟩ : ∃ z, z = y8.setCell ⟨g, i * 4 + 3, none⟩ (.slice p8 n8 c8) := ⟨_, rfl⟩
            rw [← hy9]
            rw [← hy9] at m9 k9
            have FQ : Hid (AskP w base D S q (.returned (.tuple #[.slice none 0 0, .bool true])) y9) := (show AskP w base D S q _ y9 from by rw [HQ.out]; exact ⟨_, S9, rfl, RowAt.nil _, m9, (Kept.of BW1.out).trans k9⟩)
            clear m9 k9 hy9 c1 f1 x8
            go_wp2
            go_ret2
            exact FQ.out
  by_cases h7 : k = 7
  · subst h7
    obtain ⟨e1, e2, e3, e4⟩ := three_blks w (.cells (cmA 7 s n nm m) cmT) (.cells (rpA ⟨s, n, 0, 0, 0⟩) rpT) (.cells (wqA ⟨s, n, true⟩) wqT)
    obtain ⟨W, hW⟩ : ∃ W, W = ((w.alloc (.cells (cmA 7 s n nm m) cmT)).alloc (.cells (rpA ⟨s, n, 0, 0, 0⟩) rpT)).alloc (.cells (wqA ⟨s, n, true⟩) wqT) := ⟨_, rfl⟩
    have bW : Below w.heap.size w W := by rw [hW]; exact (((Below.refl _ w).alloc (Nat.le_refl _) _).alloc (by simp) _).alloc (by simp; omega) _
    rw [← hW] at e1 e2 e3 e4
    have HW : Hid (((w.alloc (.cells #[.int .i64 7, .int .i64 s, .int .i64 n, .string nm, .int .i64 m] cmT)).alloc (.cells #[.int .i64 s, .int .i64 n, .int .i64 0, .int .u64 0, .int .i64 0] rpT)).alloc (.cells #[.int .i64 s, .int .i64 n, .bool true] wqT) = W) := hW.symm
    have HB : Hid (W.heap[w.heap.size]? = some (.cells (cmA 7 s n nm m) cmT (0, 0)) ∧ RpAt W (w.heap.size + 1) ⟨s, n, 0, 0, 0⟩ ∧ W.heap[(w.heap.size + 1 + 1)]? = some (.cells (wqA ⟨s, n, true⟩) wqT (0, 0)) ∧ W.heap.size = w.heap.size + 3) := (show Hid _ from (⟨e1, e2, e3, e4⟩ : _ ∧ _ ∧ _ ∧ _))
    have HM : Hid (LoM W base D S P L v c) := h.fresh bW
    have BW : Hid (Below w.heap.size w W) := bW
    have HSL : Hid (∀ g, S g → g < w.heap.size) := fun g hg => (h.bd g hg).2
    have y1 : W.cell? ⟨w.heap.size, 1, none⟩ = some (.int .i64 s) := by simp [World.cell?, e1]
    have y3 : W.cell? ⟨w.heap.size, 3, none⟩ = some (.string nm) := by simp [World.cell?, e1]
    have HFD : Hid (Calls Try.prog 33 #[.pointer (some ⟨D, 0, none⟩), .string nm] W fun e w' => e = .returned (.int .i64 (ixI (lkIx (L.map (·.k)) nm))) ∧ w' = W) := lofind_any HM.out (by omega) nm
    have HLN : Hid (L.length ≤ 65536) := hl
    obtain ⟨q, hq⟩ : ∃ q, q = askL c (L.map (·.k)) 7 s n nm := ⟨_, rfl⟩
    rw [← hq]
    clear h bW hW e1 e2 e3 e4
    cases hix : lkIx (L.map (·.k)) nm with
    | none =>
      rw [hix] at HFD
      have hqn : q = askN c (L.map (·.k)) ⟨s, n, true⟩ nm := by rw [hq]; unfold askL; rw [if_neg (by decide), hix]; rfl
      clear hq hix
      have l0 := HM.out.cell 0 _ rfl
      obtain ⟨va, vc, hvv⟩ := HM.out.form
      rw [hvv] at l0
      have HVV : Hid _ := hvv
      clear hvv
      by_cases hful : 256 ≤ L.length
      · have t0 : decide ((256 : Int) ≤ (L.length : Int)) = true := decide_eq_true (by omega)
        have t0' : decide (256 ≤ L.length) = true := decide_eq_true hful
        have HQ : Hid (q = (c, L.map (·.k), [⟨s, n, 17, 0, 0⟩], false)) := (show q = (c, L.map (·.k), [⟨s, n, 17, 0, 0⟩], false) from by rw [hqn]; unfold askN; rw [if_pos (by rw [List.length_map]; exact hful)])
        clear hqn hful
        go_enter Try.func11, Try.ntmps11
        go_upto_region 5 with fail
        rw [HW.out]
        have x2 := HB.out.2.1.cell 2 _ rfl
        have f2 := HB.out.2.1.fz 2
        go_upto_region 9 with (go_at_call 33; refine Calls.mono HFD.out ?_; rintro e w1 ⟨rfl, hw1⟩; rw [hw1]; clear hw1)
        obtain ⟨w2, hw2⟩ : ∃ w2, w2 = W.setCell ⟨w.heap.size + 1, 2, none⟩ (.int .i64 17) := ⟨_, rfl⟩
        rw [← hw2]
        have R2 : Hid (RpAt w2 (w.heap.size + 1) ⟨s, n, 17, 0, 0⟩) := by rw [hw2]; exact HB.out.2.1.set 2 _ rfl
        have B2 : Hid (Below w.heap.size w w2) := by rw [hw2]; exact BW.out.setCell (by show w.heap.size ≤ w.heap.size + 1; omega) _
        have M2 : Hid (LoB w2 base D S c (L.map (·.k))) := by rw [hw2]; exact ⟨P, L, v, HM.out.keep (by simp) (fun g hg => heap_setCell_other _ _ _ _ (fun e => by have e : g = w.heap.size + 1 := e; have := HSL.out g hg; omega)), rfl⟩
        clear hw2 y1 y3 l0 t0 t0' x2 f2
        have y0 := R2.out.cell 0 _ rfl
        have y1 := R2.out.cell 1 _ rfl
        have y2 := R2.out.cell 2 _ rfl
        have y3 := R2.out.cell 3 _ rfl
        have y4 := R2.out.cell 4 _ rfl
        go_wp2_with fail
        go_ret2
        rw [HQ.out]
        exact ⟨.slice (some ⟨w2.heap.size, 0, none⟩) 1 1, _, rfl, (rp_one : RowAt rpC (w2.alloc (.cells (rpA (⟨s, n, 17, 0, 0⟩)) rpT)) _ [(⟨s, n, 17, 0, 0⟩)]), LoB.fresh M2.out ((Below.refl _ _).alloc (Nat.le_refl _) _), (Kept.of B2.out).trans (Kept.of ((Below.refl _ _).alloc (Nat.le_refl _) _))⟩
      · have t0 : decide ((256 : Int) ≤ (L.length : Int)) = false := decide_eq_false (by omega)
        have t0' : decide (256 ≤ L.length) = false := decide_eq_false hful
        obtain ⟨g, hg⟩ : ∃ g, g = giveH c [] false ⟨s, n, true⟩ := ⟨_, rfl⟩
        have HQ0 : Hid (q = (g.1, if g.2.2.2.err = 0 then addL (L.map (·.k)) ⟨nm, g.2.1, g.2.2.1, []⟩ else L.map (·.k), [g.2.2.2], false)) := (show q = _ from by rw [hqn, hg]; unfold askN; rw [if_neg (by rw [List.length_map]; exact hful)])
        have HFU : Hid (L.length < 256) := (show L.length < 256 from by omega)
        have HGD : Hid (g = giveH c [] false ⟨s, n, true⟩) := hg
        clear hqn hful hg
        go_enter Try.func11, Try.ntmps11
        go_upto_region 5 with fail
        rw [HW.out]
        go_upto_region 11 with (go_at_call 33; refine Calls.mono HFD.out ?_; rintro e w1 ⟨rfl, hw1⟩; rw [hw1]; clear hw1)
        obtain ⟨w2, hw2⟩ : ∃ w2, w2 = W.alloc (.cells #[.string nm, .slice none 0 0, .bool false, .slice none 0 0] lkT) := ⟨_, rfl⟩
        have b2 : Below W.heap.size W w2 := by rw [hw2]; exact (Below.refl _ W).alloc (Nat.le_refl _) _
        have x2 : w2.heap[W.heap.size]? = some (.cells #[.string nm, .slice none 0 0, .bool false, .slice none 0 0] lkT (0, 0)) := by rw [hw2]; exact heap_alloc_new W _
        rw [show W.alloc (.cells #[.string nm, .slice none 0 0, .bool false, .slice none 0 0] lkT) = w2 from hw2.symm]
        have hs2 : W.heap.size < w2.heap.size := lt_of_block x2
        have M2 : Hid (LoM w2 base D S P L v c) := HM.out.fresh b2
        have hWs := HB.out.2.2.2
        have hDW := lt_of_block HM.out.blk
        have hDw : D < w.heap.size := HSL.out D ((HM.out.set D).2 (Or.inl rfl))
        have K2 : LkS w2 w2 D W.heap.size 0 v [.string nm, .slice none 0 0, .bool false, .slice none 0 0] P c [] false [] none 0 none 0 := ⟨x2, OwnRow.nil _ _ _, OwnRow.nil _ _ _, Kept.refl _ _, M2.out.blk, fun b hb => ⟨(M2.out.pb b hb).2.1, (M2.out.pb b hb).2.2.1, by have := (HM.out.pb b hb).2.1; omega⟩, ⟨by omega, by omega, hs2⟩, (by show 0 + 3 < 4; decide)⟩
        have HG : Hid (Calls Try.prog 34 #[.pointer (some ⟨D, 0, none⟩), .pointer (some ⟨W.heap.size, 0, none⟩), .agg (wqA ⟨s, n, true⟩)] w2 (LkG w2 D W.heap.size 0 v [.string nm, .slice none 0 0, .bool false, .slice none 0 0] P [] none 0 w2 g)) := by rw [HGD.out]; exact K2.give ⟨s, n, true⟩ (fun a ha => by cases ha) (by decide) HO.out.1 HO.out.2.1 HO.out.2.2
        have q2 : w2.heap[(w.heap.size + 1 + 1)]? = some (.cells (wqA ⟨s, n, true⟩) wqT (0, 0)) := (b2.block _ (by omega)).trans HB.out.2.2.1
        have r2 : RpAt w2 (w.heap.size + 1) ⟨s, n, 0, 0, 0⟩ := (b2.block _ (by omega)).trans HB.out.2.1
        have v0 : w2.cell? ⟨w.heap.size + 1 + 1, 0, none⟩ = some (.int .i64 s) := by simp [World.cell?, q2]
        have v1 : w2.cell? ⟨w.heap.size + 1 + 1, 1, none⟩ = some (.int .i64 n) := by simp [World.cell?, q2]
        have v2 : w2.cell? ⟨w.heap.size + 1 + 1, 2, none⟩ = some (.bool true) := by simp [World.cell?, q2]
        have HZ : Hid (W.heap.size = w.heap.size + 3 ∧ D < w.heap.size ∧ W.heap.size < w2.heap.size ∧ Below W.heap.size W w2) := (show Hid _ from (⟨hWs, hDw, hs2, b2⟩ : _ ∧ _ ∧ _ ∧ _))
        have R2 : Hid (RpAt w2 (w.heap.size + 1) ⟨s, n, 0, 0, 0⟩) := r2
        clear hw2 b2 x2 hs2 hWs hDW hDw K2 q2 r2 y1 y3 l0 t0 t0'
        go_upto_region 12 with (first
          | (show wpList _ _ _ (⟨_, Op.store rpT _ _, _, _, _, _⟩ :: _) _ _; refine store_row_g rfl rpT _ _ rfl (w.heap.size + 1) (rpA g.2.2.2) rfl rfl rpT _ R3.out sizeRp rfl (by simp [Value.oneCell']) ?_; intro w4 h4 g4)
          | (go_at_call 34; refine Calls.mono HG.out ?_; rintro e w3 ⟨⟨a1, c1, rfl, k3⟩, s3, d3⟩; have K3 : Hid _ := k3; have D3 : Hid (w2.heap.size ≤ w3.heap.size ∧ ∀ b, b < w2.heap.size → b ≠ D → b ≠ W.heap.size → w3.heap[b]? = w2.heap[b]?) := (show Hid _ from (⟨s3, d3⟩ : _ ∧ _)); have R3 : Hid (RpAt w3 (w.heap.size + 1) ⟨s, n, 0, 0, 0⟩) := (D3.out.2 _ (by have := HZ.out; omega) (by have := HZ.out; omega) (by have := HZ.out; omega)).trans R2.out; clear k3 s3 d3))
        have R4 : Hid (RpAt w4 (w.heap.size + 1) g.2.2.2) := h4
        have G4 : Hid (w3.grownBy w4 (some (w.heap.size + 1))) := g4
        clear h4 g4 v0 v1 v2 HG
        have hSb : ∀ b, S b → b < w2.heap.size ∧ b ≠ W.heap.size ∧ b < w.heap.size := fun b hb => by have h1 := HSL.out b hb; have h2 := HZ.out; exact ⟨by omega, by omega, h1⟩
        have m3 : LoM w3 base D (fun b => S b ∨ (P b ∨ w2.heap.size ≤ b ∧ b < w3.heap.size)) (fun b => P b ∨ w2.heap.size ≤ b ∧ b < w3.heap.size) L v g.1 := M2.out.count D3.out.1 (fun b hb hbD => D3.out.2 b (hSb b hb).1 hbD (hSb b hb).2.1) K3.out.d (fun b hb => Or.inl hb) (fun b hb => hb)
        have hgr : ∀ b, b < w3.heap.size → b ≠ w.heap.size + 1 → w4.heap[b]? = w3.heap[b]? := fun b hb hn => G4.out.block b hb (fun e => hn (Option.some.inj e))
        have hne : ∀ b, (S b ∨ (P b ∨ w2.heap.size ≤ b ∧ b < w3.heap.size)) → b ≠ w.heap.size + 1 := fun b hb => by
          have h2 := HZ.out
          rcases hb with hb | hb | hb
          · have := (hSb b hb).2.2
            omega
          · have := HSL.out b ((HM.out.set b).2 (Or.inr (Or.inr hb)))
            omega
          · omega
        have M4 : Hid (LoM w4 base D (fun b => S b ∨ (P b ∨ w2.heap.size ≤ b ∧ b < w3.heap.size)) (fun b => P b ∨ w2.heap.size ≤ b ∧ b < w3.heap.size) L v g.1) := m3.keep G4.out.size (fun b hb => hgr b (m3.bd b hb).2 (hne b hb))
        have B4 : Hid (∀ b, b < w.heap.size → b ≠ D → w4.heap[b]? = w.heap[b]?) := fun b hb hbD => by
          have h2 := HZ.out
          have h3 := D3.out.1
          exact (hgr b (by omega) (by omega)).trans ((D3.out.2 b (by omega) hbD (by omega)).trans ((HZ.out.2.2.2.block b (by omega)).trans (BW.out.block b hb)))
        have T4 : Hid (w4.os = w.os ∧ w4.tape = w.tape ∧ w4.output = w.output ∧ w.heap.size ≤ w4.heap.size) := (show Hid _ from (⟨G4.out.os.trans (K3.out.k.os.trans (HZ.out.2.2.2.os.trans BW.out.os)), G4.out.tape.trans (K3.out.k.tape.trans (HZ.out.2.2.2.tape.trans BW.out.tape)), G4.out.output.trans (K3.out.k.output.trans (HZ.out.2.2.2.output.trans BW.out.output)), by have := HZ.out; have := D3.out.1; have := G4.out.size; omega⟩ : _ ∧ _ ∧ _ ∧ _))
        have KP4 : Hid (Kept w w4 S (fun b => S b ∨ (P b ∨ w2.heap.size ≤ b ∧ b < w3.heap.size))) := ⟨T4.out.1, T4.out.2.1, T4.out.2.2.1, T4.out.2.2.2, fun b hb => (by
          have h2 := HZ.out
          rcases hb with hb | hb | hb
          · exact Or.inl hb
          · exact Or.inl ((HM.out.set b).2 (Or.inr (Or.inr hb)))
          · exact Or.inr (by omega)), fun b hb hn => B4.out b hb (fun e => hn (by rw [e]; exact (HM.out.set D).2 (Or.inl rfl)))⟩
        have X4 : Hid (w4.heap[W.heap.size]? = some (.cells #[.string nm, .slice a1 g.2.1.length c1, .bool g.2.2.1, .slice none 0 0] lkT (0, 0))) := (hgr _ (by have := HZ.out; have := D3.out.1; omega) (by have := HZ.out; omega)).trans K3.out.blk
        have HH4 : Hid (OwnRow intC w4 (fun b => P b ∨ w2.heap.size ≤ b ∧ b < w3.heap.size) D (.slice a1 g.2.1.length c1) g.2.1) := K3.out.hr.keep G4.out.size (fun b hb _ => hgr b (K3.out.pb b hb).1 (hne b (Or.inr hb)))
        clear hSb m3 hgr hne
        have y2 := R4.out.cell 2 _ rfl
        by_cases he : g.2.2.2.err = 0
        · have t1 : (g.2.2.2.err == 0) = true := by simpa using he
          obtain ⟨x, hx⟩ : ∃ x : Lv, x = ⟨⟨nm, g.2.1, g.2.2.1, []⟩, a1, c1, none, 0⟩ := ⟨_, rfl⟩
          have HX : Hid (LvAt w4 (fun b => P b ∨ w2.heap.size ≤ b ∧ b < w3.heap.size) D x) := by rw [hx]; exact ⟨HH4.out, OwnRow.nil _ _ _⟩
          have HA : Hid (Calls Try.prog 35 #[.pointer (some ⟨D, 0, none⟩), .agg #[.string nm, .slice a1 g.2.1.length c1, .bool g.2.2.1, .slice none 0 0]] w4 (LoP w4 base D (fun b => S b ∨ (P b ∨ w2.heap.size ≤ b ∧ b < w3.heap.size)) (fun b => P b ∨ w2.heap.size ≤ b ∧ b < w3.heap.size) (addV L x) g.1)) := by have := loadd_any M4.out HLN.out x HX.out; rw [hx] at this ⊢; exact this
          have HXK : Hid (x.k = ⟨nm, g.2.1, g.2.2.1, []⟩) := by rw [hx]; rfl
          have z0 : w4.cell? ⟨W.heap.size, 0, none⟩ = some (.string nm) := by simp [World.cell?, X4.out]
          have z1 : w4.cell? ⟨W.heap.size, 1, none⟩ = some (.slice a1 g.2.1.length c1) := by simp [World.cell?, X4.out]
          have z2 : w4.cell? ⟨W.heap.size, 2, none⟩ = some (.bool g.2.2.1) := by simp [World.cell?, X4.out]
          have z3 : w4.cell? ⟨W.heap.size, 3, none⟩ = some (.slice none 0 0) := by simp [World.cell?, X4.out]
          have HQ : Hid (q = (g.1, addL (L.map (·.k)) ⟨nm, g.2.1, g.2.2.1, []⟩, [g.2.2.2], false)) := (show q = _ from by rw [HQ0.out, if_pos he])
          clear hx he
          go_upto_region 14 with (go_at_call 35; refine Calls.mono HA.out ?_; rintro e w5 ⟨⟨S5, v5, rfl, m5, k5⟩⟩; have M5 : Hid (LoB w5 base D S5 g.1 (addL (L.map (·.k)) ⟨nm, g.2.1, g.2.2.1, []⟩)) := ⟨_, _, _, m5, by rw [addV_map, HXK.out]⟩; have KP5 : Hid (Kept w4 w5 (fun b => S b ∨ (P b ∨ w2.heap.size ≤ b ∧ b < w3.heap.size)) S5) := k5; clear m5 k5)
          have R5 : Hid (RpAt w5 (w.heap.size + 1) g.2.2.2) := (KP5.out.kept _ (lt_of_block R4.out) (fun hb => by
            have h2 := HZ.out
            rcases hb with hb | hb | hb
            · have := HSL.out _ hb
              omega
            · have := HSL.out _ ((HM.out.set _).2 (Or.inr (Or.inr hb)))
              omega
            · omega)).trans R4.out
          clear y2 t1 z0 z1 z2 z3
          have y0 := R5.out.cell 0 _ rfl
          have y1 := R5.out.cell 1 _ rfl
          have y2 := R5.out.cell 2 _ rfl
          have y3 := R5.out.cell 3 _ rfl
          have y4 := R5.out.cell 4 _ rfl
          go_wp2_with fail
          go_ret2
          rw [HQ.out]
          exact ⟨.slice (some ⟨w5.heap.size, 0, none⟩) 1 1, _, rfl, (rp_one : RowAt rpC (w5.alloc (.cells (rpA (g.2.2.2)) rpT)) _ [(g.2.2.2)]), LoB.fresh M5.out ((Below.refl _ _).alloc (Nat.le_refl _) _), (KP4.out.trans KP5.out).trans (Kept.of ((Below.refl _ _).alloc (Nat.le_refl _) _))⟩
        · have t1 : (g.2.2.2.err == 0) = false := by simpa using he
          have HQ : Hid (q = (g.1, L.map (·.k), [g.2.2.2], false)) := (show q = _ from by rw [HQ0.out, if_neg he])
          clear he
          go_upto_region 14 with fail
          clear y2 t1
          have M5 : Hid (LoB w4 base D (fun b => S b ∨ (P b ∨ w2.heap.size ≤ b ∧ b < w3.heap.size)) g.1 (L.map (·.k))) := ⟨_, L, v, M4.out, rfl⟩
          have y0 := R4.out.cell 0 _ rfl
          have y1 := R4.out.cell 1 _ rfl
          have y2 := R4.out.cell 2 _ rfl
          have y3 := R4.out.cell 3 _ rfl
          have y4 := R4.out.cell 4 _ rfl
          go_wp2_with fail
          go_ret2
          rw [HQ.out]
          exact ⟨.slice (some ⟨w4.heap.size, 0, none⟩) 1 1, _, rfl, (rp_one : RowAt rpC (w4.alloc (.cells (rpA (g.2.2.2)) rpT)) _ [(g.2.2.2)]), LoB.fresh M5.out ((Below.refl _ _).alloc (Nat.le_refl _) _), KP4.out.trans (Kept.of ((Below.refl _ _).alloc (Nat.le_refl _) _))⟩
    | some i =>
      rw [hix, show ixI (some i) = (i : Int) from rfl] at HFD
      obtain ⟨y, hy, hyk, _, hi⟩ := lkIx_lv hix
      have hqs : q = askS c (L.map (·.k)) i y.k ⟨s, n, true⟩ := by rw [hq]; unfold askL; rw [if_neg (by decide), hix]; show (match (L.map (·.k))[i]? with | none => _ | some z => _) = _; rw [hyk]; rfl
      clear hq hix hyk
      obtain ⟨g, cp, J⟩ := HM.out.at hy
      obtain rfl := J.form
      have l0 := HM.out.cell 0 _ rfl
      have j1 : (i : Int) < (L.length : Int) := by omega
      have j1' : decide ((i : Int) < (L.length : Int)) = true := decide_eq_true j1
      have j2 : (0 : Int) ≤ (i : Int) := by omega
      have j3 : decide ((i : Int) < 0) = false := decide_eq_false (by omega)
      have hlen : L.length ≤ 65536 := HLN.out
      have HY : Hid (L[i]? = some y ∧ LkOk N y.k) := (show Hid _ from (⟨hy, HK.out.2 y (List.mem_of_getElem? hy)⟩ : _ ∧ _))
      have BD : Hid (Below W.heap.size W W.drew) := (Below.refl _ W).drew
      have HIN : Hid (Calls Try.prog 36 #[.agg (lvA y), .int .i64 s] W.drew fun e w' => e = .returned (.bool (inK y.k s)) ∧ Below W.drew.heap.size W.drew w') := loin_any ((HM.out.fresh BD.out).hq y (List.mem_of_getElem? hy)) HY.out.2 (by have := HK.out.1; omega) s
      have HS : Hid (∀ z, Below W.heap.size W z → (∀ (j : Nat) (u : Value), (lvC y)[j]? = some u → z.cell? ⟨g, i * 4 + j, none⟩ = some u) ∧ z.cell? ⟨w.heap.size, 1, none⟩ = some (.int .i64 s)) := fun z b => ⟨fun j u hu => (b.cell (p := ⟨g, i * 4 + j, none⟩) (by exact J.gs.2.2.1)).trans (J.cell j u hu), (b.cell (p := ⟨w.heap.size, 1, none⟩) (by show w.heap.size < W.heap.size; have := HB.out.2.2.2; omega)).trans y1⟩
      clear hy J
      cases hin : inK y.k s with
      | true =>
        rw [hin] at HIN
        have HIK : Hid (inK y.k s = true) := hin
        clear hin
        have HQS : Hid _ := hqs
        clear hqs
        go_enter Try.func11, Try.ntmps11
        go_upto_region 5 with fail
        rw [HW.out]
        go_upto_region 16 with (go_at_call 33; refine Calls.mono HFD.out ?_; rintro e w1 ⟨rfl, hw1⟩; rw [hw1]; clear hw1)
        clear y1 y3
        refine wp_region_held_drew (S := (fun z : World => (∀ (j : Nat) (u : Value), (lvC y)[j]? = some u → z.cell? ⟨g, i * 4 + j, none⟩ = some u) ∧ z.cell? ⟨w.heap.size, 1, none⟩ = some (.int .i64 s))) (by kernel_rfl) ?_ (fun hHeld0 => ?_)
        · exact HS.out _ (Below.refl _ W).drew
        refine tk0 (.pointer (some ⟨g, i * 4, none⟩)) (by kernel_rfl) (by kernel_rfl) (by kernel_rfl) (fun _ _ _ h => h) rfl (fun w hSw => by (try dsimp only at hSw); have s0 := hSw.1 0 _ rfl; have s1 := hSw.1 1 _ rfl; have s2 := hSw.1 2 _ rfl; have s3 := hSw.1 3 _ rfl; have s4 := hSw.2; rw [Nat.add_zero] at s0; go_simp) (by assumption) ?_
        try simp only [Act.put, List.setIfInBounds_toArray, List.set_cons_zero, List.set_cons_succ]
        refine tk1 (.pointer (some ⟨g, i * 4, none⟩)) (by kernel_rfl) (by kernel_rfl) (by kernel_rfl) (fun _ _ _ h => h) rfl (fun w hSw => by (try dsimp only at hSw); have s0 := hSw.1 0 _ rfl; have s1 := hSw.1 1 _ rfl; have s2 := hSw.1 2 _ rfl; have s3 := hSw.1 3 _ rfl; have s4 := hSw.2; rw [Nat.add_zero] at s0; go_simp) (by assumption) ?_
        try simp only [Act.put, List.setIfInBounds_toArray, List.set_cons_zero, List.set_cons_succ]
        refine tk2 (.agg (lvA y)) (by kernel_rfl) (by kernel_rfl) (by kernel_rfl) (fun _ _ _ h => h) rfl (fun w hSw => by (try dsimp only at hSw); have s0 := hSw.1 0 _ rfl; have s1 := hSw.1 1 _ rfl; have s2 := hSw.1 2 _ rfl; have s3 := hSw.1 3 _ rfl; have s4 := hSw.2; rw [Nat.add_zero] at s0; go_simp) (by assumption) ?_
        try simp only [Act.put, List.setIfInBounds_toArray, List.set_cons_zero, List.set_cons_succ]
        refine tk3 (.pointer (some ⟨w.heap.size, 1, none⟩)) (by kernel_rfl) (by kernel_rfl) (by kernel_rfl) (fun _ _ _ h => h) rfl (fun w hSw => by (try dsimp only at hSw); have s0 := hSw.1 0 _ rfl; have s1 := hSw.1 1 _ rfl; have s2 := hSw.1 2 _ rfl; have s3 := hSw.1 3 _ rfl; have s4 := hSw.2; rw [Nat.add_zero] at s0; go_simp) (by assumption) ?_
        try simp only [Act.put, List.setIfInBounds_toArray, List.set_cons_zero, List.set_cons_succ]
        refine tk4 (.int .i64 s) (by kernel_rfl) (by kernel_rfl) (by kernel_rfl) (fun _ _ _ h => h) rfl (fun w hSw => by (try dsimp only at hSw); have s0 := hSw.1 0 _ rfl; have s1 := hSw.1 1 _ rfl; have s2 := hSw.1 2 _ rfl; have s3 := hSw.1 3 _ rfl; have s4 := hSw.2; rw [Nat.add_zero] at s0; go_simp) (by assumption) ?_
        try simp only [Act.put, List.setIfInBounds_toArray, List.set_cons_zero, List.set_cons_succ]
        refine cl5 (by kernel_rfl) rfl (fun K hK => ?_)
        go_simp
        go_at_call 36
        refine Calls.mono HIN.out ?_
        rintro e w1 ⟨rfl, b1⟩
        have B1 : Hid (Below W.heap.size W w1) := undrew b1
        clear b1
        refine hK.out _ _ ?_ (fun hHeld => ?_)
        · exact HS.out _ B1.out
        clear hK K
        try simp only [Act.put, List.setIfInBounds_toArray, List.set_cons_zero, List.set_cons_succ]
        refine wpAnyH_done (by kernel_rfl) ?_ _
        have R1 : Hid (RpAt w1 (w.heap.size + 1) ⟨s, n, 0, 0, 0⟩) := (B1.out.block _ (by have := HB.out.2.2.2; omega)).trans HB.out.2.1
        have Q1 : Hid (w1.heap[(w.heap.size + 1 + 1)]? = some (.cells (wqA ⟨s, n, true⟩) wqT (0, 0))) := (B1.out.block _ (by have := HB.out.2.2.2; omega)).trans HB.out.2.2.1
        have M1 : Hid (LoM w1 base D S P L (.slice (some ⟨g, 0, none⟩) L.length cp) c) := HM.out.fresh B1.out
        have BW1 : Hid (Below w.heap.size w w1) := bmm BW.out BW.out.size B1.out
        have HZ1 : Hid (w.heap.size + 3 ≤ w1.heap.size) := (show w.heap.size + 3 ≤ w1.heap.size from by have := HB.out.2.2.2; have := B1.out.size; omega)
        have x2 := R1.out.cell 2 _ rfl
        have f2 := R1.out.fz 2
        have HQ : Hid (q = (c, L.map (·.k), [⟨s, n, 12, 0, 0⟩], false)) := (show q = _ from by rw [HQS.out]; unfold askS; rw [if_pos HIK.out])
        go_upto_region 18 with fail
        obtain ⟨w2, hw2⟩ : ∃ w2, w2 = w1.setCell ⟨w.heap.size + 1, 2, none⟩ (.int .i64 12) := ⟨_, rfl⟩
        rw [← hw2]
        have R2 : Hid (RpAt w2 (w.heap.size + 1) ⟨s, n, 12, 0, 0⟩) := by rw [hw2]; exact R1.out.set 2 _ rfl
        have B2 : Hid (Below w.heap.size w w2) := by rw [hw2]; exact BW1.out.setCell (by show w.heap.size ≤ w.heap.size + 1; omega) _
        have M2 : Hid (LoB w2 base D S c (L.map (·.k))) := by rw [hw2]; exact ⟨P, L, _, M1.out.keep (by simp) (fun b hb => heap_setCell_other _ _ _ _ (fun e => by have e : b = w.heap.size + 1 := e; have := HSL.out b hb; omega)), rfl⟩
        clear hw2 x2 f2
        have y0 := R2.out.cell 0 _ rfl
        have y1 := R2.out.cell 1 _ rfl
        have y2 := R2.out.cell 2 _ rfl
        have y3 := R2.out.cell 3 _ rfl
        have y4 := R2.out.cell 4 _ rfl
        go_wp2_with fail
        go_ret2
        rw [HQ.out]
        exact ⟨.slice (some ⟨w2.heap.size, 0, none⟩) 1 1, _, rfl, (rp_one : RowAt rpC (w2.alloc (.cells (rpA (⟨s, n, 12, 0, 0⟩)) rpT)) _ [(⟨s, n, 12, 0, 0⟩)]), LoB.fresh M2.out ((Below.refl _ _).alloc (Nat.le_refl _) _), (Kept.of B2.out).trans (Kept.of ((Below.refl _ _).alloc (Nat.le_refl _) _))⟩
      | false =>
        rw [hin] at HIN
        have HIK : Hid (inK y.k s = false) := hin
        clear hin
        have HQS : Hid _ := hqs
        clear hqs
        go_enter Try.func11, Try.ntmps11
        go_upto_region 5 with fail
        rw [HW.out]
        go_upto_region 16 with (go_at_call 33; refine Calls.mono HFD.out ?_; rintro e w1 ⟨rfl, hw1⟩; rw [hw1]; clear hw1)
        clear y1 y3
        refine wp_region_held_drew (S := (fun z : World => (∀ (j : Nat) (u : Value), (lvC y)[j]? = some u → z.cell? ⟨g, i * 4 + j, none⟩ = some u) ∧ z.cell? ⟨w.heap.size, 1, none⟩ = some (.int .i64 s))) (by kernel_rfl) ?_ (fun hHeld0 => ?_)
        · exact HS.out _ (Below.refl _ W).drew
        refine tk0 (.pointer (some ⟨g, i * 4, none⟩)) (by kernel_rfl) (by kernel_rfl) (by kernel_rfl) (fun _ _ _ h => h) rfl (fun w hSw => by (try dsimp only at hSw); have s0 := hSw.1 0 _ rfl; have s1 := hSw.1 1 _ rfl; have s2 := hSw.1 2 _ rfl; have s3 := hSw.1 3 _ rfl; have s4 := hSw.2; rw [Nat.add_zero] at s0; go_simp) (by assumption) ?_
        try simp only [Act.put, List.setIfInBounds_toArray, List.set_cons_zero, List.set_cons_succ]
        refine tk1 (.pointer (some ⟨g, i * 4, none⟩)) (by kernel_rfl) (by kernel_rfl) (by kernel_rfl) (fun _ _ _ h => h) rfl (fun w hSw => by (try dsimp only at hSw); have s0 := hSw.1 0 _ rfl; have s1 := hSw.1 1 _ rfl; have s2 := hSw.1 2 _ rfl; have s3 := hSw.1 3 _ rfl; have s4 := hSw.2; rw [Nat.add_zero] at s0; go_simp) (by assumption) ?_
        try simp only [Act.put, List.setIfInBounds_toArray, List.set_cons_zero, List.set_cons_succ]
        refine tk2 (.agg (lvA y)) (by kernel_rfl) (by kernel_rfl) (by kernel_rfl) (fun _ _ _ h => h) rfl (fun w hSw => by (try dsimp only at hSw); have s0 := hSw.1 0 _ rfl; have s1 := hSw.1 1 _ rfl; have s2 := hSw.1 2 _ rfl; have s3 := hSw.1 3 _ rfl; have s4 := hSw.2; rw [Nat.add_zero] at s0; go_simp) (by assumption) ?_
        try simp only [Act.put, List.setIfInBounds_toArray, List.set_cons_zero, List.set_cons_succ]
        refine tk3 (.pointer (some ⟨w.heap.size, 1, none⟩)) (by kernel_rfl) (by kernel_rfl) (by kernel_rfl) (fun _ _ _ h => h) rfl (fun w hSw => by (try dsimp only at hSw); have s0 := hSw.1 0 _ rfl; have s1 := hSw.1 1 _ rfl; have s2 := hSw.1 2 _ rfl; have s3 := hSw.1 3 _ rfl; have s4 := hSw.2; rw [Nat.add_zero] at s0; go_simp) (by assumption) ?_
        try simp only [Act.put, List.setIfInBounds_toArray, List.set_cons_zero, List.set_cons_succ]
        refine tk4 (.int .i64 s) (by kernel_rfl) (by kernel_rfl) (by kernel_rfl) (fun _ _ _ h => h) rfl (fun w hSw => by (try dsimp only at hSw); have s0 := hSw.1 0 _ rfl; have s1 := hSw.1 1 _ rfl; have s2 := hSw.1 2 _ rfl; have s3 := hSw.1 3 _ rfl; have s4 := hSw.2; rw [Nat.add_zero] at s0; go_simp) (by assumption) ?_
        try simp only [Act.put, List.setIfInBounds_toArray, List.set_cons_zero, List.set_cons_succ]
        refine cl5 (by kernel_rfl) rfl (fun K hK => ?_)
        go_simp
        go_at_call 36
        refine Calls.mono HIN.out ?_
        rintro e w1 ⟨rfl, b1⟩
        have B1 : Hid (Below W.heap.size W w1) := undrew b1
        clear b1
        refine hK.out _ _ ?_ (fun hHeld => ?_)
        · exact HS.out _ B1.out
        clear hK K
        try simp only [Act.put, List.setIfInBounds_toArray, List.set_cons_zero, List.set_cons_succ]
        refine wpAnyH_done (by kernel_rfl) ?_ _
        have R1 : Hid (RpAt w1 (w.heap.size + 1) ⟨s, n, 0, 0, 0⟩) := (B1.out.block _ (by have := HB.out.2.2.2; omega)).trans HB.out.2.1
        have Q1 : Hid (w1.heap[(w.heap.size + 1 + 1)]? = some (.cells (wqA ⟨s, n, true⟩) wqT (0, 0))) := (B1.out.block _ (by have := HB.out.2.2.2; omega)).trans HB.out.2.2.1
        have M1 : Hid (LoM w1 base D S P L (.slice (some ⟨g, 0, none⟩) L.length cp) c) := HM.out.fresh B1.out
        have BW1 : Hid (Below w.heap.size w w1) := bmm BW.out BW.out.size B1.out
        have HZ1 : Hid (w.heap.size + 3 ≤ w1.heap.size) := (show w.heap.size + 3 ≤ w1.heap.size from by have := HB.out.2.2.2; have := B1.out.size; omega)
        obtain ⟨cells1, _⟩ := HS.out _ B1.out
        have z2 := cells1 2 (.bool y.k.wr) rfl
        have z3 := cells1 3 (.slice y.qa y.k.q.length y.qc) rfl
        have v2 : w1.cell? ⟨w.heap.size + 1 + 1, 2, none⟩ = some (.bool true) := by simp [World.cell?, Q1.out]
        obtain ⟨ql, hql⟩ : ∃ ql, ql = y.k.q.length := ⟨_, rfl⟩
        rw [← hql] at z3
        have HQL : Hid (ql = y.k.q.length) := hql
        clear hql cells1
        cases ql with
        | zero =>
          cases hwr : y.k.wr with
          | false =>
            rw [hwr] at z2
            have HWR : Hid (y.k.wr = false) := hwr
            clear hwr
            go_upto_region 20 with fail
            clear z2 z3 v2
            obtain ⟨g2, cp2, J1⟩ := M1.out.at HY.out.1
            have e2 := J1.form
            simp only [Value.slice.injEq, Option.some.injEq, Addr.mk.injEq, and_true, true_and] at e2
            obtain ⟨rfl, rfl⟩ := e2
            obtain ⟨cur, hb, ht, hcl, K1⟩ := M1.out.lks HY.out.1 J1
            obtain ⟨gv, hg⟩ : ∃ gv, gv = giveH c y.k.h y.k.wr ⟨s, n, true⟩ := ⟨_, rfl⟩
            have HG : Hid (Calls Try.prog 34 #[.pointer (some ⟨D, 0, none⟩), .pointer (some ⟨g, i * 4, none⟩), .agg (wqA ⟨s, n, true⟩)] w1 (LkG w1 D g (i * 4) (.slice (some ⟨g, 0, none⟩) L.length cp) cur P y.k.q y.qa y.qc w1 gv)) := by rw [hg]; exact K1.give ⟨s, n, true⟩ HY.out.2.hi (by have := HY.out.2.hl; have := HK.out.1; omega) HO.out.1 HO.out.2.1 HO.out.2.2
            have HQ : Hid (q = (gv.1, (L.map (·.k)).set i { y.k with h := gv.2.1, wr := gv.2.2.1 }, [gv.2.2.2], false)) := (show q = _ from by rw [HQS.out, hg]; unfold askS; rw [if_neg (by rw [HIK.out]; decide), if_pos ⟨HQL.out.symm, rfl, HWR.out⟩])
            have HT : Hid (w1.heap[g]? = some (.cells cur.toArray lkT (0, 0)) ∧ cur.take (L.length * 4) = rowL lvC L ∧ cur.length = cp * 4 ∧ LoI w1 base D S P L (.slice (some ⟨g, 0, none⟩) L.length cp) g cp i y) := (show Hid _ from (⟨hb, ht, hcl, J1⟩ : _ ∧ _ ∧ _ ∧ _))
            have HDw : Hid (D < w.heap.size ∧ g < w.heap.size) := (show Hid _ from (⟨HSL.out D ((M1.out.set D).2 (Or.inl rfl)), HSL.out g J1.gs.1⟩ : _ ∧ _))
            have v0 : w1.cell? ⟨w.heap.size + 1 + 1, 0, none⟩ = some (.int .i64 s) := by simp [World.cell?, Q1.out]
            have v1 : w1.cell? ⟨w.heap.size + 1 + 1, 1, none⟩ = some (.int .i64 n) := by simp [World.cell?, Q1.out]
            have v2 : w1.cell? ⟨w.heap.size + 1 + 1, 2, none⟩ = some (.bool true) := by simp [World.cell?, Q1.out]
            clear hb ht hcl K1 hg J1
            go_upto_region 21 with (first
              | (show wpList _ _ _ (⟨_, Op.store rpT _ _, _, _, _, _⟩ :: _) _ _; refine store_row_g rfl rpT _ _ rfl (w.heap.size + 1) (rpA gv.2.2.2) rfl rfl rpT _ R3.out sizeRp rfl (by simp [Value.oneCell']) ?_; intro w4 h4 g4)
              | (go_at_call 34; refine Calls.mono HG.out ?_; rintro e w3 ⟨⟨a1, c1, rfl, k3⟩, s3, d3⟩; have K3 : Hid _ := k3; have D3 : Hid (w1.heap.size ≤ w3.heap.size ∧ ∀ b, b < w1.heap.size → b ≠ D → b ≠ g → w3.heap[b]? = w1.heap[b]?) := (show Hid _ from (⟨s3, d3⟩ : _ ∧ _)); have R3 : Hid (RpAt w3 (w.heap.size + 1) ⟨s, n, 0, 0, 0⟩) := (D3.out.2 _ (by have := HZ1.out; omega) (by have := HDw.out; omega) (by have := HDw.out; omega)).trans R1.out; clear k3 s3 d3))
            have R4 : Hid (RpAt w4 (w.heap.size + 1) gv.2.2.2) := h4
            have G4 : Hid (w3.grownBy w4 (some (w.heap.size + 1))) := g4
            clear h4 g4 v0 v1 v2 HG
            have t3 := M1.out.turn HY.out.1 HT.out.2.2.2 HT.out.1 HT.out.2.1 HT.out.2.2.1 K3.out (fun b hb => Or.inl hb) (fun b hb => hb)
            have hne : ∀ b, (S b ∨ (P b ∨ w1.heap.size ≤ b ∧ b < w3.heap.size)) → b ≠ w.heap.size + 1 := fun b hb => by
              have h2 := HZ1.out
              rcases hb with hb | hb | hb
              · have := HSL.out b hb
                omega
              · have := HSL.out b ((M1.out.set b).2 (Or.inr (Or.inr hb)))
                omega
              · omega
            have hgr : ∀ b, b < w3.heap.size → b ≠ w.heap.size + 1 → w4.heap[b]? = w3.heap[b]? := fun b hb hn => G4.out.block b hb (fun e => hn (Option.some.inj e))
            have M4 : Hid (LoB w4 base D (fun b => S b ∨ (fun b => P b ∨ w1.heap.size ≤ b ∧ b < w3.heap.size) b) gv.1 ((L.map (·.k)).set i { y.k with h := gv.2.1, wr := gv.2.2.1 })) := ⟨_, _, _, t3.1.keep G4.out.size (fun b hb => hgr b (t3.1.bd b hb).2 (hne b hb)), by rw [map_set_k]; rfl⟩
            have KP4 : Hid (Kept w w4 S (fun b => S b ∨ (fun b => P b ∨ w1.heap.size ≤ b ∧ b < w3.heap.size) b)) := ⟨G4.out.os.trans (t3.2.os.trans BW1.out.os), G4.out.tape.trans (t3.2.tape.trans BW1.out.tape), G4.out.output.trans (t3.2.output.trans BW1.out.output), Nat.le_trans BW1.out.size (Nat.le_trans t3.2.size G4.out.size), fun b hb => (by
              rcases t3.2.old b hb with h2 | h2
              · exact Or.inl h2
              · exact Or.inr (Nat.le_trans BW1.out.size h2)), fun b hb hn => (hgr b (Nat.lt_of_lt_of_le hb (Nat.le_trans BW1.out.size t3.2.size)) (by omega)).trans ((t3.2.kept b (Nat.lt_of_lt_of_le hb BW1.out.size) hn).trans (BW1.out.block b hb))⟩
            clear t3 hne hgr
            have y0 := R4.out.cell 0 _ rfl
            have y1 := R4.out.cell 1 _ rfl
            have y2 := R4.out.cell 2 _ rfl
            have y3 := R4.out.cell 3 _ rfl
            have y4 := R4.out.cell 4 _ rfl
            go_wp2_with fail
            go_ret2
            rw [HQ.out]
            exact ⟨.slice (some ⟨w4.heap.size, 0, none⟩) 1 1, _, rfl, (rp_one : RowAt rpC (w4.alloc (.cells (rpA (gv.2.2.2)) rpT)) _ [(gv.2.2.2)]), LoB.fresh M4.out ((Below.refl _ _).alloc (Nat.le_refl _) _), KP4.out.trans (Kept.of ((Below.refl _ _).alloc (Nat.le_refl _) _))⟩
          | true =>
            rw [hwr] at z2
            have HWR : Hid (y.k.wr = true) := hwr
            clear hwr
            go_upto_region 22 with fail
            clear z2 z3 v2
            obtain ⟨i1, hi1, hy0, hy1, hy2⟩ := info_parts infoWq
            obtain ⟨g2, cp2, J1⟩ := M1.out.at HY.out.1
            have e2 := J1.form
            simp only [Value.slice.injEq, Option.some.injEq, Addr.mk.injEq, and_true, true_and] at e2
            obtain ⟨rfl, rfl⟩ := e2
            obtain ⟨cur, hb, ht, hcl, K1⟩ := M1.out.lks HY.out.1 J1
            have HQ : Hid (q = (c, (L.map (·.k)).set i { y.k with q := y.k.q ++ [(⟨s, n, true⟩ : Wq)] }, [], true)) := (show q = _ from by rw [HQS.out]; unfold askS; rw [if_neg (by rw [HIK.out]; decide), if_neg (by rintro ⟨_, _, h⟩; rw [HWR.out] at h; cases h)])
            have HT : Hid (w1.heap[g]? = some (.cells cur.toArray lkT (0, 0)) ∧ cur.take (L.length * 4) = rowL lvC L ∧ cur.length = cp * 4 ∧ LoI w1 base D S P L (.slice (some ⟨g, 0, none⟩) L.length cp) g cp i y) := (show Hid _ from (⟨hb, ht, hcl, J1⟩ : _ ∧ _ ∧ _ ∧ _))
            have KK : Hid _ := K1
            have HC : Hid (∀ z, Below w1.heap.size w1 z → z.cell? ⟨g, i * 4 + 3, none⟩ = some (.slice y.qa y.k.q.length y.qc) ∧ z.frozen? ⟨g, i * 4 + 3, none⟩ = false ∧ z.heap[(w.heap.size + 1 + 1)]? = some (.cells (wqA (⟨s, n, true⟩ : Wq)) wqT (0, 0)) ∧ RowAt wqC z (.slice y.qa y.k.q.length y.qc) y.k.q) := fun z b => ⟨(KK.out.below b).cell.2.2, (KK.out.below b).fz _, (b.block _ (by have := HZ1.out; omega)).trans Q1.out, (KK.out.below b).qr.at'⟩
            have HL2 : Hid (y.k.q.length ≤ 65535) := (show y.k.q.length ≤ 65535 from by have := HY.out.2.ql; have := HK.out.1; omega)
            have HXE : Hid ((w.heap.size + 1 + 1) ≠ g) := (show (w.heap.size + 1 + 1) ≠ g from by have := HSL.out g J1.gs.1; omega)
            clear hb ht hcl K1 J1
            refine wp_region_held_drew (S := (fun z : World => z.heap[(w.heap.size + 1 + 1)]? = some (.cells (wqA (⟨s, n, true⟩ : Wq)) wqT (0, 0)))) (by kernel_rfl) ?_ (fun hHeld0 => ?_)
            · exact (HC.out _ (Below.refl _ w1).drew).2.2.1
            refine tk0 (.pointer (some ⟨g, i * 4, none⟩)) (by kernel_rfl) (by kernel_rfl) (by kernel_rfl) (fun _ _ _ h => h) rfl (fun w hSw => by (try dsimp only at hSw); have s0 := hSw; go_simp) (by assumption) ?_
            try simp only [Act.put, List.setIfInBounds_toArray, List.set_cons_zero, List.set_cons_succ]
            refine tk1 (.pointer (some ⟨g, i * 4, none⟩)) (by kernel_rfl) (by kernel_rfl) (by kernel_rfl) (fun _ _ _ h => h) rfl (fun w hSw => by (try dsimp only at hSw); have s0 := hSw; go_simp) (by assumption) ?_
            try simp only [Act.put, List.setIfInBounds_toArray, List.set_cons_zero, List.set_cons_succ]
            refine tk2 (.pointer (some ⟨g, i * 4, none⟩)) (by kernel_rfl) (by kernel_rfl) (by kernel_rfl) (fun _ _ _ h => h) rfl (fun w hSw => by (try dsimp only at hSw); have s0 := hSw; go_simp) (by assumption) ?_
            try simp only [Act.put, List.setIfInBounds_toArray, List.set_cons_zero, List.set_cons_succ]
            refine tk3 (.pointer (some ⟨g, i * 4 + 3, none⟩)) (by kernel_rfl) (by kernel_rfl) (by kernel_rfl) (fun _ _ _ h => h) rfl (fun w hSw => by (try dsimp only at hSw); have s0 := hSw; go_simp) (by assumption) ?_
            try simp only [Act.put, List.setIfInBounds_toArray, List.set_cons_zero, List.set_cons_succ]
            refine tk6 (.agg (wqA (⟨s, n, true⟩ : Wq))) (by kernel_rfl) (by kernel_rfl) (by kernel_rfl) (fun _ _ _ h => h) rfl (fun w hSw => by (try dsimp only at hSw); have s0 := hSw; have a0 := wq_s s0; have a1 := wq_n s0; have a2 := wq_r s0; go_simp) (by assumption) ?_
            try simp only [Act.put, List.setIfInBounds_toArray, List.set_cons_zero, List.set_cons_succ]
            refine rd4_7 (by kernel_rfl) rfl rfl (fun K hK => ?_) (fun K hK => ?_)
            · have c1 := (HC.out w1.drew (Below.refl _ w1).drew).1
              go_simp
              refine hK.out _ _ ?_ (fun hHeld => ?_)
              · exact (HC.out _ (Below.refl _ w1).drew).2.2.1
              clear hK K
              try simp only [Act.put, List.setIfInBounds_toArray, List.set_cons_zero, List.set_cons_succ]
              refine rd5_7 (by kernel_rfl) rfl rfl (fun K hK => ?_) (fun K hK => ?_)
              · refine wp_app_row (k := 3) (enc := wqC) (l := y.k.q) (.const (.slice none 0 0)) (.tmp 103) 61 wqT rfl i1 _ 24 Try.underlying61 hi1 hy0 hy1 hy2 rfl (by decide) wqC_len wqC_one (base := w1.heap.size) rfl rfl (World.ownsRow_nil _ _ _ _) (HC.out w1.drew (Below.refl _ w1).drew).2.2.2 (Nat.le_refl _) (by have := HL2.out; omega) (by have := HL2.out; omega) ?_
                intro u5 y5 o5 a5
                have b5 : Below w1.heap.size w1 y5 := ((Below.refl _ w1).drew).trans a5.below
                have o5n : y5.ownsRow w1.heap.size wqT 3 u5 y.k.q.length (rowL wqC y.k.q) := by simpa using o5
                obtain ⟨p5, c5, hu5⟩ := (RowAt.own wqC_len o5n).form
                subst hu5
                have x5 := (HC.out y5 b5).2.2.1
                have O5 : Hid (y5.ownsRow w1.heap.size wqT 3 (.slice p5 y.k.q.length c5) y.k.q.length (rowL wqC y.k.q)) := o5n
                have B5 : Hid (Below w1.heap.size w1 y5) := b5
                clear o5 a5 b5 o5n
                refine hK.out _ _ ?_ (fun hHeld => ?_)
                · exact x5
                clear hK K
                try simp only [Act.put, List.setIfInBounds_toArray, List.set_cons_zero, List.set_cons_succ]
                refine cl7 (by kernel_rfl) rfl (fun K hK => ?_)
                go_simp
                obtain ⟨y57, hy7⟩ : ∃ y, y = y5.alloc (.cells (wqA (⟨s, n, true⟩ : Wq)) wqT) := ⟨_, rfl⟩
                have b7 : Below w1.heap.size w1 y57 := by rw [hy7]; exact (B5.out).alloc B5.out.size _
                have r7 : RowAt wqC y57 (.slice (some ⟨y5.heap.size, 0, none⟩) 1 1) [(⟨s, n, true⟩ : Wq)] := by rw [hy7]; exact RowAt.built (heap_alloc_new y5 _) rfl 1 rfl rfl
                have o5n : y57.ownsRow w1.heap.size wqT 3 (.slice p5 y.k.q.length c5) y.k.q.length (rowL wqC y.k.q) := by rw [hy7]; exact World.ownsRow.alloc O5.out _
                have HY7 : Hid (y5.alloc (.cells #[.int .i64 s, .int .i64 n, .bool true] wqT) = y57) := hy7.symm
                obtain ⟨B7n, hB7⟩ : ∃ B, B = y5.heap.size := ⟨_, rfl⟩
                rw [← hB7] at r7
                have lt7 : B7n < y57.heap.size := by rw [hB7, hy7]; simp
                have ge7 : w1.heap.size ≤ B7n := by rw [hB7]; exact B5.out.size
                rw [HY7.out]
                rw [show y5.heap.size = B7n from hB7.symm]
                have x7 := (HC.out y57 b7).2.2.1
                have O57 : Hid _ := o5n
                clear o5n
                have R7b : Hid (RowAt wqC y57 (.slice (some ⟨B7n, 0, none⟩) 1 1) [(⟨s, n, true⟩ : Wq)] ∧ w1.heap.size ≤ B7n) := (show Hid _ from (⟨r7, ge7⟩ : _ ∧ _))
                have B7 : Hid (Below w1.heap.size w1 y57) := b7
                clear hy7 hB7 b7 r7 lt7 ge7 HY7
                refine hK.out _ _ ?_ (fun hHeld => ?_)
                · exact x7
                clear hK K
                try simp only [Act.put, List.setIfInBounds_toArray, List.set_cons_zero, List.set_cons_succ]
                refine cl8 (by kernel_rfl) rfl (fun K hK => ?_)
                refine wp_app_row (k := 3) (enc := wqC) (l := [(⟨s, n, true⟩ : Wq)]) (.tmp 104) (.tmp 106) 61 wqT rfl i1 _ 24 Try.underlying61 hi1 hy0 hy1 hy2 rfl (by decide) wqC_len wqC_one (base := w1.heap.size) rfl rfl O57.out R7b.out.1 B7.out.size (by have := HL2.out; simp only [List.length_singleton]; omega) (by have := HL2.out; simp only [List.length_singleton]; omega) ?_
                intro u8 y8 o8 a8
                have b8 : Below w1.heap.size w1 y8 := B7.out.trans a8.below
                have o8n : y8.ownsRow w1.heap.size wqT 3 u8 (y.k.q ++ [(⟨s, n, true⟩ : Wq)]).length (rowL wqC (y.k.q ++ [(⟨s, n, true⟩ : Wq)])) := by rw [List.length_append, rowL_append]; exact o8
                obtain ⟨p8, n8, c8, rfl⟩ := own_form o8n
                have hn8 : n8 = (y.k.q ++ [(⟨s, n, true⟩ : Wq)]).length := by obtain ⟨a9, c9, e9⟩ := (RowAt.own wqC_len o8n).form; injection e9
                have c1 := (HC.out y8 b8).1
                have f1 := (HC.out y8 b8).2.1
                have x8 := (HC.out y8 b8).2.2.1
                have O8 : Hid _ := o8n
                have B8 : Hid _ := b8
                have HN8 : Hid (n8 = (y.k.q ++ [(⟨s, n, true⟩ : Wq)]).length) := hn8
                clear o8 a8 o8n b8 hn8
                refine hK.out _ _ ?_ (fun hHeld => ?_)
                · exact x8
                clear hK K
                try simp only [Act.put, List.setIfInBounds_toArray, List.set_cons_zero, List.set_cons_succ]
                refine tk9 (.pointer (some ⟨g, i * 4, none⟩)) (by kernel_rfl) (by kernel_rfl) (by kernel_rfl) (fun _ _ _ h => h) rfl (fun w hSw => by (try dsimp only at hSw); have s0 := hSw; go_simp) (by assumption) ?_
                try simp only [Act.put, List.setIfInBounds_toArray, List.set_cons_zero, List.set_cons_succ]
                refine tk10 (.pointer (some ⟨g, i * 4 + 3, none⟩)) (by kernel_rfl) (by kernel_rfl) (by kernel_rfl) (fun _ _ _ h => h) rfl (fun w hSw => by (try dsimp only at hSw); have s0 := hSw; go_simp) (by assumption) ?_
                try simp only [Act.put, List.setIfInBounds_toArray, List.set_cons_zero, List.set_cons_succ]
                refine cl11 (by kernel_rfl) rfl (fun K hK => ?_)
                go_simp
                refine hK.out _ _ ?_ (fun hHeld => ?_)
                · exact (heap_setCell_other _ _ _ _ (fun e9 => HXE.out e9)).trans x8
                clear hK K
                try simp only [Act.put, List.setIfInBounds_toArray, List.set_cons_zero, List.set_cons_succ]
                refine wpAnyH_done (by kernel_rfl) ?_ _
                obtain ⟨S9, m9, k9⟩ := M1.out.wait HY.out.1 HT.out.2.2.2 HT.out.1 HT.out.2.1 HT.out.2.2.1 KK.out B8.out O8.out HN8.out
                obtain ⟨y9, hy9⟩ : ∃ z, z = y8.setCell ⟨g, i * 4 + 3, none⟩ (.slice p8 n8 c8) := ⟨_, rfl⟩
                rw [← hy9]
                rw [← hy9] at m9 k9
                have FQ : Hid (AskP w base D S q (.returned (.tuple #[.slice none 0 0, .bool true])) y9) := (show AskP w base D S q _ y9 from by rw [HQ.out]; exact ⟨_, S9, rfl, RowAt.nil _, m9, (Kept.of BW1.out).trans k9⟩)
                clear m9 k9 hy9 c1 f1 x8
                go_wp2
                go_ret2
                exact FQ.out
              · go_simp
                obtain ⟨y7, hy7⟩ : ∃ y, y = w1.drew.alloc (.cells (wqA (⟨s, n, true⟩ : Wq)) wqT) := ⟨_, rfl⟩
                have b7 : Below w1.heap.size w1 y7 := by rw [hy7]; exact ((Below.refl _ w1).drew).alloc (Nat.le_refl _) _
                have r7 : RowAt wqC y7 (.slice (some ⟨w1.drew.heap.size, 0, none⟩) 1 1) [(⟨s, n, true⟩ : Wq)] := by rw [hy7]; exact RowAt.built (heap_alloc_new w1.drew _) rfl 1 rfl rfl
                have HY7 : Hid (w1.drew.alloc (.cells #[.int .i64 s, .int .i64 n, .bool true] wqT) = y7) := hy7.symm
                obtain ⟨B7n, hB7⟩ : ∃ B, B = w1.drew.heap.size := ⟨_, rfl⟩
                rw [← hB7] at r7
                have lt7 : B7n < y7.heap.size := by rw [hB7, hy7]; simp
                have ge7 : w1.heap.size ≤ B7n := by rw [hB7]; exact (Nat.le_refl _)
                rw [show (w1.alloc (.cells #[.int .i64 s, .int .i64 n, .bool true] wqT)).drew = y7 from hy7.symm]
                rw [show w1.heap.size = B7n from hB7.symm]
                have x7 := (HC.out y7 b7).2.2.1
                have c1 := (HC.out y7 b7).1
                have R7 : Hid (RowAt wqC y7 (.slice (some ⟨B7n, 0, none⟩) 1 1) [(⟨s, n, true⟩ : Wq)] ∧ w1.heap.size ≤ B7n ∧ B7n < y7.heap.size) := (show Hid _ from (⟨r7, ge7, lt7⟩ : _ ∧ _ ∧ _))
                have B7 : Hid (Below w1.heap.size w1 y7) := b7
                clear hy7 hB7 b7 r7 lt7 ge7 HY7
                refine hK.out _ _ ?_ (fun hHeld => ?_)
                · exact x7
                clear hK K
                try simp only [Act.put, List.setIfInBounds_toArray, List.set_cons_zero, List.set_cons_succ]
                refine cl5 (by kernel_rfl) rfl (fun K hK => ?_)
                refine wp_app_row (k := 3) (enc := wqC) (l := y.k.q) (.const (.slice none 0 0)) (.tmp 103) 61 wqT rfl i1 _ 24 Try.underlying61 hi1 hy0 hy1 hy2 rfl (by decide) wqC_len wqC_one (base := w1.heap.size) rfl rfl (World.ownsRow_nil _ _ _ _) (HC.out y7 B7.out).2.2.2 B7.out.size (by have := HL2.out; omega) (by have := HL2.out; omega) ?_
                intro u5 y57 o5 a5
                have b5 : Below w1.heap.size w1 y57 := (B7.out).trans a5.below
                have o5n : y57.ownsRow w1.heap.size wqT 3 u5 y.k.q.length (rowL wqC y.k.q) := by simpa using o5
                obtain ⟨p5, c5, hu5⟩ := (RowAt.own wqC_len o5n).form
                subst hu5
                have x5 := (HC.out y57 b5).2.2.1
                have O5 : Hid (y57.ownsRow w1.heap.size wqT 3 (.slice p5 y.k.q.length c5) y.k.q.length (rowL wqC y.k.q)) := o5n
                have R7b : Hid (RowAt wqC y57 (.slice (some ⟨B7n, 0, none⟩) 1 1) [(⟨s, n, true⟩ : Wq)] ∧ w1.heap.size ≤ B7n) := (show Hid _ from (⟨R7.out.1.keep a5.below.size (fun bk off n c h0 e9 => by injection e9 with e9 _ _; injection e9 with e9; injection e9 with e9 _ _; rw [← e9]; exact a5.rest B7n R7.out.2.2 (show some B7n ≠ none by simp)), R7.out.2.1⟩ : _ ∧ _))
                have B5 : Hid (Below w1.heap.size w1 y57) := b5
                clear o5 a5 b5 o5n
                refine hK.out _ _ ?_ (fun hHeld => ?_)
                · exact x5
                clear hK K
                try simp only [Act.put, List.setIfInBounds_toArray, List.set_cons_zero, List.set_cons_succ]
                refine cl8 (by kernel_rfl) rfl (fun K hK => ?_)
                refine wp_app_row (k := 3) (enc := wqC) (l := [(⟨s, n, true⟩ : Wq)]) (.tmp 104) (.tmp 106) 61 wqT rfl i1 _ 24 Try.underlying61 hi1 hy0 hy1 hy2 rfl (by decide) wqC_len wqC_one (base := w1.heap.size) rfl rfl O5.out R7b.out.1 B5.out.size (by have := HL2.out; simp only [List.length_singleton]; omega) (by have := HL2.out; simp only [List.length_singleton]; omega) ?_
                intro u8 y8 o8 a8
                have b8 : Below w1.heap.size w1 y8 := B5.out.trans a8.below
                have o8n : y8.ownsRow w1.heap.size wqT 3 u8 (y.k.q ++ [(⟨s, n, true⟩ : Wq)]).length (rowL wqC (y.k.q ++ [(⟨s, n, true⟩ : Wq)])) := by rw [List.length_append, rowL_append]; exact o8
                obtain ⟨p8, n8, c8, rfl⟩ := own_form o8n
                have hn8 : n8 = (y.k.q ++ [(⟨s, n, true⟩ : Wq)]).length := by obtain ⟨a9, c9, e9⟩ := (RowAt.own wqC_len o8n).form; injection e9
                have c1 := (HC.out y8 b8).1
                have f1 := (HC.out y8 b8).2.1
                have x8 := (HC.out y8 b8).2.2.1
                have O8 : Hid _ := o8n
                have B8 : Hid _ := b8
                have HN8 : Hid (n8 = (y.k.q ++ [(⟨s, n, true⟩ : Wq)]).length) := hn8
                clear o8 a8 o8n b8 hn8
                refine hK.out _ _ ?_ (fun hHeld => ?_)
                · exact x8
                clear hK K
                try simp only [Act.put, List.setIfInBounds_toArray, List.set_cons_zero, List.set_cons_succ]
                refine tk9 (.pointer (some ⟨g, i * 4, none⟩)) (by kernel_rfl) (by kernel_rfl) (by kernel_rfl) (fun _ _ _ h => h) rfl (fun w hSw => by (try dsimp only at hSw); have s0 := hSw; go_simp) (by assumption) ?_
                try simp only [Act.put, List.setIfInBounds_toArray, List.set_cons_zero, List.set_cons_succ]
                refine tk10 (.pointer (some ⟨g, i * 4 + 3, none⟩)) (by kernel_rfl) (by kernel_rfl) (by kernel_rfl) (fun _ _ _ h => h) rfl (fun w hSw => by (try dsimp only at hSw); have s0 := hSw; go_simp) (by assumption) ?_
                try simp only [Act.put, List.setIfInBounds_toArray, List.set_cons_zero, List.set_cons_succ]
                refine cl11 (by kernel_rfl) rfl (fun K hK => ?_)
                go_simp
                refine hK.out _ _ ?_ (fun hHeld => ?_)
                · exact (heap_setCell_other _ _ _ _ (fun e9 => HXE.out e9)).trans x8
                clear hK K
                try simp only [Act.put, List.setIfInBounds_toArray, List.set_cons_zero, List.set_cons_succ]
                refine wpAnyH_done (by kernel_rfl) ?_ _
                obtain ⟨S9, m9, k9⟩ := M1.out.wait HY.out.1 HT.out.2.2.2 HT.out.1 HT.out.2.1 HT.out.2.2.1 KK.out B8.out O8.out HN8.out
                obtain ⟨y9, hy9⟩ : ∃ z, z = y8.setCell ⟨g, i * 4 + 3, none⟩ (.slice p8 n8 c8) := ⟨_, rfl⟩
                rw [← hy9]
                rw [← hy9] at m9 k9
                have FQ : Hid (AskP w base D S q (.returned (.tuple #[.slice none 0 0, .bool true])) y9) := (show AskP w base D S q _ y9 from by rw [HQ.out]; exact ⟨_, S9, rfl, RowAt.nil _, m9, (Kept.of BW1.out).trans k9⟩)
                clear m9 k9 hy9 c1 f1 x8
                go_wp2
                go_ret2
                exact FQ.out
            · go_simp
              obtain ⟨y7, hy7⟩ : ∃ y, y = w1.drew.alloc (.cells (wqA (⟨s, n, true⟩ : Wq)) wqT) := ⟨_, rfl⟩
              have b7 : Below w1.heap.size w1 y7 := by rw [hy7]; exact ((Below.refl _ w1).drew).alloc (Nat.le_refl _) _
              have r7 : RowAt wqC y7 (.slice (some ⟨w1.drew.heap.size, 0, none⟩) 1 1) [(⟨s, n, true⟩ : Wq)] := by rw [hy7]; exact RowAt.built (heap_alloc_new w1.drew _) rfl 1 rfl rfl
              have HY7 : Hid (w1.drew.alloc (.cells #[.int .i64 s, .int .i64 n, .bool true] wqT) = y7) := hy7.symm
              obtain ⟨B7n, hB7⟩ : ∃ B, B = w1.drew.heap.size := ⟨_, rfl⟩
              rw [← hB7] at r7
              have lt7 : B7n < y7.heap.size := by rw [hB7, hy7]; simp
              have ge7 : w1.heap.size ≤ B7n := by rw [hB7]; exact (Nat.le_refl _)
              rw [show (w1.alloc (.cells #[.int .i64 s, .int .i64 n, .bool true] wqT)).drew = y7 from hy7.symm]
              rw [show w1.heap.size = B7n from hB7.symm]
              have x7 := (HC.out y7 b7).2.2.1
              have c1 := (HC.out y7 b7).1
              have R7 : Hid (RowAt wqC y7 (.slice (some ⟨B7n, 0, none⟩) 1 1) [(⟨s, n, true⟩ : Wq)] ∧ w1.heap.size ≤ B7n ∧ B7n < y7.heap.size) := (show Hid _ from (⟨r7, ge7, lt7⟩ : _ ∧ _ ∧ _))
              have B7 : Hid (Below w1.heap.size w1 y7) := b7
              clear hy7 hB7 b7 r7 lt7 ge7 HY7
              refine hK.out _ _ ?_ (fun hHeld => ?_)
              · exact x7
              clear hK K
              try simp only [Act.put, List.setIfInBounds_toArray, List.set_cons_zero, List.set_cons_succ]
              refine cl4 (by kernel_rfl) rfl (fun K hK => ?_)
              go_simp
              refine hK.out _ _ ?_ (fun hHeld => ?_)
              · exact x7
              clear hK K
              try simp only [Act.put, List.setIfInBounds_toArray, List.set_cons_zero, List.set_cons_succ]
              refine cl5 (by kernel_rfl) rfl (fun K hK => ?_)
              refine wp_app_row (k := 3) (enc := wqC) (l := y.k.q) (.const (.slice none 0 0)) (.tmp 103) 61 wqT rfl i1 _ 24 Try.underlying61 hi1 hy0 hy1 hy2 rfl (by decide) wqC_len wqC_one (base := w1.heap.size) rfl rfl (World.ownsRow_nil _ _ _ _) (HC.out y7 B7.out).2.2.2 B7.out.size (by have := HL2.out; omega) (by have := HL2.out; omega) ?_
              intro u5 y57 o5 a5
              have b5 : Below w1.heap.size w1 y57 := (B7.out).trans a5.below
              have o5n : y57.ownsRow w1.heap.size wqT 3 u5 y.k.q.length (rowL wqC y.k.q) := by simpa using o5
              obtain ⟨p5, c5, hu5⟩ := (RowAt.own wqC_len o5n).form
              subst hu5
              have x5 := (HC.out y57 b5).2.2.1
              have O5 : Hid (y57.ownsRow w1.heap.size wqT 3 (.slice p5 y.k.q.length c5) y.k.q.length (rowL wqC y.k.q)) := o5n
              have R7b : Hid (RowAt wqC y57 (.slice (some ⟨B7n, 0, none⟩) 1 1) [(⟨s, n, true⟩ : Wq)] ∧ w1.heap.size ≤ B7n) := (show Hid _ from (⟨R7.out.1.keep a5.below.size (fun bk off n c h0 e9 => by injection e9 with e9 _ _; injection e9 with e9; injection e9 with e9 _ _; rw [← e9]; exact a5.rest B7n R7.out.2.2 (show some B7n ≠ none by simp)), R7.out.2.1⟩ : _ ∧ _))
              have B5 : Hid (Below w1.heap.size w1 y57) := b5
              clear o5 a5 b5 o5n
              refine hK.out _ _ ?_ (fun hHeld => ?_)
              · exact x5
              clear hK K
              try simp only [Act.put, List.setIfInBounds_toArray, List.set_cons_zero, List.set_cons_succ]
              refine cl8 (by kernel_rfl) rfl (fun K hK => ?_)
              refine wp_app_row (k := 3) (enc := wqC) (l := [(⟨s, n, true⟩ : Wq)]) (.tmp 104) (.tmp 106) 61 wqT rfl i1 _ 24 Try.underlying61 hi1 hy0 hy1 hy2 rfl (by decide) wqC_len wqC_one (base := w1.heap.size) rfl rfl O5.out R7b.out.1 B5.out.size (by have := HL2.out; simp only [List.length_singleton]; omega) (by have := HL2.out; simp only [List.length_singleton]; omega) ?_
              intro u8 y8 o8 a8
              have b8 : Below w1.heap.size w1 y8 := B5.out.trans a8.below
              have o8n : y8.ownsRow w1.heap.size wqT 3 u8 (y.k.q ++ [(⟨s, n, true⟩ : Wq)]).length (rowL wqC (y.k.q ++ [(⟨s, n, true⟩ : Wq)])) := by rw [List.length_append, rowL_append]; exact o8
              obtain ⟨p8, n8, c8, rfl⟩ := own_form o8n
              have hn8 : n8 = (y.k.q ++ [(⟨s, n, true⟩ : Wq)]).length := by obtain ⟨a9, c9, e9⟩ := (RowAt.own wqC_len o8n).form; injection e9
              have c1 := (HC.out y8 b8).1
              have f1 := (HC.out y8 b8).2.1
              have x8 := (HC.out y8 b8).2.2.1
              have O8 : Hid _ := o8n
              have B8 : Hid _ := b8
              have HN8 : Hid (n8 = (y.k.q ++ [(⟨s, n, true⟩ : Wq)]).length) := hn8
              clear o8 a8 o8n b8 hn8
              refine hK.out _ _ ?_ (fun hHeld => ?_)
              · exact x8
              clear hK K
              try simp only [Act.put, List.setIfInBounds_toArray, List.set_cons_zero, List.set_cons_succ]
              refine tk9 (.pointer (some ⟨g, i * 4, none⟩)) (by kernel_rfl) (by kernel_rfl) (by kernel_rfl) (fun _ _ _ h => h) rfl (fun w hSw => by (try dsimp only at hSw); have s0 := hSw; go_simp) (by assumption) ?_
              try simp only [Act.put, List.setIfInBounds_toArray, List.set_cons_zero, List.set_cons_succ]
              refine tk10 (.pointer (some ⟨g, i * 4 + 3, none⟩)) (by kernel_rfl) (by kernel_rfl) (by kernel_rfl) (fun _ _ _ h => h) rfl (fun w hSw => by (try dsimp only at hSw); have s0 := hSw; go_simp) (by assumption) ?_
              try simp only [Act.put, List.setIfInBounds_toArray, List.set_cons_zero, List.set_cons_succ]
              refine cl11 (by kernel_rfl) rfl (fun K hK => ?_)
              go_simp
              refine hK.out _ _ ?_ (fun hHeld => ?_)
              · exact (heap_setCell_other _ _ _ _ (fun e9 => HXE.out e9)).trans x8
              clear hK K
              try simp only [Act.put, List.setIfInBounds_toArray, List.set_cons_zero, List.set_cons_succ]
              refine wpAnyH_done (by kernel_rfl) ?_ _
              obtain ⟨S9, m9, k9⟩ := M1.out.wait HY.out.1 HT.out.2.2.2 HT.out.1 HT.out.2.1 HT.out.2.2.1 KK.out B8.out O8.out HN8.out
              obtain ⟨y9, hy9⟩ : ∃ z, z = y8.setCell ⟨g, i * 4 + 3, none⟩ (.slice p8 n8 c8) := ⟨_, rfl⟩
              rw [← hy9]
              rw [← hy9] at m9 k9
              have FQ : Hid (AskP w base D S q (.returned (.tuple #[.slice none 0 0, .bool true])) y9) := (show AskP w base D S q _ y9 from by rw [HQ.out]; exact ⟨_, S9, rfl, RowAt.nil _, m9, (Kept.of BW1.out).trans k9⟩)
              clear m9 k9 hy9 c1 f1 x8
              go_wp2
              go_ret2
              exact FQ.out
        | succ qn =>
          have e1 : (((qn + 1 : Nat) : Int) == 0) = false := by simp; omega
          go_upto_region 22 with fail
          clear z2 z3 v2 e1
          obtain ⟨i1, hi1, hy0, hy1, hy2⟩ := info_parts infoWq
          obtain ⟨g2, cp2, J1⟩ := M1.out.at HY.out.1
          have e2 := J1.form
          simp only [Value.slice.injEq, Option.some.injEq, Addr.mk.injEq, and_true, true_and] at e2
          obtain ⟨rfl, rfl⟩ := e2
          obtain ⟨cur, hb, ht, hcl, K1⟩ := M1.out.lks HY.out.1 J1
          have HQ : Hid (q = (c, (L.map (·.k)).set i { y.k with q := y.k.q ++ [(⟨s, n, true⟩ : Wq)] }, [], true)) := (show q = _ from by rw [HQS.out]; unfold askS; rw [if_neg (by rw [HIK.out]; decide), if_neg (by rintro ⟨h, _⟩; have := HQL.out; omega)])
          have HT : Hid (w1.heap[g]? = some (.cells cur.toArray lkT (0, 0)) ∧ cur.take (L.length * 4) = rowL lvC L ∧ cur.length = cp * 4 ∧ LoI w1 base D S P L (.slice (some ⟨g, 0, none⟩) L.length cp) g cp i y) := (show Hid _ from (⟨hb, ht, hcl, J1⟩ : _ ∧ _ ∧ _ ∧ _))
          have KK : Hid _ := K1
          have HC : Hid (∀ z, Below w1.heap.size w1 z → z.cell? ⟨g, i * 4 + 3, none⟩ = some (.slice y.qa y.k.q.length y.qc) ∧ z.frozen? ⟨g, i * 4 + 3, none⟩ = false ∧ z.heap[(w.heap.size + 1 + 1)]? = some (.cells (wqA (⟨s, n, true⟩ : Wq)) wqT (0, 0)) ∧ RowAt wqC z (.slice y.qa y.k.q.length y.qc) y.k.q) := fun z b => ⟨(KK.out.below b).cell.2.2, (KK.out.below b).fz _, (b.block _ (by have := HZ1.out; omega)).trans Q1.out, (KK.out.below b).qr.at'⟩
          have HL2 : Hid (y.k.q.length ≤ 65535) := (show y.k.q.length ≤ 65535 from by have := HY.out.2.ql; have := HK.out.1; omega)
          have HXE : Hid ((w.heap.size + 1 + 1) ≠ g) := (show (w.heap.size + 1 + 1) ≠ g from by have := HSL.out g J1.gs.1; omega)
          clear hb ht hcl K1 J1
          refine wp_region_held_drew (S := (fun z : World => z.heap[(w.heap.size + 1 + 1)]? = some (.cells (wqA (⟨s, n, true⟩ : Wq)) wqT (0, 0)))) (by kernel_rfl) ?_ (fun hHeld0 => ?_)
          · exact (HC.out _ (Below.refl _ w1).drew).2.2.1
          refine tk0 (.pointer (some ⟨g, i * 4, none⟩)) (by kernel_rfl) (by kernel_rfl) (by kernel_rfl) (fun _ _ _ h => h) rfl (fun w hSw => by (try dsimp only at hSw); have s0 := hSw; go_simp) (by assumption) ?_
          try simp only [Act.put, List.setIfInBounds_toArray, List.set_cons_zero, List.set_cons_succ]
          refine tk1 (.pointer (some ⟨g, i * 4, none⟩)) (by kernel_rfl) (by kernel_rfl) (by kernel_rfl) (fun _ _ _ h => h) rfl (fun w hSw => by (try dsimp only at hSw); have s0 := hSw; go_simp) (by assumption) ?_
          try simp only [Act.put, List.setIfInBounds_toArray, List.set_cons_zero, List.set_cons_succ]
          refine tk2 (.pointer (some ⟨g, i * 4, none⟩)) (by kernel_rfl) (by kernel_rfl) (by kernel_rfl) (fun _ _ _ h => h) rfl (fun w hSw => by (try dsimp only at hSw); have s0 := hSw; go_simp) (by assumption) ?_
          try simp only [Act.put, List.setIfInBounds_toArray, List.set_cons_zero, List.set_cons_succ]
          refine tk3 (.pointer (some ⟨g, i * 4 + 3, none⟩)) (by kernel_rfl) (by kernel_rfl) (by kernel_rfl) (fun _ _ _ h => h) rfl (fun w hSw => by (try dsimp only at hSw); have s0 := hSw; go_simp) (by assumption) ?_
          try simp only [Act.put, List.setIfInBounds_toArray, List.set_cons_zero, List.set_cons_succ]
          refine tk6 (.agg (wqA (⟨s, n, true⟩ : Wq))) (by kernel_rfl) (by kernel_rfl) (by kernel_rfl) (fun _ _ _ h => h) rfl (fun w hSw => by (try dsimp only at hSw); have s0 := hSw; have a0 := wq_s s0; have a1 := wq_n s0; have a2 := wq_r s0; go_simp) (by assumption) ?_
          try simp only [Act.put, List.setIfInBounds_toArray, List.set_cons_zero, List.set_cons_succ]
          refine rd4_7 (by kernel_rfl) rfl rfl (fun K hK => ?_) (fun K hK => ?_)
          · have c1 := (HC.out w1.drew (Below.refl _ w1).drew).1
            go_simp
            refine hK.out _ _ ?_ (fun hHeld => ?_)
            · exact (HC.out _ (Below.refl _ w1).drew).2.2.1
            clear hK K
            try simp only [Act.put, List.setIfInBounds_toArray, List.set_cons_zero, List.set_cons_succ]
            refine rd5_7 (by kernel_rfl) rfl rfl (fun K hK => ?_) (fun K hK => ?_)
            · refine wp_app_row (k := 3) (enc := wqC) (l := y.k.q) (.const (.slice none 0 0)) (.tmp 103) 61 wqT rfl i1 _ 24 Try.underlying61 hi1 hy0 hy1 hy2 rfl (by decide) wqC_len wqC_one (base := w1.heap.size) rfl rfl (World.ownsRow_nil _ _ _ _) (HC.out w1.drew (Below.refl _ w1).drew).2.2.2 (Nat.le_refl _) (by have := HL2.out; omega) (by have := HL2.out; omega) ?_
              intro u5 y5 o5 a5
              have b5 : Below w1.heap.size w1 y5 := ((Below.refl _ w1).drew).trans a5.below
              have o5n : y5.ownsRow w1.heap.size wqT 3 u5 y.k.q.length (rowL wqC y.k.q) := by simpa using o5
              obtain ⟨p5, c5, hu5⟩ := (RowAt.own wqC_len o5n).form
              subst hu5
              have x5 := (HC.out y5 b5).2.2.1
              have O5 : Hid (y5.ownsRow w1.heap.size wqT 3 (.slice p5 y.k.q.length c5) y.k.q.length (rowL wqC y.k.q)) := o5n
              have B5 : Hid (Below w1.heap.size w1 y5) := b5
              clear o5 a5 b5 o5n
              refine hK.out _ _ ?_ (fun hHeld => ?_)
              · exact x5
              clear hK K
              try simp only [Act.put, List.setIfInBounds_toArray, List.set_cons_zero, List.set_cons_succ]
              refine cl7 (by kernel_rfl) rfl (fun K hK => ?_)
              go_simp
              obtain ⟨y57, hy7⟩ : ∃ y, y = y5.alloc (.cells (wqA (⟨s, n, true⟩ : Wq)) wqT) := ⟨_, rfl⟩
              have b7 : Below w1.heap.size w1 y57 := by rw [hy7]; exact (B5.out).alloc B5.out.size _
              have r7 : RowAt wqC y57 (.slice (some ⟨y5.heap.size, 0, none⟩) 1 1) [(⟨s, n, true⟩ : Wq)] := by rw [hy7]; exact RowAt.built (heap_alloc_new y5 _) rfl 1 rfl rfl
              have o5n : y57.ownsRow w1.heap.size wqT 3 (.slice p5 y.k.q.length c5) y.k.q.length (rowL wqC y.k.q) := by rw [hy7]; exact World.ownsRow.alloc O5.out _
              have HY7 : Hid (y5.alloc (.cells #[.int .i64 s, .int .i64 n, .bool true] wqT) = y57) := hy7.symm
              obtain ⟨B7n, hB7⟩ : ∃ B, B = y5.heap.size := ⟨_, rfl⟩
              rw [← hB7] at r7
              have lt7 : B7n < y57.heap.size := by rw [hB7, hy7]; simp
              have ge7 : w1.heap.size ≤ B7n := by rw [hB7]; exact B5.out.size
              rw [HY7.out]
              rw [show y5.heap.size = B7n from hB7.symm]
              have x7 := (HC.out y57 b7).2.2.1
              have O57 : Hid _ := o5n
              clear o5n
              have R7b : Hid (RowAt wqC y57 (.slice (some ⟨B7n, 0, none⟩) 1 1) [(⟨s, n, true⟩ : Wq)] ∧ w1.heap.size ≤ B7n) := (show Hid _ from (⟨r7, ge7⟩ : _ ∧ _))
              have B7 : Hid (Below w1.heap.size w1 y57) := b7
              clear hy7 hB7 b7 r7 lt7 ge7 HY7
              refine hK.out _ _ ?_ (fun hHeld => ?_)
              · exact x7
              clear hK K
              try simp only [Act.put, List.setIfInBounds_toArray, List.set_cons_zero, List.set_cons_succ]
              refine cl8 (by kernel_rfl) rfl (fun K hK => ?_)
              refine wp_app_row (k := 3) (enc := wqC) (l := [(⟨s, n, true⟩ : Wq)]) (.tmp 104) (.tmp 106) 61 wqT rfl i1 _ 24 Try.underlying61 hi1 hy0 hy1 hy2 rfl (by decide) wqC_len wqC_one (base := w1.heap.size) rfl rfl O57.out R7b.out.1 B7.out.size (by have := HL2.out; simp only [List.length_singleton]; omega) (by have := HL2.out; simp only [List.length_singleton]; omega) ?_
              intro u8 y8 o8 a8
              have b8 : Below w1.heap.size w1 y8 := B7.out.trans a8.below
              have o8n : y8.ownsRow w1.heap.size wqT 3 u8 (y.k.q ++ [(⟨s, n, true⟩ : Wq)]).length (rowL wqC (y.k.q ++ [(⟨s, n, true⟩ : Wq)])) := by rw [List.length_append, rowL_append]; exact o8
              obtain ⟨p8, n8, c8, rfl⟩ := own_form o8n
              have hn8 : n8 = (y.k.q ++ [(⟨s, n, true⟩ : Wq)]).length := by obtain ⟨a9, c9, e9⟩ := (RowAt.own wqC_len o8n).form; injection e9
              have c1 := (HC.out y8 b8).1
              have f1 := (HC.out y8 b8).2.1
              have x8 := (HC.out y8 b8).2.2.1
              have O8 : Hid _ := o8n
              have B8 : Hid _ := b8
              have HN8 : Hid (n8 = (y.k.q ++ [(⟨s, n, true⟩ : Wq)]).length) := hn8
              clear o8 a8 o8n b8 hn8
              refine hK.out _ _ ?_ (fun hHeld => ?_)
              · exact x8
              clear hK K
              try simp only [Act.put, List.setIfInBounds_toArray, List.set_cons_zero, List.set_cons_succ]
              refine tk9 (.pointer (some ⟨g, i * 4, none⟩)) (by kernel_rfl) (by kernel_rfl) (by kernel_rfl) (fun _ _ _ h => h) rfl (fun w hSw => by (try dsimp only at hSw); have s0 := hSw; go_simp) (by assumption) ?_
              try simp only [Act.put, List.setIfInBounds_toArray, List.set_cons_zero, List.set_cons_succ]
              refine tk10 (.pointer (some ⟨g, i * 4 + 3, none⟩)) (by kernel_rfl) (by kernel_rfl) (by kernel_rfl) (fun _ _ _ h => h) rfl (fun w hSw => by (try dsimp only at hSw); have s0 := hSw; go_simp) (by assumption) ?_
              try simp only [Act.put, List.setIfInBounds_toArray, List.set_cons_zero, List.set_cons_succ]
              refine cl11 (by kernel_rfl) rfl (fun K hK => ?_)
              go_simp
              refine hK.out _ _ ?_ (fun hHeld => ?_)
              · exact (heap_setCell_other _ _ _ _ (fun e9 => HXE.out e9)).trans x8
              clear hK K
              try simp only [Act.put, List.setIfInBounds_toArray, List.set_cons_zero, List.set_cons_succ]
              refine wpAnyH_done (by kernel_rfl) ?_ _
              obtain ⟨S9, m9, k9⟩ := M1.out.wait HY.out.1 HT.out.2.2.2 HT.out.1 HT.out.2.1 HT.out.2.2.1 KK.out B8.out O8.out HN8.out
              obtain ⟨y9, hy9⟩ : ∃ z, z = y8.setCell ⟨g, i * 4 + 3, none⟩ (.slice p8 n8 c8) := ⟨_, rfl⟩
              rw [← hy9]
              rw [← hy9] at m9 k9
              have FQ : Hid (AskP w base D S q (.returned (.tuple #[.slice none 0 0, .bool true])) y9) := (show AskP w base D S q _ y9 from by rw [HQ.out]; exact ⟨_, S9, rfl, RowAt.nil _, m9, (Kept.of BW1.out).trans k9⟩)
              clear m9 k9 hy9 c1 f1 x8
              go_wp2
              go_ret2
              exact FQ.out
            · go_simp
              obtain ⟨y7, hy7⟩ : ∃ y, y = w1.drew.alloc (.cells (wqA (⟨s, n, true⟩ : Wq)) wqT) := ⟨_, rfl⟩
              have b7 : Below w1.heap.size w1 y7 := by rw [hy7]; exact ((Below.refl _ w1).drew).alloc (Nat.le_refl _) _
              have r7 : RowAt wqC y7 (.slice (some ⟨w1.drew.heap.size, 0, none⟩) 1 1) [(⟨s, n, true⟩ : Wq)] := by rw [hy7]; exact RowAt.built (heap_alloc_new w1.drew _) rfl 1 rfl rfl
              have HY7 : Hid (w1.drew.alloc (.cells #[.int .i64 s, .int .i64 n, .bool true] wqT) = y7) := hy7.symm
              obtain ⟨B7n, hB7⟩ : ∃ B, B = w1.drew.heap.size := ⟨_, rfl⟩
              rw [← hB7] at r7
              have lt7 : B7n < y7.heap.size := by rw [hB7, hy7]; simp
              have ge7 : w1.heap.size ≤ B7n := by rw [hB7]; exact (Nat.le_refl _)
              rw [show (w1.alloc (.cells #[.int .i64 s, .int .i64 n, .bool true] wqT)).drew = y7 from hy7.symm]
              rw [show w1.heap.size = B7n from hB7.symm]
              have x7 := (HC.out y7 b7).2.2.1
              have c1 := (HC.out y7 b7).1
              have R7 : Hid (RowAt wqC y7 (.slice (some ⟨B7n, 0, none⟩) 1 1) [(⟨s, n, true⟩ : Wq)] ∧ w1.heap.size ≤ B7n ∧ B7n < y7.heap.size) := (show Hid _ from (⟨r7, ge7, lt7⟩ : _ ∧ _ ∧ _))
              have B7 : Hid (Below w1.heap.size w1 y7) := b7
              clear hy7 hB7 b7 r7 lt7 ge7 HY7
              refine hK.out _ _ ?_ (fun hHeld => ?_)
              · exact x7
              clear hK K
              try simp only [Act.put, List.setIfInBounds_toArray, List.set_cons_zero, List.set_cons_succ]
              refine cl5 (by kernel_rfl) rfl (fun K hK => ?_)
              refine wp_app_row (k := 3) (enc := wqC) (l := y.k.q) (.const (.slice none 0 0)) (.tmp 103) 61 wqT rfl i1 _ 24 Try.underlying61 hi1 hy0 hy1 hy2 rfl (by decide) wqC_len wqC_one (base := w1.heap.size) rfl rfl (World.ownsRow_nil _ _ _ _) (HC.out y7 B7.out).2.2.2 B7.out.size (by have := HL2.out; omega) (by have := HL2.out; omega) ?_
              intro u5 y57 o5 a5
              have b5 : Below w1.heap.size w1 y57 := (B7.out).trans a5.below
              have o5n : y57.ownsRow w1.heap.size wqT 3 u5 y.k.q.length (rowL wqC y.k.q) := by simpa using o5
              obtain ⟨p5, c5, hu5⟩ := (RowAt.own wqC_len o5n).form
              subst hu5
              have x5 := (HC.out y57 b5).2.2.1
              have O5 : Hid (y57.ownsRow w1.heap.size wqT 3 (.slice p5 y.k.q.length c5) y.k.q.length (rowL wqC y.k.q)) := o5n
              have R7b : Hid (RowAt wqC y57 (.slice (some ⟨B7n, 0, none⟩) 1 1) [(⟨s, n, true⟩ : Wq)] ∧ w1.heap.size ≤ B7n) := (show Hid _ from (⟨R7.out.1.keep a5.below.size (fun bk off n c h0 e9 => by injection e9 with e9 _ _; injection e9 with e9; injection e9 with e9 _ _; rw [← e9]; exact a5.rest B7n R7.out.2.2 (show some B7n ≠ none by simp)), R7.out.2.1⟩ : _ ∧ _))
              have B5 : Hid (Below w1.heap.size w1 y57) := b5
              clear o5 a5 b5 o5n
              refine hK.out _ _ ?_ (fun hHeld => ?_)
              · exact x5
              clear hK K
              try simp only [Act.put, List.setIfInBounds_toArray, List.set_cons_zero, List.set_cons_succ]
              refine cl8 (by kernel_rfl) rfl (fun K hK => ?_)
              refine wp_app_row (k := 3) (enc := wqC) (l := [(⟨s, n, true⟩ : Wq)]) (.tmp 104) (.tmp 106) 61 wqT rfl i1 _ 24 Try.underlying61 hi1 hy0 hy1 hy2 rfl (by decide) wqC_len wqC_one (base := w1.heap.size) rfl rfl O5.out R7b.out.1 B5.out.size (by have := HL2.out; simp only [List.length_singleton]; omega) (by have := HL2.out; simp only [List.length_singleton]; omega) ?_
              intro u8 y8 o8 a8
              have b8 : Below w1.heap.size w1 y8 := B5.out.trans a8.below
              have o8n : y8.ownsRow w1.heap.size wqT 3 u8 (y.k.q ++ [(⟨s, n, true⟩ : Wq)]).length (rowL wqC (y.k.q ++ [(⟨s, n, true⟩ : Wq)])) := by rw [List.length_append, rowL_append]; exact o8
              obtain ⟨p8, n8, c8, rfl⟩ := own_form o8n
              have hn8 : n8 = (y.k.q ++ [(⟨s, n, true⟩ : Wq)]).length := by obtain ⟨a9, c9, e9⟩ := (RowAt.own wqC_len o8n).form; injection e9
              have c1 := (HC.out y8 b8).1
              have f1 := (HC.out y8 b8).2.1
              have x8 := (HC.out y8 b8).2.2.1
              have O8 : Hid _ := o8n
              have B8 : Hid _ := b8
              have HN8 : Hid (n8 = (y.k.q ++ [(⟨s, n, true⟩ : Wq)]).length) := hn8
              clear o8 a8 o8n b8 hn8
              refine hK.out _ _ ?_ (fun hHeld => ?_)
              · exact x8
              clear hK K
              try simp only [Act.put, List.setIfInBounds_toArray, List.set_cons_zero, List.set_cons_succ]
              refine tk9 (.pointer (some ⟨g, i * 4, none⟩)) (by kernel_rfl) (by kernel_rfl) (by kernel_rfl) (fun _ _ _ h => h) rfl (fun w hSw => by (try dsimp only at hSw); have s0 := hSw; go_simp) (by assumption) ?_
              try simp only [Act.put, List.setIfInBounds_toArray, List.set_cons_zero, List.set_cons_succ]
              refine tk10 (.pointer (some ⟨g, i * 4 + 3, none⟩)) (by kernel_rfl) (by kernel_rfl) (by kernel_rfl) (fun _ _ _ h => h) rfl (fun w hSw => by (try dsimp only at hSw); have s0 := hSw; go_simp) (by assumption) ?_
              try simp only [Act.put, List.setIfInBounds_toArray, List.set_cons_zero, List.set_cons_succ]
              refine cl11 (by kernel_rfl) rfl (fun K hK => ?_)
              go_simp
              refine hK.out _ _ ?_ (fun hHeld => ?_)
              · exact (heap_setCell_other _ _ _ _ (fun e9 => HXE.out e9)).trans x8
              clear hK K
              try simp only [Act.put, List.setIfInBounds_toArray, List.set_cons_zero, List.set_cons_succ]
              refine wpAnyH_done (by kernel_rfl) ?_ _
              obtain ⟨S9, m9, k9⟩ := M1.out.wait HY.out.1 HT.out.2.2.2 HT.out.1 HT.out.2.1 HT.out.2.2.1 KK.out B8.out O8.out HN8.out
              obtain ⟨y9, hy9⟩ : ∃ z, z = y8.setCell ⟨g, i * 4 + 3, none⟩ (.slice p8 n8 c8) := ⟨_, rfl⟩
              rw [← hy9]
              rw [← hy9] at m9 k9
              have FQ : Hid (AskP w base D S q (.returned (.tuple #[.slice none 0 0, .bool true])) y9) := (show AskP w base D S q _ y9 from by rw [HQ.out]; exact ⟨_, S9, rfl, RowAt.nil _, m9, (Kept.of BW1.out).trans k9⟩)
              clear m9 k9 hy9 c1 f1 x8
              go_wp2
              go_ret2
              exact FQ.out
          · go_simp
            obtain ⟨y7, hy7⟩ : ∃ y, y = w1.drew.alloc (.cells (wqA (⟨s, n, true⟩ : Wq)) wqT) := ⟨_, rfl⟩
            have b7 : Below w1.heap.size w1 y7 := by rw [hy7]; exact ((Below.refl _ w1).drew).alloc (Nat.le_refl _) _
            have r7 : RowAt wqC y7 (.slice (some ⟨w1.drew.heap.size, 0, none⟩) 1 1) [(⟨s, n, true⟩ : Wq)] := by rw [hy7]; exact RowAt.built (heap_alloc_new w1.drew _) rfl 1 rfl rfl
            have HY7 : Hid (w1.drew.alloc (.cells #[.int .i64 s, .int .i64 n, .bool true] wqT) = y7) := hy7.symm
            obtain ⟨B7n, hB7⟩ : ∃ B, B = w1.drew.heap.size := ⟨_, rfl⟩
            rw [← hB7] at r7
            have lt7 : B7n < y7.heap.size := by rw [hB7, hy7]; simp
            have ge7 : w1.heap.size ≤ B7n := by rw [hB7]; exact (Nat.le_refl _)
            rw [show (w1.alloc (.cells #[.int .i64 s, .int .i64 n, .bool true] wqT)).drew = y7 from hy7.symm]
            rw [show w1.heap.size = B7n from hB7.symm]
            have x7 := (HC.out y7 b7).2.2.1
            have c1 := (HC.out y7 b7).1
            have R7 : Hid (RowAt wqC y7 (.slice (some ⟨B7n, 0, none⟩) 1 1) [(⟨s, n, true⟩ : Wq)] ∧ w1.heap.size ≤ B7n ∧ B7n < y7.heap.size) := (show Hid _ from (⟨r7, ge7, lt7⟩ : _ ∧ _ ∧ _))
            have B7 : Hid (Below w1.heap.size w1 y7) := b7
            clear hy7 hB7 b7 r7 lt7 ge7 HY7
            refine hK.out _ _ ?_ (fun hHeld => ?_)
            · exact x7
            clear hK K
            try simp only [Act.put, List.setIfInBounds_toArray, List.set_cons_zero, List.set_cons_succ]
            refine cl4 (by kernel_rfl) rfl (fun K hK => ?_)
            go_simp
            refine hK.out _ _ ?_ (fun hHeld => ?_)
            · exact x7
            clear hK K
            try simp only [Act.put, List.setIfInBounds_toArray, List.set_cons_zero, List.set_cons_succ]
            refine cl5 (by kernel_rfl) rfl (fun K hK => ?_)
            refine wp_app_row (k := 3) (enc := wqC) (l := y.k.q) (.const (.slice none 0 0)) (.tmp 103) 61 wqT rfl i1 _ 24 Try.underlying61 hi1 hy0 hy1 hy2 rfl (by decide) wqC_len wqC_one (base := w1.heap.size) rfl rfl (World.ownsRow_nil _ _ _ _) (HC.out y7 B7.out).2.2.2 B7.out.size (by have := HL2.out; omega) (by have := HL2.out; omega) ?_
            intro u5 y57 o5 a5
            have b5 : Below w1.heap.size w1 y57 := (B7.out).trans a5.below
            have o5n : y57.ownsRow w1.heap.size wqT 3 u5 y.k.q.length (rowL wqC y.k.q) := by simpa using o5
            obtain ⟨p5, c5, hu5⟩ := (RowAt.own wqC_len o5n).form
            subst hu5
            have x5 := (HC.out y57 b5).2.2.1
            have O5 : Hid (y57.ownsRow w1.heap.size wqT 3 (.slice p5 y.k.q.length c5) y.k.q.length (rowL wqC y.k.q)) := o5n
            have R7b : Hid (RowAt wqC y57 (.slice (some ⟨B7n, 0, none⟩) 1 1) [(⟨s, n, true⟩ : Wq)] ∧ w1.heap.size ≤ B7n) := (show Hid _ from (⟨R7.out.1.keep a5.below.size (fun bk off n c h0 e9 => by injection e9 with e9 _ _; injection e9 with e9; injection e9 with e9 _ _; rw [← e9]; exact a5.rest B7n R7.out.2.2 (show some B7n ≠ none by simp)), R7.out.2.1⟩ : _ ∧ _))
            have B5 : Hid (Below w1.heap.size w1 y57) := b5
            clear o5 a5 b5 o5n
            refine hK.out _ _ ?_ (fun hHeld => ?_)
            · exact x5
            clear hK K
            try simp only [Act.put, List.setIfInBounds_toArray, List.set_cons_zero, List.set_cons_succ]
            refine cl8 (by kernel_rfl) rfl (fun K hK => ?_)
            refine wp_app_row (k := 3) (enc := wqC) (l := [(⟨s, n, true⟩ : Wq)]) (.tmp 104) (.tmp 106) 61 wqT rfl i1 _ 24 Try.underlying61 hi1 hy0 hy1 hy2 rfl (by decide) wqC_len wqC_one (base := w1.heap.size) rfl rfl O5.out R7b.out.1 B5.out.size (by have := HL2.out; simp only [List.length_singleton]; omega) (by have := HL2.out; simp only [List.length_singleton]; omega) ?_
            intro u8 y8 o8 a8
            have b8 : Below w1.heap.size w1 y8 := B5.out.trans a8.below
            have o8n : y8.ownsRow w1.heap.size wqT 3 u8 (y.k.q ++ [(⟨s, n, true⟩ : Wq)]).length (rowL wqC (y.k.q ++ [(⟨s, n, true⟩ : Wq)])) := by rw [List.length_append, rowL_append]; exact o8
            obtain ⟨p8, n8, c8, rfl⟩ := own_form o8n
            have hn8 : n8 = (y.k.q ++ [(⟨s, n, true⟩ : Wq)]).length := by obtain ⟨a9, c9, e9⟩ := (RowAt.own wqC_len o8n).form; injection e9
            have c1 := (HC.out y8 b8).1
            have f1 := (HC.out y8 b8).2.1
            have x8 := (HC.out y8 b8).2.2.1
            have O8 : Hid _ := o8n
            have B8 : Hid _ := b8
            have HN8 : Hid (n8 = (y.k.q ++ [(⟨s, n, true⟩ : Wq)]).length) := hn8
            clear o8 a8 o8n b8 hn8
            refine hK.out _ _ ?_ (fun hHeld => ?_)
            · exact x8
            clear hK K
            try simp only [Act.put, List.setIfInBounds_toArray, List.set_cons_zero, List.set_cons_succ]
            refine tk9 (.pointer (some ⟨g, i * 4, none⟩)) (by kernel_rfl) (by kernel_rfl) (by kernel_rfl) (fun _ _ _ h => h) rfl (fun w hSw => by (try dsimp only at hSw); have s0 := hSw; go_simp) (by assumption) ?_
            try simp only [Act.put, List.setIfInBounds_toArray, List.set_cons_zero, List.set_cons_succ]
            refine tk10 (.pointer (some ⟨g, i * 4 + 3, none⟩)) (by kernel_rfl) (by kernel_rfl) (by kernel_rfl) (fun _ _ _ h => h) rfl (fun w hSw => by (try dsimp only at hSw); have s0 := hSw; go_simp) (by assumption) ?_
            try simp only [Act.put, List.setIfInBounds_toArray, List.set_cons_zero, List.set_cons_succ]
            refine cl11 (by kernel_rfl) rfl (fun K hK => ?_)
            go_simp
            refine hK.out _ _ ?_ (fun hHeld => ?_)
            · exact (heap_setCell_other _ _ _ _ (fun e9 => HXE.out e9)).trans x8
            clear hK K
            try simp only [Act.put, List.setIfInBounds_toArray, List.set_cons_zero, List.set_cons_succ]
            refine wpAnyH_done (by kernel_rfl) ?_ _
            obtain ⟨S9, m9, k9⟩ := M1.out.wait HY.out.1 HT.out.2.2.2 HT.out.1 HT.out.2.1 HT.out.2.2.1 KK.out B8.out O8.out HN8.out
            obtain ⟨y9, hy9⟩ : ∃ z, z = y8.setCell ⟨g, i * 4 + 3, none⟩ (.slice p8 n8 c8) := ⟨_, rfl⟩
            rw [← hy9]
            rw [← hy9] at m9 k9
            have FQ : Hid (AskP w base D S q (.returned (.tuple #[.slice none 0 0, .bool true])) y9) := (show AskP w base D S q _ y9 from by rw [HQ.out]; exact ⟨_, S9, rfl, RowAt.nil _, m9, (Kept.of BW1.out).trans k9⟩)
            clear m9 k9 hy9 c1 f1 x8
            go_wp2
            go_ret2
            exact FQ.out
  have hq : askL c (L.map (·.k)) k s n nm = (c, L.map (·.k), [], false) := by unfold askL; rw [if_pos ⟨h5, h7⟩]
  rw [hq]
  obtain ⟨W, hW⟩ : ∃ W, W = w.alloc (.cells (cmA k s n nm m) cmT) := ⟨_, rfl⟩
  have bW : Below w.heap.size w W := by rw [hW]; exact (Below.refl _ w).alloc (Nat.le_refl _) _
  have rW : W.heap[w.heap.size]? = some (.cells (cmA k s n nm m) cmT (0, 0)) := by rw [hW]; exact heap_alloc_new w _
  have y0 : W.cell? ⟨w.heap.size, 0, none⟩ = some (.int .i64 k) := by simp [World.cell?, rW]
  have n5 : (k != 5) = true := by simpa using h5
  have n7 : (k != 7) = true := by simpa using h7
  have HW : Hid (w.alloc (.cells #[.int .i64 k, .int .i64 s, .int .i64 n, .string nm, .int .i64 m] cmT) = W) := hW.symm
  have HE : Hid (AskP w base D S (c, L.map (·.k), [], false) (.returned (.tuple #[.slice none 0 0, .bool false])) W) := ⟨_, S, rfl, RowAt.nil _, ⟨P, L, v, h.fresh bW, rfl⟩, Kept.of bW⟩
  clear hq hW bW rW h h5 h7
  go_enter Try.func11, Try.ntmps11
  go_upto_region 1 with fail
  rw [HW.out]
  go_wp2
  go_ret2
  exact HE.out
end Go.Proofs.Ytmfadmhbkgemmaa
/-
  While a lock is let go of: its holders laid anew; a lock's state carried on. No condition.
-/
namespace Go.Proofs.Ytmfadmhbkgemmaa
open Go.RowKit

structure RelP (w : World) (base D : Nat) (S : Nat → Prop) (q : Int × List Lk × List SeR) (e : Ending) (w' : World) : Prop where
  ex : ∃ u S', e = .returned u ∧ RowAt rpC w' u q.2.2 ∧ LoB w' base D S' q.1 q.2.1 ∧ Kept w w' S S'
theorem cur4_head {cur : List Value} {o : Nat} {hv qv hv' : Value} {b : Bool} : (cur4 cur o hv b qv).set (o + 1) hv' = cur4 cur o hv' b qv := by
  unfold cur4
  rw [List.set_comm _ _ (show o + 3 ≠ o + 1 by omega), List.set_comm _ _ (show o + 2 ≠ o + 1 by omega), List.set_set]
theorem cur4_cur4 {cur : List Value} {o : Nat} {hv qv hv' qv' : Value} {b b' : Bool} : cur4 (cur4 cur o hv b qv) o hv' b' qv' = cur4 cur o hv' b' qv' := by
  show (((cur4 cur o hv b qv).set (o + 1) hv').set (o + 2) (.bool b')).set (o + 3) qv' = _
  rw [cur4_give, cur4_tail]
section
variable {w wr w2 : World} {D B o : Nat} {v : Value} {cur : List Value} {P P' : Nat → Prop} {c c' : Int} {h h' : List Int} {b b' : Bool} {q q' : List Wq} {a1 a2 a3 a4 : Option Addr} {c1 c2 c3 c4 : Nat}
theorem LkS.setH (I : LkS w wr D B o v cur P c h b q a1 c1 a2 c2) {h' : List Int} {a3 : Option Addr} {c3 : Nat} (hr : OwnRow intC wr P D (.slice a3 h'.length c3) h') : LkS w (wr.setCell ⟨B, o + 1, none⟩ (.slice a3 h'.length c3)) D B o v cur P c h' b q a3 c3 a2 c2 := by
  have hk : ∀ g, g ≠ B → (wr.setCell ⟨B, o + 1, none⟩ (.slice a3 h'.length c3)).heap[g]? = wr.heap[g]? := fun g hg => heap_setCell_other _ _ _ _ hg
  have hs : wr.heap.size ≤ (wr.setCell ⟨B, o + 1, none⟩ (.slice a3 h'.length c3)).heap.size := by simp
  refine ⟨?_, hr.keep hs fun g hg _ => hk g (I.pb g hg).2.2, I.qr.keep hs fun g hg _ => hk g (I.pb g hg).2.2, kept_set I.k (Or.inr (Or.inl rfl)), (hk D I.ne.1).trans I.d, fun g hg => ⟨Nat.lt_of_lt_of_le (I.pb g hg).1 hs, (I.pb g hg).2⟩, I.ne, I.lc⟩
  rw [heap_setCell_same _ B _ _ _ _ I.blk]
  simp [cur4_head]
theorem LkS.restart (I : LkS w wr D B o v cur P c h b q a1 c1 a2 c2) : LkS wr wr D B o v (cur4 cur o (.slice a1 h.length c1) b (.slice a2 q.length c2)) P c h b q a1 c1 a2 c2 :=
  ⟨by rw [cur4_cur4]; exact I.blk, I.hr, I.qr, Kept.refl _ _, I.d, I.pb, ⟨I.ne.1, lt_of_block I.d, lt_of_block I.blk⟩, by rw [cur4_len]; exact I.lc⟩
theorem LkS.trans {X Y : Value} {bb : Bool} (I : LkS w wr D B o v cur P c h b q a1 c1 a2 c2) (I2 : LkS wr w2 D B o v (cur4 cur o X bb Y) P' c' h' b' q' a3 c3 a4 c4) : LkS w w2 D B o v cur P' c' h' b' q' a3 c3 a4 c4 := by
  have e := I2.blk
  rw [cur4_cur4] at e
  exact ⟨e, I2.hr, I2.qr, I.k.trans I2.k, I2.d, I2.pb, I.ne, I.lc⟩
end
theorem srvH_len : ∀ (q : List Wq) (c : Int) (h : List Int) (b : Bool), (srvH q c h b).2.2.2.2.length ≤ q.length
  | [], _, _, _ => Nat.le_refl _
  | x :: q, c, h, b => by
    unfold srvH
    split
    · exact Nat.succ_le_succ (srvH_len q _ _ _)
    · exact Nat.zero_le _
theorem two_blks (w : World) (o1 o2 : Obj) : ((w.alloc o1).alloc o2).heap[w.heap.size]? = some o1 ∧ ((w.alloc o1).alloc o2).heap[w.heap.size + 1]? = some o2 ∧ ((w.alloc o1).alloc o2).heap.size = w.heap.size + 2 := by
  have s1 : (w.alloc o1).heap.size = w.heap.size + 1 := by simp
  have a2 := heap_alloc_new (w.alloc o1) o2
  rw [s1] at a2
  exact ⟨(Below.heap_alloc _ _ _ (by rw [s1]; omega)).trans (heap_alloc_new w o1), a2, by simp⟩
/-- A reply that was just laid, as a row of one's own. -/
theorem own_one {w : World} {r : SeR} {base : Nat} (hb : base ≤ w.heap.size) : (w.alloc (.cells (rpA r) rpT)).ownsRow base rpT 5 (.slice (some ⟨w.heap.size, 0, none⟩) 1 1) 1 (rowL rpC [r]) :=
  own_shut (cur := rpC r) (heap_alloc_new w _) hb (Nat.le_refl _) (by unfold maxLen; omega) rfl rfl rfl
end Go.Proofs.Ytmfadmhbkgemmaa
/-
  The document's locks: a lock let go of. The conditions: lists are short, numbers are ints.
-/
namespace Go.Proofs.Ytmfadmhbkgemmaa
open Go.RowKit

set_option maxHeartbeats 51200000 in
set_option maxRecDepth 100000 in
theorem lorel_any {w : World} {base D : Nat} {S P : Nat → Prop} {L : List Lv} {v : Value} {c : Int} (h : LoM w base D S P L v c) (hl : L.length ≤ 65536) {N : Nat} (hN : N < 32768) (hok : ∀ x ∈ L, LkOk N x.k) (hc0 : 0 ≤ c) (hc1 : c ≤ 18446744073709551615) (k s n : Int) (nm : ByteArray) (m : Int) (hs : okI s) :
    Calls Try.prog 13 #[.pointer (some ⟨D, 0, none⟩), .agg (cmA k s n nm m)] w (RelP w base D S (relL c (L.map (·.k)) k s n nm)) := by
  have HO : Hid (okI s ∧ 0 ≤ c ∧ c ≤ 18446744073709551615) := (show Hid _ from (⟨hs, hc0, hc1⟩ : _ ∧ _ ∧ _))
  have HK : Hid (N < 32768 ∧ ∀ x ∈ L, LkOk N x.k) := (show Hid _ from (⟨hN, hok⟩ : _ ∧ _))
  clear hs hc0 hc1 hN hok
  by_cases h5 : k = 6
  · subst h5
    obtain ⟨e1, e2, e4⟩ := two_blks w (.cells (cmA 6 s n nm m) cmT) (.cells (rpA ⟨s, n, 0, 0, 0⟩) rpT)
    obtain ⟨W, hW⟩ : ∃ W, W = (w.alloc (.cells (cmA 6 s n nm m) cmT)).alloc (.cells (rpA ⟨s, n, 0, 0, 0⟩) rpT) := ⟨_, rfl⟩
    have bW : Below w.heap.size w W := by rw [hW]; exact ((Below.refl _ w).alloc (Nat.le_refl _) _).alloc (by simp) _
    rw [← hW] at e1 e2 e4
    have HW : Hid ((w.alloc (.cells #[.int .i64 6, .int .i64 s, .int .i64 n, .string nm, .int .i64 m] cmT)).alloc (.cells #[.int .i64 s, .int .i64 n, .int .i64 0, .int .u64 0, .int .i64 0] rpT) = W) := hW.symm
    have HB : Hid (W.heap[w.heap.size]? = some (.cells (cmA 6 s n nm m) cmT (0, 0)) ∧ RpAt W (w.heap.size + 1) ⟨s, n, 0, 0, 0⟩ ∧ W.heap.size = w.heap.size + 2) := (show Hid _ from (⟨e1, e2, e4⟩ : _ ∧ _ ∧ _))
    have HM : Hid (LoM W base D S P L v c) := h.fresh bW
    have BW : Hid (Below w.heap.size w W) := bW
    have HSL : Hid (∀ g, S g → g < w.heap.size) := fun g hg => (h.bd g hg).2
    have y0 : W.cell? ⟨w.heap.size, 0, none⟩ = some (.int .i64 6) := by simp [World.cell?, e1]
    have y1 : W.cell? ⟨w.heap.size, 1, none⟩ = some (.int .i64 s) := by simp [World.cell?, e1]
    have y3 : W.cell? ⟨w.heap.size, 3, none⟩ = some (.string nm) := by simp [World.cell?, e1]
    have HFD : Hid (Calls Try.prog 33 #[.pointer (some ⟨D, 0, none⟩), .string nm] W fun e w' => e = .returned (.int .i64 (ixI (lkIx (L.map (·.k)) nm))) ∧ w' = W) := lofind_any HM.out (by omega) nm
    have HLN : Hid (L.length ≤ 65536) := hl
    obtain ⟨q, hq⟩ : ∃ q, q = relL c (L.map (·.k)) 6 s n nm := ⟨_, rfl⟩
    rw [← hq]
    clear h bW hW e1 e2 e4
    cases hix : lkIx (L.map (·.k)) nm with
    | none =>
      rw [hix, show ixI none = -1 from rfl] at HFD
      have HQ : Hid (q = (c, L.map (·.k), [⟨s, n, 13, 0, 0⟩])) := (show q = _ from by rw [hq]; unfold relL; rw [if_neg (by decide), hix])
      clear hq hix
      go_enter Try.func13, Try.ntmps13
      go_upto_region 4 with fail
      rw [HW.out]
      go_upto_region 5 with (go_at_call 33; refine Calls.mono HFD.out ?_; rintro e w1 ⟨rfl, hw1⟩; rw [hw1]; clear hw1)
      go_quiet (fail)
      go_upto_region 6 with fail
      obtain ⟨w1, hw1⟩ : ∃ w1, w1 = W.drewN nq := ⟨_, rfl⟩
      rw [← hw1]
      have B1 : Hid (Below W.heap.size W w1) := by rw [hw1]; exact below_drewN (Below.refl _ W) _
      clear hw1 y0 y1 y3
      have R1 : Hid (RpAt w1 (w.heap.size + 1) ⟨s, n, 0, 0, 0⟩) := (B1.out.block _ (by have := HB.out.2.2; omega)).trans HB.out.2.1
      have M1 : Hid (LoM w1 base D S P L v c) := HM.out.fresh B1.out
      have BW1 : Hid (Below w.heap.size w w1) := bmm BW.out BW.out.size B1.out
      have x2 := R1.out.cell 2 _ rfl
      have f2 := R1.out.fz 2
      go_upto_region 7 with fail
      obtain ⟨w2, hw2⟩ : ∃ w2, w2 = w1.setCell ⟨w.heap.size + 1, 2, none⟩ (.int .i64 13) := ⟨_, rfl⟩
      rw [← hw2]
      have R2 : Hid (RpAt w2 (w.heap.size + 1) ⟨s, n, 13, 0, 0⟩) := by rw [hw2]; exact R1.out.set 2 _ rfl
      have B2 : Hid (Below w.heap.size w w2) := by rw [hw2]; exact BW1.out.setCell (by show w.heap.size ≤ w.heap.size + 1; omega) _
      have M2 : Hid (LoB w2 base D S c (L.map (·.k))) := by rw [hw2]; exact ⟨P, L, _, M1.out.keep (by simp) (fun b hb => heap_setCell_other _ _ _ _ (fun e => by have e : b = w.heap.size + 1 := e; have := HSL.out b hb; omega)), rfl⟩
      clear hw2 x2 f2
      have y0 := R2.out.cell 0 _ rfl
      have y1 := R2.out.cell 1 _ rfl
      have y2 := R2.out.cell 2 _ rfl
      have y3 := R2.out.cell 3 _ rfl
      have y4 := R2.out.cell 4 _ rfl
      go_wp2_with fail
      go_ret
      rw [HQ.out]
      exact ⟨.slice (some ⟨w2.heap.size, 0, none⟩) 1 1, S, rfl, (rp_one : RowAt rpC (w2.alloc (.cells (rpA ⟨s, n, 13, 0, 0⟩) rpT)) _ [(⟨s, n, 13, 0, 0⟩ : SeR)]), LoB.fresh M2.out ((Below.refl _ _).alloc (Nat.le_refl _) _), (Kept.of B2.out).trans (Kept.of ((Below.refl _ _).alloc (Nat.le_refl _) _))⟩
    | some i =>
      rw [hix, show ixI (some i) = (i : Int) from rfl] at HFD
      obtain ⟨y, hy, hyk, _, hi⟩ := lkIx_lv hix
      have hqs : q = if hasB y.k.h s = false ∨ y.k.wr ≠ true then (c, L.map (·.k), [⟨s, n, 13, 0, 0⟩]) else relS c (L.map (·.k)) i y.k s n := by rw [hq]; unfold relL; rw [if_neg (by decide), hix]; show (match (L.map (·.k))[i]? with | none => _ | some z => _) = _; rw [hyk]; rfl
      have HQS : Hid _ := hqs
      clear hq hix hyk hqs
      obtain ⟨g, cp, J⟩ := HM.out.at hy
      obtain rfl := J.form
      have l0 := HM.out.cell 0 _ rfl
      have j1 : (i : Int) < (L.length : Int) := by omega
      have j1' : decide ((i : Int) < (L.length : Int)) = true := decide_eq_true j1
      have j2 : (0 : Int) ≤ (i : Int) := by omega
      have j3 : decide ((i : Int) < 0) = false := decide_eq_false (by omega)
      have hlen : L.length ≤ 65536 := HLN.out
      have HY : Hid (L[i]? = some y ∧ LkOk N y.k) := (show Hid _ from (⟨hy, HK.out.2 y (List.mem_of_getElem? hy)⟩ : _ ∧ _))
      have BD : Hid (Below W.heap.size W W.drew) := (Below.refl _ W).drew
      have HHS : Hid (Calls Try.prog 39 #[.slice y.ha y.k.h.length y.hc, .int .i64 s] W.drew fun e w' => e = .returned (.bool (hasB y.k.h s)) ∧ w' = W.drew) := has_any _ _ _ _ (((HM.out.fresh BD.out).hq y (List.mem_of_getElem? hy)).h.at'.ints HY.out.2.hi (by have := HY.out.2.hl; have := HK.out.1; omega))
      have HS : Hid (∀ z, Below W.heap.size W z → ((∀ (j : Nat) (u : Value), (lvC y)[j]? = some u → z.cell? ⟨g, i * 4 + j, none⟩ = some u) ∧ z.cell? ⟨D, 0, none⟩ = some (.slice (some ⟨g, 0, none⟩) L.length cp) ∧ z.cell? ⟨w.heap.size, 1, none⟩ = some (.int .i64 s) ∧ z.cell? ⟨w.heap.size, 0, none⟩ = some (.int .i64 6))) := fun z b => ⟨fun j u hu => (b.cell (p := ⟨g, i * 4 + j, none⟩) (by exact J.gs.2.2.1)).trans (J.cell j u hu), (b.cell (p := ⟨D, 0, none⟩) (by exact lt_of_block HM.out.blk)).trans l0, (b.cell (p := ⟨w.heap.size, 1, none⟩) (by show w.heap.size < W.heap.size; have := HB.out.2.2; omega)).trans y1, (b.cell (p := ⟨w.heap.size, 0, none⟩) (by show w.heap.size < W.heap.size; have := HB.out.2.2; omega)).trans y0⟩
      clear hy J
      cases hhas : hasB y.k.h s with
      | false =>
        rw [hhas] at HHS
        have HQ : Hid (q = (c, L.map (·.k), [⟨s, n, 13, 0, 0⟩])) := (show q = _ from by rw [HQS.out, if_pos (Or.inl hhas)])
        clear hhas
        go_enter Try.func13, Try.ntmps13
        go_upto_region 4 with fail
        rw [HW.out]
        go_upto_region 5 with (go_at_call 33; refine Calls.mono HFD.out ?_; rintro e w1 ⟨rfl, hw1⟩; rw [hw1]; clear hw1)
        clear y0 y1 y3
        refine wp_region_held_drew (S := (fun z : World => (∀ (j : Nat) (u : Value), (lvC y)[j]? = some u → z.cell? ⟨g, i * 4 + j, none⟩ = some u) ∧ z.cell? ⟨D, 0, none⟩ = some (.slice (some ⟨g, 0, none⟩) L.length cp) ∧ z.cell? ⟨w.heap.size, 1, none⟩ = some (.int .i64 s) ∧ z.cell? ⟨w.heap.size, 0, none⟩ = some (.int .i64 6))) (by kernel_rfl) ?_ (fun hHeld0 => ?_)
        · exact HS.out _ (Below.refl _ W).drew
        refine tk0 (.int .i64 (i : Int)) (by kernel_rfl) (by kernel_rfl) (by kernel_rfl) (fun _ _ _ h => h) rfl (fun w hSw => by (try dsimp only at hSw); have s1 := hSw.1 1 _ rfl; have s5 := hSw.2.1; have s6 := hSw.2.2.1; have s7 := hSw.2.2.2; go_simp) (by assumption) ?_
        try simp only [Act.put, List.setIfInBounds_toArray, List.set_cons_zero, List.set_cons_succ]
        refine tk1 (.bool false) (by kernel_rfl) (by kernel_rfl) (by kernel_rfl) (fun _ _ _ h => h) rfl (fun w hSw => by (try dsimp only at hSw); have s1 := hSw.1 1 _ rfl; have s5 := hSw.2.1; have s6 := hSw.2.2.1; have s7 := hSw.2.2.2; go_simp) (by assumption) ?_
        try simp only [Act.put, List.setIfInBounds_toArray, List.set_cons_zero, List.set_cons_succ]
        refine tk2 (.bool false) (by kernel_rfl) (by kernel_rfl) (by kernel_rfl) (fun _ _ _ h => h) rfl (fun w hSw => by (try dsimp only at hSw); have s1 := hSw.1 1 _ rfl; have s5 := hSw.2.1; have s6 := hSw.2.2.1; have s7 := hSw.2.2.2; go_simp) (by assumption) ?_
        try simp only [Act.put, List.setIfInBounds_toArray, List.set_cons_zero, List.set_cons_succ]
        refine tk3 (.pointer (some ⟨D, 0, none⟩)) (by kernel_rfl) (by kernel_rfl) (by kernel_rfl) (fun _ _ _ h => h) rfl (fun w hSw => by (try dsimp only at hSw); have s1 := hSw.1 1 _ rfl; have s5 := hSw.2.1; have s6 := hSw.2.2.1; have s7 := hSw.2.2.2; go_simp) (by assumption) ?_
        try simp only [Act.put, List.setIfInBounds_toArray, List.set_cons_zero, List.set_cons_succ]
        refine tk4 (.pointer (some ⟨D, 0, none⟩)) (by kernel_rfl) (by kernel_rfl) (by kernel_rfl) (fun _ _ _ h => h) rfl (fun w hSw => by (try dsimp only at hSw); have s1 := hSw.1 1 _ rfl; have s5 := hSw.2.1; have s6 := hSw.2.2.1; have s7 := hSw.2.2.2; go_simp) (by assumption) ?_
        try simp only [Act.put, List.setIfInBounds_toArray, List.set_cons_zero, List.set_cons_succ]
        refine tk5 (.pointer (some ⟨D, 0, none⟩)) (by kernel_rfl) (by kernel_rfl) (by kernel_rfl) (fun _ _ _ h => h) rfl (fun w hSw => by (try dsimp only at hSw); have s1 := hSw.1 1 _ rfl; have s5 := hSw.2.1; have s6 := hSw.2.2.1; have s7 := hSw.2.2.2; go_simp) (by assumption) ?_
        try simp only [Act.put, List.setIfInBounds_toArray, List.set_cons_zero, List.set_cons_succ]
        refine tk6 (.slice (some ⟨g, 0, none⟩) L.length cp) (by kernel_rfl) (by kernel_rfl) (by kernel_rfl) (fun _ _ _ h => h) rfl (fun w hSw => by (try dsimp only at hSw); have s1 := hSw.1 1 _ rfl; have s5 := hSw.2.1; have s6 := hSw.2.2.1; have s7 := hSw.2.2.2; go_simp) (by assumption) ?_
        try simp only [Act.put, List.setIfInBounds_toArray, List.set_cons_zero, List.set_cons_succ]
        refine tk7 (.int .i64 (i : Int)) (by kernel_rfl) (by kernel_rfl) (by kernel_rfl) (fun _ _ _ h => h) rfl (fun w hSw => by (try dsimp only at hSw); have s1 := hSw.1 1 _ rfl; have s5 := hSw.2.1; have s6 := hSw.2.2.1; have s7 := hSw.2.2.2; go_simp) (by assumption) ?_
        try simp only [Act.put, List.setIfInBounds_toArray, List.set_cons_zero, List.set_cons_succ]
        refine tk8 (.pointer (some ⟨g, i * 4, none⟩)) (by kernel_rfl) (by kernel_rfl) (by kernel_rfl) (fun _ _ _ h => h) rfl (fun w hSw => by (try dsimp only at hSw); have s1 := hSw.1 1 _ rfl; have s5 := hSw.2.1; have s6 := hSw.2.2.1; have s7 := hSw.2.2.2; go_simp) (by assumption) ?_
        try simp only [Act.put, List.setIfInBounds_toArray, List.set_cons_zero, List.set_cons_succ]
        refine tk9 (.pointer (some ⟨g, i * 4 + 1, none⟩)) (by kernel_rfl) (by kernel_rfl) (by kernel_rfl) (fun _ _ _ h => h) rfl (fun w hSw => by (try dsimp only at hSw); have s1 := hSw.1 1 _ rfl; have s5 := hSw.2.1; have s6 := hSw.2.2.1; have s7 := hSw.2.2.2; go_simp) (by assumption) ?_
        try simp only [Act.put, List.setIfInBounds_toArray, List.set_cons_zero, List.set_cons_succ]
        refine tk10 (.slice y.ha y.k.h.length y.hc) (by kernel_rfl) (by kernel_rfl) (by kernel_rfl) (fun _ _ _ h => h) rfl (fun w hSw => by (try dsimp only at hSw); have s1 := hSw.1 1 _ rfl; have s5 := hSw.2.1; have s6 := hSw.2.2.1; have s7 := hSw.2.2.2; go_simp) (by assumption) ?_
        try simp only [Act.put, List.setIfInBounds_toArray, List.set_cons_zero, List.set_cons_succ]
        refine tk11 (.pointer (some ⟨w.heap.size, 1, none⟩)) (by kernel_rfl) (by kernel_rfl) (by kernel_rfl) (fun _ _ _ h => h) rfl (fun w hSw => by (try dsimp only at hSw); have s1 := hSw.1 1 _ rfl; have s5 := hSw.2.1; have s6 := hSw.2.2.1; have s7 := hSw.2.2.2; go_simp) (by assumption) ?_
        try simp only [Act.put, List.setIfInBounds_toArray, List.set_cons_zero, List.set_cons_succ]
        refine tk12 (.int .i64 s) (by kernel_rfl) (by kernel_rfl) (by kernel_rfl) (fun _ _ _ h => h) rfl (fun w hSw => by (try dsimp only at hSw); have s1 := hSw.1 1 _ rfl; have s5 := hSw.2.1; have s6 := hSw.2.2.1; have s7 := hSw.2.2.2; go_simp) (by assumption) ?_
        try simp only [Act.put, List.setIfInBounds_toArray, List.set_cons_zero, List.set_cons_succ]
        refine cl13 (by kernel_rfl) rfl (fun K hK => ?_)
        go_simp
        go_at_call 39
        refine Calls.mono HHS.out ?_
        rintro e w1 ⟨rfl, hw1⟩
        rw [hw1]
        clear hw1
        refine hK.out _ _ ?_ (fun hHeld => ?_)
        · exact HS.out _ (Below.refl _ W).drew
        clear hK K
        try simp only [Act.put, List.setIfInBounds_toArray, List.set_cons_zero, List.set_cons_succ]
        refine tk14 (.bool true) (by kernel_rfl) (by kernel_rfl) (by kernel_rfl) (fun _ _ _ h => h) rfl (fun w hSw => by (try dsimp only at hSw); have s1 := hSw.1 1 _ rfl; have s5 := hSw.2.1; have s6 := hSw.2.2.1; have s7 := hSw.2.2.2; go_simp) (by assumption) ?_
        try simp only [Act.put, List.setIfInBounds_toArray, List.set_cons_zero, List.set_cons_succ]
        refine tk15 (.bool true) (by kernel_rfl) (by kernel_rfl) (by kernel_rfl) (fun _ _ _ h => h) rfl (fun w hSw => by (try dsimp only at hSw); have s1 := hSw.1 1 _ rfl; have s5 := hSw.2.1; have s6 := hSw.2.2.1; have s7 := hSw.2.2.2; go_simp) (by assumption) ?_
        try simp only [Act.put, List.setIfInBounds_toArray, List.set_cons_zero, List.set_cons_succ]
        refine tk16 (.bool true) (by kernel_rfl) (by kernel_rfl) (by kernel_rfl) (fun _ _ _ h => h) rfl (fun w hSw => by (try dsimp only at hSw); have s1 := hSw.1 1 _ rfl; have s5 := hSw.2.1; have s6 := hSw.2.2.1; have s7 := hSw.2.2.2; go_simp) (by assumption) ?_
        try simp only [Act.put, List.setIfInBounds_toArray, List.set_cons_zero, List.set_cons_succ]
        refine sk17 (by kernel_rfl) (by kernel_rfl) (by kernel_rfl) (fun _ _ _ h => h) rfl (by assumption) ?_
        try simp only [Act.put, List.setIfInBounds_toArray, List.set_cons_zero, List.set_cons_succ]
        refine sk18 (by kernel_rfl) (by kernel_rfl) (by kernel_rfl) (fun _ _ _ h => h) rfl (by assumption) ?_
        try simp only [Act.put, List.setIfInBounds_toArray, List.set_cons_zero, List.set_cons_succ]
        refine sk19 (by kernel_rfl) (by kernel_rfl) (by kernel_rfl) (fun _ _ _ h => h) rfl (by assumption) ?_
        try simp only [Act.put, List.setIfInBounds_toArray, List.set_cons_zero, List.set_cons_succ]
        refine sk20 (by kernel_rfl) (by kernel_rfl) (by kernel_rfl) (fun _ _ _ h => h) rfl (by assumption) ?_
        try simp only [Act.put, List.setIfInBounds_toArray, List.set_cons_zero, List.set_cons_succ]
        refine sk21 (by kernel_rfl) (by kernel_rfl) (by kernel_rfl) (fun _ _ _ h => h) rfl (by assumption) ?_
        try simp only [Act.put, List.setIfInBounds_toArray, List.set_cons_zero, List.set_cons_succ]
        refine sk22 (by kernel_rfl) (by kernel_rfl) (by kernel_rfl) (fun _ _ _ h => h) rfl (by assumption) ?_
        try simp only [Act.put, List.setIfInBounds_toArray, List.set_cons_zero, List.set_cons_succ]
        refine sk23 (by kernel_rfl) (by kernel_rfl) (by kernel_rfl) (fun _ _ _ h => h) rfl (by assumption) ?_
        try simp only [Act.put, List.setIfInBounds_toArray, List.set_cons_zero, List.set_cons_succ]
        refine sk24 (by kernel_rfl) (by kernel_rfl) (by kernel_rfl) (fun _ _ _ h => h) rfl (by assumption) ?_
        try simp only [Act.put, List.setIfInBounds_toArray, List.set_cons_zero, List.set_cons_succ]
        refine sk25 (by kernel_rfl) (by kernel_rfl) (by kernel_rfl) (fun _ _ _ h => h) rfl (by assumption) ?_
        try simp only [Act.put, List.setIfInBounds_toArray, List.set_cons_zero, List.set_cons_succ]
        refine sk26 (by kernel_rfl) (by kernel_rfl) (by kernel_rfl) (fun _ _ _ h => h) rfl (by assumption) ?_
        try simp only [Act.put, List.setIfInBounds_toArray, List.set_cons_zero, List.set_cons_succ]
        refine sk27 (by kernel_rfl) (by kernel_rfl) (by kernel_rfl) (fun _ _ _ h => h) rfl (by assumption) ?_
        try simp only [Act.put, List.setIfInBounds_toArray, List.set_cons_zero, List.set_cons_succ]
        refine sk28 (by kernel_rfl) (by kernel_rfl) (by kernel_rfl) (fun _ _ _ h => h) rfl (by assumption) ?_
        try simp only [Act.put, List.setIfInBounds_toArray, List.set_cons_zero, List.set_cons_succ]
        refine tk29 (.bool true) (by kernel_rfl) (by kernel_rfl) (by kernel_rfl) (fun _ _ _ h => h) rfl (fun w hSw => by (try dsimp only at hSw); have s1 := hSw.1 1 _ rfl; have s5 := hSw.2.1; have s6 := hSw.2.2.1; have s7 := hSw.2.2.2; go_simp) (by assumption) ?_
        try simp only [Act.put, List.setIfInBounds_toArray, List.set_cons_zero, List.set_cons_succ]
        refine wpAnyH_done (by kernel_rfl) ?_ _
        obtain ⟨w1, hw1⟩ : ∃ w1, w1 = W.drew := ⟨_, rfl⟩
        rw [← hw1]
        have B1 : Hid (Below W.heap.size W w1) := by rw [hw1]; exact (Below.refl _ W).drew
        clear hw1
        have R1 : Hid (RpAt w1 (w.heap.size + 1) ⟨s, n, 0, 0, 0⟩) := (B1.out.block _ (by have := HB.out.2.2; omega)).trans HB.out.2.1
        have M1 : Hid (LoM w1 base D S P L (.slice (some ⟨g, 0, none⟩) L.length cp) c) := HM.out.fresh B1.out
        have BW1 : Hid (Below w.heap.size w w1) := bmm BW.out BW.out.size B1.out
        have x2 := R1.out.cell 2 _ rfl
        have f2 := R1.out.fz 2
        go_upto_region 7 with fail
        obtain ⟨w2, hw2⟩ : ∃ w2, w2 = w1.setCell ⟨w.heap.size + 1, 2, none⟩ (.int .i64 13) := ⟨_, rfl⟩
        rw [← hw2]
        have R2 : Hid (RpAt w2 (w.heap.size + 1) ⟨s, n, 13, 0, 0⟩) := by rw [hw2]; exact R1.out.set 2 _ rfl
        have B2 : Hid (Below w.heap.size w w2) := by rw [hw2]; exact BW1.out.setCell (by show w.heap.size ≤ w.heap.size + 1; omega) _
        have M2 : Hid (LoB w2 base D S c (L.map (·.k))) := by rw [hw2]; exact ⟨P, L, _, M1.out.keep (by simp) (fun b hb => heap_setCell_other _ _ _ _ (fun e => by have e : b = w.heap.size + 1 := e; have := HSL.out b hb; omega)), rfl⟩
        clear hw2 x2 f2
        have y0 := R2.out.cell 0 _ rfl
        have y1 := R2.out.cell 1 _ rfl
        have y2 := R2.out.cell 2 _ rfl
        have y3 := R2.out.cell 3 _ rfl
        have y4 := R2.out.cell 4 _ rfl
        go_wp2_with fail
        go_ret
        rw [HQ.out]
        exact ⟨.slice (some ⟨w2.heap.size, 0, none⟩) 1 1, S, rfl, (rp_one : RowAt rpC (w2.alloc (.cells (rpA ⟨s, n, 13, 0, 0⟩) rpT)) _ [(⟨s, n, 13, 0, 0⟩ : SeR)]), LoB.fresh M2.out ((Below.refl _ _).alloc (Nat.le_refl _) _), (Kept.of B2.out).trans (Kept.of ((Below.refl _ _).alloc (Nat.le_refl _) _))⟩
      | true =>
        rw [hhas] at HHS
        cases hwr : y.k.wr with
        | false =>
          have HQ : Hid (q = (c, L.map (·.k), [⟨s, n, 13, 0, 0⟩])) := (show q = _ from by rw [HQS.out, if_pos (Or.inr (by rw [hwr]; decide))])
          have HWR : Hid (y.k.wr = false) := hwr
          clear hhas hwr
          go_enter Try.func13, Try.ntmps13
          go_upto_region 4 with fail
          rw [HW.out]
          go_upto_region 5 with (go_at_call 33; refine Calls.mono HFD.out ?_; rintro e w1 ⟨rfl, hw1⟩; rw [hw1]; clear hw1)
          clear y0 y1 y3
          refine wp_region_held_drew (S := (fun z : World => (∀ (j : Nat) (u : Value), (lvC y)[j]? = some u → z.cell? ⟨g, i * 4 + j, none⟩ = some u) ∧ z.cell? ⟨D, 0, none⟩ = some (.slice (some ⟨g, 0, none⟩) L.length cp) ∧ z.cell? ⟨w.heap.size, 1, none⟩ = some (.int .i64 s) ∧ z.cell? ⟨w.heap.size, 0, none⟩ = some (.int .i64 6))) (by kernel_rfl) ?_ (fun hHeld0 => ?_)
          · exact HS.out _ (Below.refl _ W).drew
          refine tk0 (.int .i64 (i : Int)) (by kernel_rfl) (by kernel_rfl) (by kernel_rfl) (fun _ _ _ h => h) rfl (fun w hSw => by (try dsimp only at hSw); have s1 := hSw.1 1 _ rfl; have s2 := hSw.1 2 _ rfl; rw [HWR.out] at s2; have s5 := hSw.2.1; have s6 := hSw.2.2.1; have s7 := hSw.2.2.2; go_simp) (by assumption) ?_
          try simp only [Act.put, List.setIfInBounds_toArray, List.set_cons_zero, List.set_cons_succ]
          refine tk1 (.bool false) (by kernel_rfl) (by kernel_rfl) (by kernel_rfl) (fun _ _ _ h => h) rfl (fun w hSw => by (try dsimp only at hSw); have s1 := hSw.1 1 _ rfl; have s2 := hSw.1 2 _ rfl; rw [HWR.out] at s2; have s5 := hSw.2.1; have s6 := hSw.2.2.1; have s7 := hSw.2.2.2; go_simp) (by assumption) ?_
          try simp only [Act.put, List.setIfInBounds_toArray, List.set_cons_zero, List.set_cons_succ]
          refine tk2 (.bool false) (by kernel_rfl) (by kernel_rfl) (by kernel_rfl) (fun _ _ _ h => h) rfl (fun w hSw => by (try dsimp only at hSw); have s1 := hSw.1 1 _ rfl; have s2 := hSw.1 2 _ rfl; rw [HWR.out] at s2; have s5 := hSw.2.1; have s6 := hSw.2.2.1; have s7 := hSw.2.2.2; go_simp) (by assumption) ?_
          try simp only [Act.put, List.setIfInBounds_toArray, List.set_cons_zero, List.set_cons_succ]
          refine tk3 (.pointer (some ⟨D, 0, none⟩)) (by kernel_rfl) (by kernel_rfl) (by kernel_rfl) (fun _ _ _ h => h) rfl (fun w hSw => by (try dsimp only at hSw); have s1 := hSw.1 1 _ rfl; have s2 := hSw.1 2 _ rfl; rw [HWR.out] at s2; have s5 := hSw.2.1; have s6 := hSw.2.2.1; have s7 := hSw.2.2.2; go_simp) (by assumption) ?_
          try simp only [Act.put, List.setIfInBounds_toArray, List.set_cons_zero, List.set_cons_succ]
          refine tk4 (.pointer (some ⟨D, 0, none⟩)) (by kernel_rfl) (by kernel_rfl) (by kernel_rfl) (fun _ _ _ h => h) rfl (fun w hSw => by (try dsimp only at hSw); have s1 := hSw.1 1 _ rfl; have s2 := hSw.1 2 _ rfl; rw [HWR.out] at s2; have s5 := hSw.2.1; have s6 := hSw.2.2.1; have s7 := hSw.2.2.2; go_simp) (by assumption) ?_
          try simp only [Act.put, List.setIfInBounds_toArray, List.set_cons_zero, List.set_cons_succ]
          refine tk5 (.pointer (some ⟨D, 0, none⟩)) (by kernel_rfl) (by kernel_rfl) (by kernel_rfl) (fun _ _ _ h => h) rfl (fun w hSw => by (try dsimp only at hSw); have s1 := hSw.1 1 _ rfl; have s2 := hSw.1 2 _ rfl; rw [HWR.out] at s2; have s5 := hSw.2.1; have s6 := hSw.2.2.1; have s7 := hSw.2.2.2; go_simp) (by assumption) ?_
          try simp only [Act.put, List.setIfInBounds_toArray, List.set_cons_zero, List.set_cons_succ]
          refine tk6 (.slice (some ⟨g, 0, none⟩) L.length cp) (by kernel_rfl) (by kernel_rfl) (by kernel_rfl) (fun _ _ _ h => h) rfl (fun w hSw => by (try dsimp only at hSw); have s1 := hSw.1 1 _ rfl; have s2 := hSw.1 2 _ rfl; rw [HWR.out] at s2; have s5 := hSw.2.1; have s6 := hSw.2.2.1; have s7 := hSw.2.2.2; go_simp) (by assumption) ?_
          try simp only [Act.put, List.setIfInBounds_toArray, List.set_cons_zero, List.set_cons_succ]
          refine tk7 (.int .i64 (i : Int)) (by kernel_rfl) (by kernel_rfl) (by kernel_rfl) (fun _ _ _ h => h) rfl (fun w hSw => by (try dsimp only at hSw); have s1 := hSw.1 1 _ rfl; have s2 := hSw.1 2 _ rfl; rw [HWR.out] at s2; have s5 := hSw.2.1; have s6 := hSw.2.2.1; have s7 := hSw.2.2.2; go_simp) (by assumption) ?_
          try simp only [Act.put, List.setIfInBounds_toArray, List.set_cons_zero, List.set_cons_succ]
          refine tk8 (.pointer (some ⟨g, i * 4, none⟩)) (by kernel_rfl) (by kernel_rfl) (by kernel_rfl) (fun _ _ _ h => h) rfl (fun w hSw => by (try dsimp only at hSw); have s1 := hSw.1 1 _ rfl; have s2 := hSw.1 2 _ rfl; rw [HWR.out] at s2; have s5 := hSw.2.1; have s6 := hSw.2.2.1; have s7 := hSw.2.2.2; go_simp) (by assumption) ?_
          try simp only [Act.put, List.setIfInBounds_toArray, List.set_cons_zero, List.set_cons_succ]
          refine tk9 (.pointer (some ⟨g, i * 4 + 1, none⟩)) (by kernel_rfl) (by kernel_rfl) (by kernel_rfl) (fun _ _ _ h => h) rfl (fun w hSw => by (try dsimp only at hSw); have s1 := hSw.1 1 _ rfl; have s2 := hSw.1 2 _ rfl; rw [HWR.out] at s2; have s5 := hSw.2.1; have s6 := hSw.2.2.1; have s7 := hSw.2.2.2; go_simp) (by assumption) ?_
          try simp only [Act.put, List.setIfInBounds_toArray, List.set_cons_zero, List.set_cons_succ]
          refine tk10 (.slice y.ha y.k.h.length y.hc) (by kernel_rfl) (by kernel_rfl) (by kernel_rfl) (fun _ _ _ h => h) rfl (fun w hSw => by (try dsimp only at hSw); have s1 := hSw.1 1 _ rfl; have s2 := hSw.1 2 _ rfl; rw [HWR.out] at s2; have s5 := hSw.2.1; have s6 := hSw.2.2.1; have s7 := hSw.2.2.2; go_simp) (by assumption) ?_
          try simp only [Act.put, List.setIfInBounds_toArray, List.set_cons_zero, List.set_cons_succ]
          refine tk11 (.pointer (some ⟨w.heap.size, 1, none⟩)) (by kernel_rfl) (by kernel_rfl) (by kernel_rfl) (fun _ _ _ h => h) rfl (fun w hSw => by (try dsimp only at hSw); have s1 := hSw.1 1 _ rfl; have s2 := hSw.1 2 _ rfl; rw [HWR.out] at s2; have s5 := hSw.2.1; have s6 := hSw.2.2.1; have s7 := hSw.2.2.2; go_simp) (by assumption) ?_
          try simp only [Act.put, List.setIfInBounds_toArray, List.set_cons_zero, List.set_cons_succ]
          refine tk12 (.int .i64 s) (by kernel_rfl) (by kernel_rfl) (by kernel_rfl) (fun _ _ _ h => h) rfl (fun w hSw => by (try dsimp only at hSw); have s1 := hSw.1 1 _ rfl; have s2 := hSw.1 2 _ rfl; rw [HWR.out] at s2; have s5 := hSw.2.1; have s6 := hSw.2.2.1; have s7 := hSw.2.2.2; go_simp) (by assumption) ?_
          try simp only [Act.put, List.setIfInBounds_toArray, List.set_cons_zero, List.set_cons_succ]
          refine cl13 (by kernel_rfl) rfl (fun K hK => ?_)
          go_simp
          go_at_call 39
          refine Calls.mono HHS.out ?_
          rintro e w1 ⟨rfl, hw1⟩
          rw [hw1]
          clear hw1
          refine hK.out _ _ ?_ (fun hHeld => ?_)
          · exact HS.out _ (Below.refl _ W).drew
          clear hK K
          try simp only [Act.put, List.setIfInBounds_toArray, List.set_cons_zero, List.set_cons_succ]
          refine tk14 (.bool false) (by kernel_rfl) (by kernel_rfl) (by kernel_rfl) (fun _ _ _ h => h) rfl (fun w hSw => by (try dsimp only at hSw); have s1 := hSw.1 1 _ rfl; have s2 := hSw.1 2 _ rfl; rw [HWR.out] at s2; have s5 := hSw.2.1; have s6 := hSw.2.2.1; have s7 := hSw.2.2.2; go_simp) (by assumption) ?_
          try simp only [Act.put, List.setIfInBounds_toArray, List.set_cons_zero, List.set_cons_succ]
          refine tk15 (.bool false) (by kernel_rfl) (by kernel_rfl) (by kernel_rfl) (fun _ _ _ h => h) rfl (fun w hSw => by (try dsimp only at hSw); have s1 := hSw.1 1 _ rfl; have s2 := hSw.1 2 _ rfl; rw [HWR.out] at s2; have s5 := hSw.2.1; have s6 := hSw.2.2.1; have s7 := hSw.2.2.2; go_simp) (by assumption) ?_
          try simp only [Act.put, List.setIfInBounds_toArray, List.set_cons_zero, List.set_cons_succ]
          refine tk16 (.bool false) (by kernel_rfl) (by kernel_rfl) (by kernel_rfl) (fun _ _ _ h => h) rfl (fun w hSw => by (try dsimp only at hSw); have s1 := hSw.1 1 _ rfl; have s2 := hSw.1 2 _ rfl; rw [HWR.out] at s2; have s5 := hSw.2.1; have s6 := hSw.2.2.1; have s7 := hSw.2.2.2; go_simp) (by assumption) ?_
          try simp only [Act.put, List.setIfInBounds_toArray, List.set_cons_zero, List.set_cons_succ]
          refine tk17 (.pointer (some ⟨D, 0, none⟩)) (by kernel_rfl) (by kernel_rfl) (by kernel_rfl) (fun _ _ _ h => h) rfl (fun w hSw => by (try dsimp only at hSw); have s1 := hSw.1 1 _ rfl; have s2 := hSw.1 2 _ rfl; rw [HWR.out] at s2; have s5 := hSw.2.1; have s6 := hSw.2.2.1; have s7 := hSw.2.2.2; go_simp) (by assumption) ?_
          try simp only [Act.put, List.setIfInBounds_toArray, List.set_cons_zero, List.set_cons_succ]
          refine tk18 (.pointer (some ⟨D, 0, none⟩)) (by kernel_rfl) (by kernel_rfl) (by kernel_rfl) (fun _ _ _ h => h) rfl (fun w hSw => by (try dsimp only at hSw); have s1 := hSw.1 1 _ rfl; have s2 := hSw.1 2 _ rfl; rw [HWR.out] at s2; have s5 := hSw.2.1; have s6 := hSw.2.2.1; have s7 := hSw.2.2.2; go_simp) (by assumption) ?_
          try simp only [Act.put, List.setIfInBounds_toArray, List.set_cons_zero, List.set_cons_succ]
          refine tk19 (.pointer (some ⟨D, 0, none⟩)) (by kernel_rfl) (by kernel_rfl) (by kernel_rfl) (fun _ _ _ h => h) rfl (fun w hSw => by (try dsimp only at hSw); have s1 := hSw.1 1 _ rfl; have s2 := hSw.1 2 _ rfl; rw [HWR.out] at s2; have s5 := hSw.2.1; have s6 := hSw.2.2.1; have s7 := hSw.2.2.2; go_simp) (by assumption) ?_
          try simp only [Act.put, List.setIfInBounds_toArray, List.set_cons_zero, List.set_cons_succ]
          refine tk20 (.slice (some ⟨g, 0, none⟩) L.length cp) (by kernel_rfl) (by kernel_rfl) (by kernel_rfl) (fun _ _ _ h => h) rfl (fun w hSw => by (try dsimp only at hSw); have s1 := hSw.1 1 _ rfl; have s2 := hSw.1 2 _ rfl; rw [HWR.out] at s2; have s5 := hSw.2.1; have s6 := hSw.2.2.1; have s7 := hSw.2.2.2; go_simp) (by assumption) ?_
          try simp only [Act.put, List.setIfInBounds_toArray, List.set_cons_zero, List.set_cons_succ]
          refine tk21 (.int .i64 (i : Int)) (by kernel_rfl) (by kernel_rfl) (by kernel_rfl) (fun _ _ _ h => h) rfl (fun w hSw => by (try dsimp only at hSw); have s1 := hSw.1 1 _ rfl; have s2 := hSw.1 2 _ rfl; rw [HWR.out] at s2; have s5 := hSw.2.1; have s6 := hSw.2.2.1; have s7 := hSw.2.2.2; go_simp) (by assumption) ?_
          try simp only [Act.put, List.setIfInBounds_toArray, List.set_cons_zero, List.set_cons_succ]
          refine tk22 (.pointer (some ⟨g, i * 4, none⟩)) (by kernel_rfl) (by kernel_rfl) (by kernel_rfl) (fun _ _ _ h => h) rfl (fun w hSw => by (try dsimp only at hSw); have s1 := hSw.1 1 _ rfl; have s2 := hSw.1 2 _ rfl; rw [HWR.out] at s2; have s5 := hSw.2.1; have s6 := hSw.2.2.1; have s7 := hSw.2.2.2; go_simp) (by assumption) ?_
          try simp only [Act.put, List.setIfInBounds_toArray, List.set_cons_zero, List.set_cons_succ]
          refine tk23 (.pointer (some ⟨g, i * 4 + 2, none⟩)) (by kernel_rfl) (by kernel_rfl) (by kernel_rfl) (fun _ _ _ h => h) rfl (fun w hSw => by (try dsimp only at hSw); have s1 := hSw.1 1 _ rfl; have s2 := hSw.1 2 _ rfl; rw [HWR.out] at s2; have s5 := hSw.2.1; have s6 := hSw.2.2.1; have s7 := hSw.2.2.2; go_simp) (by assumption) ?_
          try simp only [Act.put, List.setIfInBounds_toArray, List.set_cons_zero, List.set_cons_succ]
          refine tk24 (.bool false) (by kernel_rfl) (by kernel_rfl) (by kernel_rfl) (fun _ _ _ h => h) rfl (fun w hSw => by (try dsimp only at hSw); have s1 := hSw.1 1 _ rfl; have s2 := hSw.1 2 _ rfl; rw [HWR.out] at s2; have s5 := hSw.2.1; have s6 := hSw.2.2.1; have s7 := hSw.2.2.2; go_simp) (by assumption) ?_
          try simp only [Act.put, List.setIfInBounds_toArray, List.set_cons_zero, List.set_cons_succ]
          refine tk25 (.pointer (some ⟨w.heap.size, 0, none⟩)) (by kernel_rfl) (by kernel_rfl) (by kernel_rfl) (fun _ _ _ h => h) rfl (fun w hSw => by (try dsimp only at hSw); have s1 := hSw.1 1 _ rfl; have s2 := hSw.1 2 _ rfl; rw [HWR.out] at s2; have s5 := hSw.2.1; have s6 := hSw.2.2.1; have s7 := hSw.2.2.2; go_simp) (by assumption) ?_
          try simp only [Act.put, List.setIfInBounds_toArray, List.set_cons_zero, List.set_cons_succ]
          refine tk26 (.int .i64 6) (by kernel_rfl) (by kernel_rfl) (by kernel_rfl) (fun _ _ _ h => h) rfl (fun w hSw => by (try dsimp only at hSw); have s1 := hSw.1 1 _ rfl; have s2 := hSw.1 2 _ rfl; rw [HWR.out] at s2; have s5 := hSw.2.1; have s6 := hSw.2.2.1; have s7 := hSw.2.2.2; go_simp) (by assumption) ?_
          try simp only [Act.put, List.setIfInBounds_toArray, List.set_cons_zero, List.set_cons_succ]
          refine tk27 (.bool true) (by kernel_rfl) (by kernel_rfl) (by kernel_rfl) (fun _ _ _ h => h) rfl (fun w hSw => by (try dsimp only at hSw); have s1 := hSw.1 1 _ rfl; have s2 := hSw.1 2 _ rfl; rw [HWR.out] at s2; have s5 := hSw.2.1; have s6 := hSw.2.2.1; have s7 := hSw.2.2.2; go_simp) (by assumption) ?_
          try simp only [Act.put, List.setIfInBounds_toArray, List.set_cons_zero, List.set_cons_succ]
          refine tk28 (.bool true) (by kernel_rfl) (by kernel_rfl) (by kernel_rfl) (fun _ _ _ h => h) rfl (fun w hSw => by (try dsimp only at hSw); have s1 := hSw.1 1 _ rfl; have s2 := hSw.1 2 _ rfl; rw [HWR.out] at s2; have s5 := hSw.2.1; have s6 := hSw.2.2.1; have s7 := hSw.2.2.2; go_simp) (by assumption) ?_
          try simp only [Act.put, List.setIfInBounds_toArray, List.set_cons_zero, List.set_cons_succ]
          refine tk29 (.bool true) (by kernel_rfl) (by kernel_rfl) (by kernel_rfl) (fun _ _ _ h => h) rfl (fun w hSw => by (try dsimp only at hSw); have s1 := hSw.1 1 _ rfl; have s2 := hSw.1 2 _ rfl; rw [HWR.out] at s2; have s5 := hSw.2.1; have s6 := hSw.2.2.1; have s7 := hSw.2.2.2; go_simp) (by assumption) ?_
          try simp only [Act.put, List.setIfInBounds_toArray, List.set_cons_zero, List.set_cons_succ]
          refine wpAnyH_done (by kernel_rfl) ?_ _
          obtain ⟨w1, hw1⟩ : ∃ w1, w1 = W.drew := ⟨_, rfl⟩
          rw [← hw1]
          have B1 : Hid (Below W.heap.size W w1) := by rw [hw1]; exact (Below.refl _ W).drew
          clear hw1
          have R1 : Hid (RpAt w1 (w.heap.size + 1) ⟨s, n, 0, 0, 0⟩) := (B1.out.block _ (by have := HB.out.2.2; omega)).trans HB.out.2.1
          have M1 : Hid (LoM w1 base D S P L (.slice (some ⟨g, 0, none⟩) L.length cp) c) := HM.out.fresh B1.out
          have BW1 : Hid (Below w.heap.size w w1) := bmm BW.out BW.out.size B1.out
          have x2 := R1.out.cell 2 _ rfl
          have f2 := R1.out.fz 2
          go_upto_region 7 with fail
          obtain ⟨w2, hw2⟩ : ∃ w2, w2 = w1.setCell ⟨w.heap.size + 1, 2, none⟩ (.int .i64 13) := ⟨_, rfl⟩
          rw [← hw2]
          have R2 : Hid (RpAt w2 (w.heap.size + 1) ⟨s, n, 13, 0, 0⟩) := by rw [hw2]; exact R1.out.set 2 _ rfl
          have B2 : Hid (Below w.heap.size w w2) := by rw [hw2]; exact BW1.out.setCell (by show w.heap.size ≤ w.heap.size + 1; omega) _
          have M2 : Hid (LoB w2 base D S c (L.map (·.k))) := by rw [hw2]; exact ⟨P, L, _, M1.out.keep (by simp) (fun b hb => heap_setCell_other _ _ _ _ (fun e => by have e : b = w.heap.size + 1 := e; have := HSL.out b hb; omega)), rfl⟩
          clear hw2 x2 f2
          have y0 := R2.out.cell 0 _ rfl
          have y1 := R2.out.cell 1 _ rfl
          have y2 := R2.out.cell 2 _ rfl
          have y3 := R2.out.cell 3 _ rfl
          have y4 := R2.out.cell 4 _ rfl
          go_wp2_with fail
          go_ret
          rw [HQ.out]
          exact ⟨.slice (some ⟨w2.heap.size, 0, none⟩) 1 1, S, rfl, (rp_one : RowAt rpC (w2.alloc (.cells (rpA ⟨s, n, 13, 0, 0⟩) rpT)) _ [(⟨s, n, 13, 0, 0⟩ : SeR)]), LoB.fresh M2.out ((Below.refl _ _).alloc (Nat.le_refl _) _), (Kept.of B2.out).trans (Kept.of ((Below.refl _ _).alloc (Nat.le_refl _) _))⟩
        | true =>
          have HQ : Hid (q = relS c (L.map (·.k)) i y.k s n) := (show q = _ from by rw [HQS.out, if_neg (fun e => e.elim (fun e => by rw [hhas] at e; cases e) (fun e => e hwr))])
          have HWR : Hid (y.k.wr = true) := hwr
          clear hhas hwr
          go_enter Try.func13, Try.ntmps13
          go_upto_region 4 with fail
          rw [HW.out]
          go_upto_region 5 with (go_at_call 33; refine Calls.mono HFD.out ?_; rintro e w1 ⟨rfl, hw1⟩; rw [hw1]; clear hw1)
          clear y0 y1 y3
          refine wp_region_held_drew (S := (fun z : World => (∀ (j : Nat) (u : Value), (lvC y)[j]? = some u → z.cell? ⟨g, i * 4 + j, none⟩ = some u) ∧ z.cell? ⟨D, 0, none⟩ = some (.slice (some ⟨g, 0, none⟩) L.length cp) ∧ z.cell? ⟨w.heap.size, 1, none⟩ = some (.int .i64 s) ∧ z.cell? ⟨w.heap.size, 0, none⟩ = some (.int .i64 6))) (by kernel_rfl) ?_ (fun hHeld0 => ?_)
          · exact HS.out _ (Below.refl _ W).drew
          refine tk0 (.int .i64 (i : Int)) (by kernel_rfl) (by kernel_rfl) (by kernel_rfl) (fun _ _ _ h => h) rfl (fun w hSw => by (try dsimp only at hSw); have s1 := hSw.1 1 _ rfl; have s2 := hSw.1 2 _ rfl; rw [HWR.out] at s2; have s5 := hSw.2.1; have s6 := hSw.2.2.1; have s7 := hSw.2.2.2; go_simp) (by assumption) ?_
          try simp only [Act.put, List.setIfInBounds_toArray, List.set_cons_zero, List.set_cons_succ]
          refine tk1 (.bool false) (by kernel_rfl) (by kernel_rfl) (by kernel_rfl) (fun _ _ _ h => h) rfl (fun w hSw => by (try dsimp only at hSw); have s1 := hSw.1 1 _ rfl; have s2 := hSw.1 2 _ rfl; rw [HWR.out] at s2; have s5 := hSw.2.1; have s6 := hSw.2.2.1; have s7 := hSw.2.2.2; go_simp) (by assumption) ?_
          try simp only [Act.put, List.setIfInBounds_toArray, List.set_cons_zero, List.set_cons_succ]
          refine tk2 (.bool false) (by kernel_rfl) (by kernel_rfl) (by kernel_rfl) (fun _ _ _ h => h) rfl (fun w hSw => by (try dsimp only at hSw); have s1 := hSw.1 1 _ rfl; have s2 := hSw.1 2 _ rfl; rw [HWR.out] at s2; have s5 := hSw.2.1; have s6 := hSw.2.2.1; have s7 := hSw.2.2.2; go_simp) (by assumption) ?_
          try simp only [Act.put, List.setIfInBounds_toArray, List.set_cons_zero, List.set_cons_succ]
          refine tk3 (.pointer (some ⟨D, 0, none⟩)) (by kernel_rfl) (by kernel_rfl) (by kernel_rfl) (fun _ _ _ h => h) rfl (fun w hSw => by (try dsimp only at hSw); have s1 := hSw.1 1 _ rfl; have s2 := hSw.1 2 _ rfl; rw [HWR.out] at s2; have s5 := hSw.2.1; have s6 := hSw.2.2.1; have s7 := hSw.2.2.2; go_simp) (by assumption) ?_
          try simp only [Act.put, List.setIfInBounds_toArray, List.set_cons_zero, List.set_cons_succ]
          refine tk4 (.pointer (some ⟨D, 0, none⟩)) (by kernel_rfl) (by kernel_rfl) (by kernel_rfl) (fun _ _ _ h => h) rfl (fun w hSw => by (try dsimp only at hSw); have s1 := hSw.1 1 _ rfl; have s2 := hSw.1 2 _ rfl; rw [HWR.out] at s2; have s5 := hSw.2.1; have s6 := hSw.2.2.1; have s7 := hSw.2.2.2; go_simp) (by assumption) ?_
          try simp only [Act.put, List.setIfInBounds_toArray, List.set_cons_zero, List.set_cons_succ]
          refine tk5 (.pointer (some ⟨D, 0, none⟩)) (by kernel_rfl) (by kernel_rfl) (by kernel_rfl) (fun _ _ _ h => h) rfl (fun w hSw => by (try dsimp only at hSw); have s1 := hSw.1 1 _ rfl; have s2 := hSw.1 2 _ rfl; rw [HWR.out] at s2; have s5 := hSw.2.1; have s6 := hSw.2.2.1; have s7 := hSw.2.2.2; go_simp) (by assumption) ?_
          try simp only [Act.put, List.setIfInBounds_toArray, List.set_cons_zero, List.set_cons_succ]
          refine tk6 (.slice (some ⟨g, 0, none⟩) L.length cp) (by kernel_rfl) (by kernel_rfl) (by kernel_rfl) (fun _ _ _ h => h) rfl (fun w hSw => by (try dsimp only at hSw); have s1 := hSw.1 1 _ rfl; have s2 := hSw.1 2 _ rfl; rw [HWR.out] at s2; have s5 := hSw.2.1; have s6 := hSw.2.2.1; have s7 := hSw.2.2.2; go_simp) (by assumption) ?_
          try simp only [Act.put, List.setIfInBounds_toArray, List.set_cons_zero, List.set_cons_succ]
          refine tk7 (.int .i64 (i : Int)) (by kernel_rfl) (by kernel_rfl) (by kernel_rfl) (fun _ _ _ h => h) rfl (fun w hSw => by (try dsimp only at hSw); have s1 := hSw.1 1 _ rfl; have s2 := hSw.1 2 _ rfl; rw [HWR.out] at s2; have s5 := hSw.2.1; have s6 := hSw.2.2.1; have s7 := hSw.2.2.2; go_simp) (by assumption) ?_
          try simp only [Act.put, List.setIfInBounds_toArray, List.set_cons_zero, List.set_cons_succ]
          refine tk8 (.pointer (some ⟨g, i * 4, none⟩)) (by kernel_rfl) (by kernel_rfl) (by kernel_rfl) (fun _ _ _ h => h) rfl (fun w hSw => by (try dsimp only at hSw); have s1 := hSw.1 1 _ rfl; have s2 := hSw.1 2 _ rfl; rw [HWR.out] at s2; have s5 := hSw.2.1; have s6 := hSw.2.2.1; have s7 := hSw.2.2.2; go_simp) (by assumption) ?_
          try simp only [Act.put, List.setIfInBounds_toArray, List.set_cons_zero, List.set_cons_succ]
          refine tk9 (.pointer (some ⟨g, i * 4 + 1, none⟩)) (by kernel_rfl) (by kernel_rfl) (by kernel_rfl) (fun _ _ _ h => h) rfl (fun w hSw => by (try dsimp only at hSw); have s1 := hSw.1 1 _ rfl; have s2 := hSw.1 2 _ rfl; rw [HWR.out] at s2; have s5 := hSw.2.1; have s6 := hSw.2.2.1; have s7 := hSw.2.2.2; go_simp) (by assumption) ?_
          try simp only [Act.put, List.setIfInBounds_toArray, List.set_cons_zero, List.set_cons_succ]
          refine tk10 (.slice y.ha y.k.h.length y.hc) (by kernel_rfl) (by kernel_rfl) (by kernel_rfl) (fun _ _ _ h => h) rfl (fun w hSw => by (try dsimp only at hSw); have s1 := hSw.1 1 _ rfl; have s2 := hSw.1 2 _ rfl; rw [HWR.out] at s2; have s5 := hSw.2.1; have s6 := hSw.2.2.1; have s7 := hSw.2.2.2; go_simp) (by assumption) ?_
          try simp only [Act.put, List.setIfInBounds_toArray, List.set_cons_zero, List.set_cons_succ]
          refine tk11 (.pointer (some ⟨w.heap.size, 1, none⟩)) (by kernel_rfl) (by kernel_rfl) (by kernel_rfl) (fun _ _ _ h => h) rfl (fun w hSw => by (try dsimp only at hSw); have s1 := hSw.1 1 _ rfl; have s2 := hSw.1 2 _ rfl; rw [HWR.out] at s2; have s5 := hSw.2.1; have s6 := hSw.2.2.1; have s7 := hSw.2.2.2; go_simp) (by assumption) ?_
          try simp only [Act.put, List.setIfInBounds_toArray, List.set_cons_zero, List.set_cons_succ]
          refine tk12 (.int .i64 s) (by kernel_rfl) (by kernel_rfl) (by kernel_rfl) (fun _ _ _ h => h) rfl (fun w hSw => by (try dsimp only at hSw); have s1 := hSw.1 1 _ rfl; have s2 := hSw.1 2 _ rfl; rw [HWR.out] at s2; have s5 := hSw.2.1; have s6 := hSw.2.2.1; have s7 := hSw.2.2.2; go_simp) (by assumption) ?_
          try simp only [Act.put, List.setIfInBounds_toArray, List.set_cons_zero, List.set_cons_succ]
          refine cl13 (by kernel_rfl) rfl (fun K hK => ?_)
          go_simp
          go_at_call 39
          refine Calls.mono HHS.out ?_
          rintro e w1 ⟨rfl, hw1⟩
          rw [hw1]
          clear hw1
          refine hK.out _ _ ?_ (fun hHeld => ?_)
          · exact HS.out _ (Below.refl _ W).drew
          clear hK K
          try simp only [Act.put, List.setIfInBounds_toArray, List.set_cons_zero, List.set_cons_succ]
          refine tk14 (.bool false) (by kernel_rfl) (by kernel_rfl) (by kernel_rfl) (fun _ _ _ h => h) rfl (fun w hSw => by (try dsimp only at hSw); have s1 := hSw.1 1 _ rfl; have s2 := hSw.1 2 _ rfl; rw [HWR.out] at s2; have s5 := hSw.2.1; have s6 := hSw.2.2.1; have s7 := hSw.2.2.2; go_simp) (by assumption) ?_
          try simp only [Act.put, List.setIfInBounds_toArray, List.set_cons_zero, List.set_cons_succ]
          refine tk15 (.bool false) (by kernel_rfl) (by kernel_rfl) (by kernel_rfl) (fun _ _ _ h => h) rfl (fun w hSw => by (try dsimp only at hSw); have s1 := hSw.1 1 _ rfl; have s2 := hSw.1 2 _ rfl; rw [HWR.out] at s2; have s5 := hSw.2.1; have s6 := hSw.2.2.1; have s7 := hSw.2.2.2; go_simp) (by assumption) ?_
          try simp only [Act.put, List.setIfInBounds_toArray, List.set_cons_zero, List.set_cons_succ]
          refine tk16 (.bool false) (by kernel_rfl) (by kernel_rfl) (by kernel_rfl) (fun _ _ _ h => h) rfl (fun w hSw => by (try dsimp only at hSw); have s1 := hSw.1 1 _ rfl; have s2 := hSw.1 2 _ rfl; rw [HWR.out] at s2; have s5 := hSw.2.1; have s6 := hSw.2.2.1; have s7 := hSw.2.2.2; go_simp) (by assumption) ?_
          try simp only [Act.put, List.setIfInBounds_toArray, List.set_cons_zero, List.set_cons_succ]
          refine tk17 (.pointer (some ⟨D, 0, none⟩)) (by kernel_rfl) (by kernel_rfl) (by kernel_rfl) (fun _ _ _ h => h) rfl (fun w hSw => by (try dsimp only at hSw); have s1 := hSw.1 1 _ rfl; have s2 := hSw.1 2 _ rfl; rw [HWR.out] at s2; have s5 := hSw.2.1; have s6 := hSw.2.2.1; have s7 := hSw.2.2.2; go_simp) (by assumption) ?_
          try simp only [Act.put, List.setIfInBounds_toArray, List.set_cons_zero, List.set_cons_succ]
          refine tk18 (.pointer (some ⟨D, 0, none⟩)) (by kernel_rfl) (by kernel_rfl) (by kernel_rfl) (fun _ _ _ h => h) rfl (fun w hSw => by (try dsimp only at hSw); have s1 := hSw.1 1 _ rfl; have s2 := hSw.1 2 _ rfl; rw [HWR.out] at s2; have s5 := hSw.2.1; have s6 := hSw.2.2.1; have s7 := hSw.2.2.2; go_simp) (by assumption) ?_
          try simp only [Act.put, List.setIfInBounds_toArray, List.set_cons_zero, List.set_cons_succ]
          refine tk19 (.pointer (some ⟨D, 0, none⟩)) (by kernel_rfl) (by kernel_rfl) (by kernel_rfl) (fun _ _ _ h => h) rfl (fun w hSw => by (try dsimp only at hSw); have s1 := hSw.1 1 _ rfl; have s2 := hSw.1 2 _ rfl; rw [HWR.out] at s2; have s5 := hSw.2.1; have s6 := hSw.2.2.1; have s7 := hSw.2.2.2; go_simp) (by assumption) ?_
          try simp only [Act.put, List.setIfInBounds_toArray, List.set_cons_zero, List.set_cons_succ]
          refine tk20 (.slice (some ⟨g, 0, none⟩) L.length cp) (by kernel_rfl) (by kernel_rfl) (by kernel_rfl) (fun _ _ _ h => h) rfl (fun w hSw => by (try dsimp only at hSw); have s1 := hSw.1 1 _ rfl; have s2 := hSw.1 2 _ rfl; rw [HWR.out] at s2; have s5 := hSw.2.1; have s6 := hSw.2.2.1; have s7 := hSw.2.2.2; go_simp) (by assumption) ?_
          try simp only [Act.put, List.setIfInBounds_toArray, List.set_cons_zero, List.set_cons_succ]
          refine tk21 (.int .i64 (i : Int)) (by kernel_rfl) (by kernel_rfl) (by kernel_rfl) (fun _ _ _ h => h) rfl (fun w hSw => by (try dsimp only at hSw); have s1 := hSw.1 1 _ rfl; have s2 := hSw.1 2 _ rfl; rw [HWR.out] at s2; have s5 := hSw.2.1; have s6 := hSw.2.2.1; have s7 := hSw.2.2.2; go_simp) (by assumption) ?_
          try simp only [Act.put, List.setIfInBounds_toArray, List.set_cons_zero, List.set_cons_succ]
          refine tk22 (.pointer (some ⟨g, i * 4, none⟩)) (by kernel_rfl) (by kernel_rfl) (by kernel_rfl) (fun _ _ _ h => h) rfl (fun w hSw => by (try dsimp only at hSw); have s1 := hSw.1 1 _ rfl; have s2 := hSw.1 2 _ rfl; rw [HWR.out] at s2; have s5 := hSw.2.1; have s6 := hSw.2.2.1; have s7 := hSw.2.2.2; go_simp) (by assumption) ?_
          try simp only [Act.put, List.setIfInBounds_toArray, List.set_cons_zero, List.set_cons_succ]
          refine tk23 (.pointer (some ⟨g, i * 4 + 2, none⟩)) (by kernel_rfl) (by kernel_rfl) (by kernel_rfl) (fun _ _ _ h => h) rfl (fun w hSw => by (try dsimp only at hSw); have s1 := hSw.1 1 _ rfl; have s2 := hSw.1 2 _ rfl; rw [HWR.out] at s2; have s5 := hSw.2.1; have s6 := hSw.2.2.1; have s7 := hSw.2.2.2; go_simp) (by assumption) ?_
          try simp only [Act.put, List.setIfInBounds_toArray, List.set_cons_zero, List.set_cons_succ]
          refine tk24 (.bool true) (by kernel_rfl) (by kernel_rfl) (by kernel_rfl) (fun _ _ _ h => h) rfl (fun w hSw => by (try dsimp only at hSw); have s1 := hSw.1 1 _ rfl; have s2 := hSw.1 2 _ rfl; rw [HWR.out] at s2; have s5 := hSw.2.1; have s6 := hSw.2.2.1; have s7 := hSw.2.2.2; go_simp) (by assumption) ?_
          try simp only [Act.put, List.setIfInBounds_toArray, List.set_cons_zero, List.set_cons_succ]
          refine tk25 (.pointer (some ⟨w.heap.size, 0, none⟩)) (by kernel_rfl) (by kernel_rfl) (by kernel_rfl) (fun _ _ _ h => h) rfl (fun w hSw => by (try dsimp only at hSw); have s1 := hSw.1 1 _ rfl; have s2 := hSw.1 2 _ rfl; rw [HWR.out] at s2; have s5 := hSw.2.1; have s6 := hSw.2.2.1; have s7 := hSw.2.2.2; go_simp) (by assumption) ?_
          try simp only [Act.put, List.setIfInBounds_toArray, List.set_cons_zero, List.set_cons_succ]
          refine tk26 (.int .i64 6) (by kernel_rfl) (by kernel_rfl) (by kernel_rfl) (fun _ _ _ h => h) rfl (fun w hSw => by (try dsimp only at hSw); have s1 := hSw.1 1 _ rfl; have s2 := hSw.1 2 _ rfl; rw [HWR.out] at s2; have s5 := hSw.2.1; have s6 := hSw.2.2.1; have s7 := hSw.2.2.2; go_simp) (by assumption) ?_
          try simp only [Act.put, List.setIfInBounds_toArray, List.set_cons_zero, List.set_cons_succ]
          refine tk27 (.bool true) (by kernel_rfl) (by kernel_rfl) (by kernel_rfl) (fun _ _ _ h => h) rfl (fun w hSw => by (try dsimp only at hSw); have s1 := hSw.1 1 _ rfl; have s2 := hSw.1 2 _ rfl; rw [HWR.out] at s2; have s5 := hSw.2.1; have s6 := hSw.2.2.1; have s7 := hSw.2.2.2; go_simp) (by assumption) ?_
          try simp only [Act.put, List.setIfInBounds_toArray, List.set_cons_zero, List.set_cons_succ]
          refine tk28 (.bool false) (by kernel_rfl) (by kernel_rfl) (by kernel_rfl) (fun _ _ _ h => h) rfl (fun w hSw => by (try dsimp only at hSw); have s1 := hSw.1 1 _ rfl; have s2 := hSw.1 2 _ rfl; rw [HWR.out] at s2; have s5 := hSw.2.1; have s6 := hSw.2.2.1; have s7 := hSw.2.2.2; go_simp) (by assumption) ?_
          try simp only [Act.put, List.setIfInBounds_toArray, List.set_cons_zero, List.set_cons_succ]
          refine tk29 (.bool false) (by kernel_rfl) (by kernel_rfl) (by kernel_rfl) (fun _ _ _ h => h) rfl (fun w hSw => by (try dsimp only at hSw); have s1 := hSw.1 1 _ rfl; have s2 := hSw.1 2 _ rfl; rw [HWR.out] at s2; have s5 := hSw.2.1; have s6 := hSw.2.2.1; have s7 := hSw.2.2.2; go_simp) (by assumption) ?_
          try simp only [Act.put, List.setIfInBounds_toArray, List.set_cons_zero, List.set_cons_succ]
          refine wpAnyH_done (by kernel_rfl) ?_ _
          obtain ⟨w1, hw1⟩ : ∃ w1, w1 = W.drew := ⟨_, rfl⟩
          rw [← hw1]
          have B1 : Hid (Below W.heap.size W w1) := by rw [hw1]; exact (Below.refl _ W).drew
          clear hw1
          have R1 : Hid (RpAt w1 (w.heap.size + 1) ⟨s, n, 0, 0, 0⟩) := (B1.out.block _ (by have := HB.out.2.2; omega)).trans HB.out.2.1
          have M1 : Hid (LoM w1 base D S P L (.slice (some ⟨g, 0, none⟩) L.length cp) c) := HM.out.fresh B1.out
          have BW1 : Hid (Below w.heap.size w w1) := bmm BW.out BW.out.size B1.out
          go_upto_region 8 with fail
          obtain ⟨g2, cp2, J1⟩ := M1.out.at HY.out.1
          have e2 := J1.form
          simp only [Value.slice.injEq, Option.some.injEq, Addr.mk.injEq, and_true, true_and] at e2
          obtain ⟨rfl, rfl⟩ := e2
          obtain ⟨cur, hb, ht, hcl, K1⟩ := M1.out.lks HY.out.1 J1
          have HT : Hid (w1.heap[g]? = some (.cells cur.toArray lkT (0, 0)) ∧ cur.take (L.length * 4) = rowL lvC L ∧ cur.length = cp * 4 ∧ LoI w1 base D S P L (.slice (some ⟨g, 0, none⟩) L.length cp) g cp i y) := (show Hid _ from (⟨hb, ht, hcl, J1⟩ : _ ∧ _ ∧ _ ∧ _))
          have KK : Hid _ := K1
          have HC : Hid (∀ z, Below w1.heap.size w1 z → z.cell? ⟨g, i * 4 + 1, none⟩ = some (.slice y.ha y.k.h.length y.hc) ∧ z.frozen? ⟨g, i * 4 + 1, none⟩ = false) := fun z b => ⟨(KK.out.below b).cell.1, (KK.out.below b).fz _⟩
          have HS8 : Hid (∀ z, Below w1.heap.size w1 z → z.cell? ⟨D, 0, none⟩ = some (.slice (some ⟨g, 0, none⟩) L.length cp) ∧ z.cell? ⟨w.heap.size, 1, none⟩ = some (.int .i64 s)) := fun z b => by have := HS.out z (B1.out.trans (b.mono B1.out.size)); exact ⟨this.2.1, this.2.2.1⟩
          have HDR : Hid (Calls Try.prog 40 #[.slice y.ha y.k.h.length y.hc, .int .i64 s] w1.drew fun e w' => ∃ u, e = .returned u ∧ w'.ownsRow w1.drew.heap.size 3 1 u (dropL y.k.h s).length (intL (dropL y.k.h s)) ∧ Below w1.drew.heap.size w1.drew w') := drop_any _ _ _ _ (((KK.out.below (Below.refl _ w1).drew).hr.at').ints HY.out.2.hi (by have := HY.out.2.hl; have := HK.out.1; omega)) (by have := HY.out.2.hl; have := HK.out.1; omega)
          have HXE : Hid (g ≠ D ∧ g ≠ w.heap.size) := (show Hid _ from (⟨J1.gs.2.1, by have := HSL.out g J1.gs.1; omega⟩ : _ ∧ _))
          clear hb ht hcl K1 J1
          refine wp_region_held_drew (S := (fun z : World => z.cell? ⟨D, 0, none⟩ = some (.slice (some ⟨g, 0, none⟩) L.length cp) ∧ z.cell? ⟨w.heap.size, 1, none⟩ = some (.int .i64 s))) (by kernel_rfl) ?_ (fun hHeld0 => ?_)
          · exact HS8.out _ (Below.refl _ w1).drew
          refine tk0 (.pointer (some ⟨D, 0, none⟩)) (by kernel_rfl) (by kernel_rfl) (by kernel_rfl) (fun _ _ _ h => h) rfl (fun w hSw => by (try dsimp only at hSw); have s5 := hSw.1; have s6 := hSw.2; go_simp) (by assumption) ?_
          try simp only [Act.put, List.setIfInBounds_toArray, List.set_cons_zero, List.set_cons_succ]
          refine tk1 (.pointer (some ⟨D, 0, none⟩)) (by kernel_rfl) (by kernel_rfl) (by kernel_rfl) (fun _ _ _ h => h) rfl (fun w hSw => by (try dsimp only at hSw); have s5 := hSw.1; have s6 := hSw.2; go_simp) (by assumption) ?_
          try simp only [Act.put, List.setIfInBounds_toArray, List.set_cons_zero, List.set_cons_succ]
          refine tk2 (.pointer (some ⟨D, 0, none⟩)) (by kernel_rfl) (by kernel_rfl) (by kernel_rfl) (fun _ _ _ h => h) rfl (fun w hSw => by (try dsimp only at hSw); have s5 := hSw.1; have s6 := hSw.2; go_simp) (by assumption) ?_
          try simp only [Act.put, List.setIfInBounds_toArray, List.set_cons_zero, List.set_cons_succ]
          refine tk3 (.slice (some ⟨g, 0, none⟩) L.length cp) (by kernel_rfl) (by kernel_rfl) (by kernel_rfl) (fun _ _ _ h => h) rfl (fun w hSw => by (try dsimp only at hSw); have s5 := hSw.1; have s6 := hSw.2; go_simp) (by assumption) ?_
          try simp only [Act.put, List.setIfInBounds_toArray, List.set_cons_zero, List.set_cons_succ]
          refine tk4 (.int .i64 (i : Int)) (by kernel_rfl) (by kernel_rfl) (by kernel_rfl) (fun _ _ _ h => h) rfl (fun w hSw => by (try dsimp only at hSw); have s5 := hSw.1; have s6 := hSw.2; go_simp) (by assumption) ?_
          try simp only [Act.put, List.setIfInBounds_toArray, List.set_cons_zero, List.set_cons_succ]
          refine tk5 (.pointer (some ⟨D, 0, none⟩)) (by kernel_rfl) (by kernel_rfl) (by kernel_rfl) (fun _ _ _ h => h) rfl (fun w hSw => by (try dsimp only at hSw); have s5 := hSw.1; have s6 := hSw.2; go_simp) (by assumption) ?_
          try simp only [Act.put, List.setIfInBounds_toArray, List.set_cons_zero, List.set_cons_succ]
          refine tk6 (.pointer (some ⟨D, 0, none⟩)) (by kernel_rfl) (by kernel_rfl) (by kernel_rfl) (fun _ _ _ h => h) rfl (fun w hSw => by (try dsimp only at hSw); have s5 := hSw.1; have s6 := hSw.2; go_simp) (by assumption) ?_
          try simp only [Act.put, List.setIfInBounds_toArray, List.set_cons_zero, List.set_cons_succ]
          refine tk7 (.pointer (some ⟨D, 0, none⟩)) (by kernel_rfl) (by kernel_rfl) (by kernel_rfl) (fun _ _ _ h => h) rfl (fun w hSw => by (try dsimp only at hSw); have s5 := hSw.1; have s6 := hSw.2; go_simp) (by assumption) ?_
          try simp only [Act.put, List.setIfInBounds_toArray, List.set_cons_zero, List.set_cons_succ]
          refine tk8 (.slice (some ⟨g, 0, none⟩) L.length cp) (by kernel_rfl) (by kernel_rfl) (by kernel_rfl) (fun _ _ _ h => h) rfl (fun w hSw => by (try dsimp only at hSw); have s5 := hSw.1; have s6 := hSw.2; go_simp) (by assumption) ?_
          try simp only [Act.put, List.setIfInBounds_toArray, List.set_cons_zero, List.set_cons_succ]
          refine tk9 (.int .i64 (i : Int)) (by kernel_rfl) (by kernel_rfl) (by kernel_rfl) (fun _ _ _ h => h) rfl (fun w hSw => by (try dsimp only at hSw); have s5 := hSw.1; have s6 := hSw.2; go_simp) (by assumption) ?_
          try simp only [Act.put, List.setIfInBounds_toArray, List.set_cons_zero, List.set_cons_succ]
          refine tk10 (.pointer (some ⟨g, i * 4, none⟩)) (by kernel_rfl) (by kernel_rfl) (by kernel_rfl) (fun _ _ _ h => h) rfl (fun w hSw => by (try dsimp only at hSw); have s5 := hSw.1; have s6 := hSw.2; go_simp) (by assumption) ?_
          try simp only [Act.put, List.setIfInBounds_toArray, List.set_cons_zero, List.set_cons_succ]
          refine tk11 (.pointer (some ⟨g, i * 4 + 1, none⟩)) (by kernel_rfl) (by kernel_rfl) (by kernel_rfl) (fun _ _ _ h => h) rfl (fun w hSw => by (try dsimp only at hSw); have s5 := hSw.1; have s6 := hSw.2; go_simp) (by assumption) ?_
          try simp only [Act.put, List.setIfInBounds_toArray, List.set_cons_zero, List.set_cons_succ]
          refine tk13 (.pointer (some ⟨w.heap.size, 1, none⟩)) (by kernel_rfl) (by kernel_rfl) (by kernel_rfl) (fun _ _ _ h => h) rfl (fun w hSw => by (try dsimp only at hSw); have s5 := hSw.1; have s6 := hSw.2; go_simp) (by assumption) ?_
          try simp only [Act.put, List.setIfInBounds_toArray, List.set_cons_zero, List.set_cons_succ]
          refine tk14 (.int .i64 s) (by kernel_rfl) (by kernel_rfl) (by kernel_rfl) (fun _ _ _ h => h) rfl (fun w hSw => by (try dsimp only at hSw); have s5 := hSw.1; have s6 := hSw.2; go_simp) (by assumption) ?_
          try simp only [Act.put, List.setIfInBounds_toArray, List.set_cons_zero, List.set_cons_succ]
          refine cl12 (by kernel_rfl) rfl (fun K hK => ?_)
          have c1 := (HC.out w1.drew (Below.refl _ w1).drew).1
          go_simp
          refine hK.out _ _ ?_ (fun hHeld => ?_)
          · exact HS8.out _ (Below.refl _ w1).drew
          clear hK K
          try simp only [Act.put, List.setIfInBounds_toArray, List.set_cons_zero, List.set_cons_succ]
          refine cl15 (by kernel_rfl) rfl (fun K hK => ?_)
          go_simp
          go_at_call 40
          refine Calls.mono HDR.out ?_
          rintro e w3 ⟨u3, rfl, o3, b3⟩
          obtain ⟨a3, c3, hu3⟩ := (RowAt.own intC_len (l := dropL y.k.h s) (by rw [rowL_int]; exact o3)).form
          subst hu3
          have B3 : Hid (Below w1.heap.size w1 w3) := undrew b3
          have O3 : Hid (w3.ownsRow w1.heap.size 3 1 (.slice a3 (dropL y.k.h s).length c3) (dropL y.k.h s).length (intL (dropL y.k.h s))) := o3
          have c3' := (HC.out w3 B3.out).1
          have f3 := (HC.out w3 B3.out).2
          clear b3 o3
          refine hK.out _ _ ?_ (fun hHeld => ?_)
          · exact HS8.out _ B3.out
          clear hK K
          try simp only [Act.put, List.setIfInBounds_toArray, List.set_cons_zero, List.set_cons_succ]
          refine tk16 (.pointer (some ⟨g, i * 4, none⟩)) (by kernel_rfl) (by kernel_rfl) (by kernel_rfl) (fun _ _ _ h => h) rfl (fun w hSw => by (try dsimp only at hSw); have s5 := hSw.1; have s6 := hSw.2; go_simp) (by assumption) ?_
          try simp only [Act.put, List.setIfInBounds_toArray, List.set_cons_zero, List.set_cons_succ]
          refine tk17 (.pointer (some ⟨g, i * 4 + 1, none⟩)) (by kernel_rfl) (by kernel_rfl) (by kernel_rfl) (fun _ _ _ h => h) rfl (fun w hSw => by (try dsimp only at hSw); have s5 := hSw.1; have s6 := hSw.2; go_simp) (by assumption) ?_
          try simp only [Act.put, List.setIfInBounds_toArray, List.set_cons_zero, List.set_cons_succ]
          refine cl18 (by kernel_rfl) rfl (fun K hK => ?_)
          go_simp
          refine hK.out _ _ ?_ (fun hHeld => ?_)
          · have h9 := HS8.out _ B3.out
            exact ⟨(World.cell?_of_block (heap_setCell_other _ _ _ _ (fun e => HXE.out.1 (by exact e.symm)))).trans h9.1, (World.cell?_of_block (heap_setCell_other _ _ _ _ (fun e => HXE.out.2 (by exact e.symm)))).trans h9.2⟩
          clear hK K
          refine wpAnyH_done (by kernel_rfl) ?_ _
          have k4 := ((KK.out.below B3.out).grow (P' := (fun b => P b ∨ w1.heap.size ≤ b ∧ b < w3.heap.size)) (fun b hb => Or.inl hb) (fun b hb => by
            have hd := lt_of_block M1.out.blk
            have hg := HT.out.2.2.2.gs.2.2.1
            rcases hb with hb | hb
            · exact ⟨Nat.lt_of_lt_of_le (KK.out.pb b hb).1 B3.out.size, (KK.out.pb b hb).2⟩
            · exact ⟨hb.2, by omega, by omega⟩)).setH (h' := dropL y.k.h s) (a3 := a3) (c3 := c3) ⟨RowAt.own intC_len (by rw [rowL_int]; exact O3.out), fun bk off n cap h0 e => by
            simp only [Value.slice.injEq] at e
            obtain ⟨e1, _, _⟩ := e
            have hlt := O3.out.lt bk (by rw [e1]; rfl)
            have hd := lt_of_block M1.out.blk
            exact ⟨Or.inr hlt, by omega⟩⟩
          obtain ⟨w4, hw4⟩ : ∃ w4, w4 = w3.setCell ⟨g, i * 4 + 1, none⟩ (.slice a3 (dropL y.k.h s).length c3) := ⟨_, rfl⟩
          rw [← hw4]
          rw [← hw4] at k4
          have HZ4 : Hid (w4.heap.size = w3.heap.size ∧ w1.heap.size ≤ w3.heap.size ∧ w.heap.size + 2 ≤ w1.heap.size) := (show Hid _ from (⟨by rw [hw4]; simp, B3.out.size, by have := HB.out.2.2; have := B1.out.size; omega⟩ : _ ∧ _ ∧ _))
          have K4 : Hid _ := k4
          have R4 : Hid (RpAt w4 (w.heap.size + 1) ⟨s, n, 0, 0, 0⟩) := (show w4.heap[w.heap.size + 1]? = _ from by rw [hw4]; exact (heap_setCell_other _ _ _ _ (fun e => by have e : w.heap.size + 1 = g := e; have := HSL.out g HT.out.2.2.2.gs.1; omega)).trans ((B3.out.block _ (by have := HB.out.2.2; have := B1.out.size; omega)).trans R1.out))
          have l4 : w4.cell? ⟨D, 0, none⟩ = some (.slice (some ⟨g, 0, none⟩) L.length cp) := by rw [hw4]; exact (World.cell?_of_block (heap_setCell_other _ _ _ _ (fun e => HXE.out.1 (by exact e.symm)))).trans (HS8.out _ B3.out).1
          clear hw4 k4 c1 c3' f3 l0 HC HDR
          have y0 := R4.out.cell 0 _ rfl
          have y1 := R4.out.cell 1 _ rfl
          have y2 := R4.out.cell 2 _ rfl
          have y3 := R4.out.cell 3 _ rfl
          have y4 := R4.out.cell 4 _ rfl
          go_upto_region 10 with fail
          obtain ⟨w5, hw5⟩ : ∃ w5, w5 = w4.alloc (.cells (rpA ⟨s, n, 0, 0, 0⟩) rpT) := ⟨_, rfl⟩
          have b5 : Below w4.heap.size w4 w5 := by rw [hw5]; exact (Below.refl _ w4).alloc (Nat.le_refl _) _
          have O5 : Hid (w5.ownsRow w4.heap.size rpT 5 (.slice (some ⟨w4.heap.size, 0, none⟩) 1 1) 1 (rowL rpC [⟨s, n, 0, 0, 0⟩])) := by rw [hw5]; exact own_one (Nat.le_refl _)
          have hs5 : w5.heap.size = w4.heap.size + 1 := by rw [hw5]; simp
          rw [show w4.alloc (.cells #[.int .i64 s, .int .i64 n, .int .i64 0, .int .u64 0, .int .i64 0] rpT) = w5 from hw5.symm]
          have K5 : Hid _ := K4.out.below b5
          have HZ5 : Hid (w5.heap.size = w4.heap.size + 1) := hs5
          have l5 : w5.cell? ⟨D, 0, none⟩ = some (.slice (some ⟨g, 0, none⟩) L.length cp) := (b5.cell (p := ⟨D, 0, none⟩) (by exact lt_of_block K4.out.d)).trans l4
          clear hw5 b5 hs5 l4 y0 y1 y2 y3 y4
          have HSV : Hid (Calls Try.prog 41 #[.pointer (some ⟨D, 0, none⟩), .pointer (some ⟨g, i * 4, none⟩)] w5 (SrvP w5 D g (i * 4) (.slice (some ⟨g, 0, none⟩) L.length cp) _ (fun b => P b ∨ w1.heap.size ≤ b ∧ b < w3.heap.size) (srvH y.k.q c (dropL y.k.h s) y.k.wr))) := loserve_any (m := y.k.h.length + y.k.q.length) K5.out.restart (fun a ha => HY.out.2.hi a (List.mem_filter.1 ha).1) (fun a ha => (HY.out.2.qi a ha).1) (by have := dropL_le y.k.h s; omega) (by have := HY.out.2.hl; have := HY.out.2.ql; have := HK.out.1; omega) HO.out.2.1 HO.out.2.2
          obtain ⟨sv, hsv⟩ : ∃ sv, sv = (srvH y.k.q c (dropL y.k.h s) y.k.wr) := ⟨_, rfl⟩
          have HSE : Hid (sv = (srvH y.k.q c (dropL y.k.h s) y.k.wr)) := hsv
          rw [← hsv] at HSV
          clear hsv
          obtain ⟨i0, hi0, hz0, hz1, hz2⟩ := info_parts infoRp
          have HRL : Hid (sv.2.2.2.2.length ≤ 32768) := (show sv.2.2.2.2.length ≤ 32768 from by rw [HSE.out]; have := srvH_len y.k.q c (dropL y.k.h s) y.k.wr; have := HY.out.2.ql; have := HK.out.1; omega)
          go_upto_region 11 with (first
            | (at_builtin; refine wpList_app_row (k := 5) (enc := rpC) (l := sv.2.2.2.2) rfl (.tmp 78) (.tmp 86) 36 rpT rfl i0 _ 40 Try.underlying36 hi0 hz0 hz1 hz2 rfl (by decide) rpC_len rpC_one (base := w4.heap.size) rfl rfl O6.out R6.out (by have := HZ5.out; have := K6.out.k.size; omega) (by have := HRL.out; omega) (by have := HRL.out; omega) ?_; intro u7 w7 o7 a7; have o7' : w7.ownsRow w4.heap.size rpT 5 u7 ((⟨s, n, 0, 0, 0⟩ : SeR) :: sv.2.2.2.2).length (rowL rpC ((⟨s, n, 0, 0, 0⟩ : SeR) :: sv.2.2.2.2)) := (by have e : (1 + sv.2.2.2.2.length) = ((⟨s, n, 0, 0, 0⟩ : SeR) :: sv.2.2.2.2).length := (by rw [List.length_cons]; omega); rw [← e]; exact o7); obtain ⟨p7, n7, q7, rfl⟩ := own_form o7'; have O7 : Hid (w7.ownsRow w4.heap.size rpT 5 (.slice p7 n7 q7) ((⟨s, n, 0, 0, 0⟩ : SeR) :: sv.2.2.2.2).length (rowL rpC ((⟨s, n, 0, 0, 0⟩ : SeR) :: sv.2.2.2.2))) := o7'; have A7 : Hid (Appended w4.heap.size w6 w7 (.slice (some ⟨w4.heap.size, 0, none⟩) 1 1) (.slice p7 n7 q7)) := a7; clear o7 o7' a7)
            | (go_at_call 41; refine Calls.mono HSV.out ?_; rintro e w6 ⟨⟨u6, a6, c6, a7, c7, rfl, o6, k6⟩⟩; have K6 : Hid _ := k6; have R6 : Hid (RowAt rpC w6 u6 sv.2.2.2.2) := RowAt.own rpC_len o6; have U6 : Hid (∀ b, u6.ownBlock = some b → w5.heap.size ≤ b) := (fun b e => (o6.lt b e).1); have O6 : Hid (w6.ownsRow w4.heap.size rpT 5 (.slice (some ⟨w4.heap.size, 0, none⟩) 1 1) 1 (rowL rpC [⟨s, n, 0, 0, 0⟩])) := (own_keep O5.out (fun gg e => K6.out.k.kept gg (O5.out.lt gg e).2 (fun e2 => (by have h1 := (O5.out.lt gg e).1; have h2 := HT.out.2.2.2.gs.2.2.1; have h3 := lt_of_block M1.out.blk; have h4 := HZ4.out; rcases e2 with e2 | e2 <;> omega)))); clear k6 o6))
          clear l5
          have hz4 := HZ4.out
          have hz5 := HZ5.out
          have hs6 := K6.out.k.size
          have hs7 := A7.out.below.size
          have hD1 := lt_of_block M1.out.blk
          have hg1 := HT.out.2.2.2.gs.2.2.1
          have k16 := K5.out.trans K6.out
          have k17 := k16.app (u := .slice (some ⟨w4.heap.size, 0, none⟩) 1 1) (u' := .slice p7 n7 q7) ⟨A7.out.below.mono (by omega), A7.out.rest, A7.out.lies⟩ (fun b e => by
            have e : some w4.heap.size = some b := e
            have e := Option.some.inj e
            refine ⟨fun hp => ?_, by omega, by omega, by omega⟩
            rcases hp.1 with (hp | hp) | hp
            · have := (KK.out.pb b hp).1
              omega
            · omega
            · omega)
          have k18 := k17.grow (P' := fun b => P b ∨ (w1.heap.size ≤ b ∧ b < w7.heap.size) ∧ (Value.slice p7 n7 q7).ownBlock ≠ some b) (fun b hp => by
            have hlow : ∀ b, b < w4.heap.size → (Value.slice p7 n7 q7).ownBlock ≠ some b := fun b hb e => by have := (O7.out.lt b e).1; omega
            rcases hp.1 with (hp1 | hp1) | hp1
            · exact Or.inl hp1
            · exact Or.inr ⟨⟨hp1.1, by omega⟩, hlow b (by omega)⟩
            · refine Or.inr ⟨⟨by omega, by omega⟩, fun e => ?_⟩
              rcases A7.out.lies with e2 | e2
              · rw [e2] at e
                have e : some w4.heap.size = some b := e
                have := Option.some.inj e
                omega
              · rw [e2] at e
                have := Option.some.inj e
                omega) (fun b hp => by
            rcases hp with hp | hp
            · exact ⟨by have := (KK.out.pb b hp).1; omega, (KK.out.pb b hp).2⟩
            · exact ⟨hp.1.2, by omega, by omega⟩)
          have t7 := M1.out.turn HY.out.1 HT.out.2.2.2 HT.out.1 HT.out.2.1 HT.out.2.2.1 k18 (fun b hb => Or.inl hb) (fun b hb => by
            rcases hb with hb | hb
            · exact Or.inl hb
            · exact Or.inr hb.1)
          have HTD : Hid _ := lotidy_any t7.1 (by rw [List.length_set]; exact HLN.out)
          have T7 : Hid _ := t7
          have HNP : Hid (∀ b, (Value.slice p7 n7 q7).ownBlock = some b → ¬ (S b ∨ (P b ∨ (w1.heap.size ≤ b ∧ b < w7.heap.size) ∧ (Value.slice p7 n7 q7).ownBlock ≠ some b)) ∧ b < w7.heap.size) := fun b e => ⟨fun hb => by
            have h1 := (O7.out.lt b e).1
            rcases hb with hb | hb | hb
            · have := HSL.out b hb
              omega
            · have := (KK.out.pb b hb).1
              omega
            · exact hb.2 e, (O7.out.lt b e).2⟩
          clear hz4 hz5 hs6 hs7 hD1 hg1 k16 k17 k18 t7
          go_wp2_with (go_at_call 42; refine Calls.mono HTD.out ?_; rintro e w8 ⟨⟨S8, v8, rfl, m8, k8⟩⟩; have M8 : Hid _ := m8; have K8 : Hid _ := k8; clear m8 k8)
          go_ret
          rw [HQ.out]
          unfold relS
          rw [← HSE.out]
          refine ⟨_, S8, rfl, (RowAt.own rpC_len O7.out).keep K8.out.size (fun bk off n9 cap h0 e => ?_), ⟨_, _, _, M8.out, by rw [tidyV_map, map_set_k]; rfl⟩, (Kept.of BW1.out).trans (T7.out.2.trans K8.out)⟩
          obtain ⟨n1, n2⟩ := HNP.out bk (by rw [e]; rfl)
          exact K8.out.kept bk n2 n1
  by_cases h7 : k = 8
  · subst h7
    obtain ⟨e1, e2, e4⟩ := two_blks w (.cells (cmA 8 s n nm m) cmT) (.cells (rpA ⟨s, n, 0, 0, 0⟩) rpT)
    obtain ⟨W, hW⟩ : ∃ W, W = (w.alloc (.cells (cmA 8 s n nm m) cmT)).alloc (.cells (rpA ⟨s, n, 0, 0, 0⟩) rpT) := ⟨_, rfl⟩
    have bW : Below w.heap.size w W := by rw [hW]; exact ((Below.refl _ w).alloc (Nat.le_refl _) _).alloc (by simp) _
    rw [← hW] at e1 e2 e4
    have HW : Hid ((w.alloc (.cells #[.int .i64 8, .int .i64 s, .int .i64 n, .string nm, .int .i64 m] cmT)).alloc (.cells #[.int .i64 s, .int .i64 n, .int .i64 0, .int .u64 0, .int .i64 0] rpT) = W) := hW.symm
    have HB : Hid (W.heap[w.heap.size]? = some (.cells (cmA 8 s n nm m) cmT (0, 0)) ∧ RpAt W (w.heap.size + 1) ⟨s, n, 0, 0, 0⟩ ∧ W.heap.size = w.heap.size + 2) := (show Hid _ from (⟨e1, e2, e4⟩ : _ ∧ _ ∧ _))
    have HM : Hid (LoM W base D S P L v c) := h.fresh bW
    have BW : Hid (Below w.heap.size w W) := bW
    have HSL : Hid (∀ g, S g → g < w.heap.size) := fun g hg => (h.bd g hg).2
    have y0 : W.cell? ⟨w.heap.size, 0, none⟩ = some (.int .i64 8) := by simp [World.cell?, e1]
    have y1 : W.cell? ⟨w.heap.size, 1, none⟩ = some (.int .i64 s) := by simp [World.cell?, e1]
    have y3 : W.cell? ⟨w.heap.size, 3, none⟩ = some (.string nm) := by simp [World.cell?, e1]
    have HFD : Hid (Calls Try.prog 33 #[.pointer (some ⟨D, 0, none⟩), .string nm] W fun e w' => e = .returned (.int .i64 (ixI (lkIx (L.map (·.k)) nm))) ∧ w' = W) := lofind_any HM.out (by omega) nm
    have HLN : Hid (L.length ≤ 65536) := hl
    obtain ⟨q, hq⟩ : ∃ q, q = relL c (L.map (·.k)) 8 s n nm := ⟨_, rfl⟩
    rw [← hq]
    clear h bW hW e1 e2 e4
    cases hix : lkIx (L.map (·.k)) nm with
    | none =>
      rw [hix, show ixI none = -1 from rfl] at HFD
      have HQ : Hid (q = (c, L.map (·.k), [⟨s, n, 13, 0, 0⟩])) := (show q = _ from by rw [hq]; unfold relL; rw [if_neg (by decide), hix])
      clear hq hix
      go_enter Try.func13, Try.ntmps13
      go_upto_region 4 with fail
      rw [HW.out]
      go_upto_region 5 with (go_at_call 33; refine Calls.mono HFD.out ?_; rintro e w1 ⟨rfl, hw1⟩; rw [hw1]; clear hw1)
      go_quiet (fail)
      go_upto_region 6 with fail
      obtain ⟨w1, hw1⟩ : ∃ w1, w1 = W.drewN nq := ⟨_, rfl⟩
      rw [← hw1]
      have B1 : Hid (Below W.heap.size W w1) := by rw [hw1]; exact below_drewN (Below.refl _ W) _
      clear hw1 y0 y1 y3
      have R1 : Hid (RpAt w1 (w.heap.size + 1) ⟨s, n, 0, 0, 0⟩) := (B1.out.block _ (by have := HB.out.2.2; omega)).trans HB.out.2.1
      have M1 : Hid (LoM w1 base D S P L v c) := HM.out.fresh B1.out
      have BW1 : Hid (Below w.heap.size w w1) := bmm BW.out BW.out.size B1.out
      have x2 := R1.out.cell 2 _ rfl
      have f2 := R1.out.fz 2
      go_upto_region 7 with fail
      obtain ⟨w2, hw2⟩ : ∃ w2, w2 = w1.setCell ⟨w.heap.size + 1, 2, none⟩ (.int .i64 13) := ⟨_, rfl⟩
      rw [← hw2]
      have R2 : Hid (RpAt w2 (w.heap.size + 1) ⟨s, n, 13, 0, 0⟩) := by rw [hw2]; exact R1.out.set 2 _ rfl
      have B2 : Hid (Below w.heap.size w w2) := by rw [hw2]; exact BW1.out.setCell (by show w.heap.size ≤ w.heap.size + 1; omega) _
      have M2 : Hid (LoB w2 base D S c (L.map (·.k))) := by rw [hw2]; exact ⟨P, L, _, M1.out.keep (by simp) (fun b hb => heap_setCell_other _ _ _ _ (fun e => by have e : b = w.heap.size + 1 := e; have := HSL.out b hb; omega)), rfl⟩
      clear hw2 x2 f2
      have y0 := R2.out.cell 0 _ rfl
      have y1 := R2.out.cell 1 _ rfl
      have y2 := R2.out.cell 2 _ rfl
      have y3 := R2.out.cell 3 _ rfl
      have y4 := R2.out.cell 4 _ rfl
      go_wp2_with fail
      go_ret
      rw [HQ.out]
      exact ⟨.slice (some ⟨w2.heap.size, 0, none⟩) 1 1, S, rfl, (rp_one : RowAt rpC (w2.alloc (.cells (rpA ⟨s, n, 13, 0, 0⟩) rpT)) _ [(⟨s, n, 13, 0, 0⟩ : SeR)]), LoB.fresh M2.out ((Below.refl _ _).alloc (Nat.le_refl _) _), (Kept.of B2.out).trans (Kept.of ((Below.refl _ _).alloc (Nat.le_refl _) _))⟩
    | some i =>
      rw [hix, show ixI (some i) = (i : Int) from rfl] at HFD
      obtain ⟨y, hy, hyk, _, hi⟩ := lkIx_lv hix
      have hqs : q = if hasB y.k.h s = false ∨ y.k.wr ≠ false then (c, L.map (·.k), [⟨s, n, 13, 0, 0⟩]) else relS c (L.map (·.k)) i y.k s n := by rw [hq]; unfold relL; rw [if_neg (by decide), hix]; show (match (L.map (·.k))[i]? with | none => _ | some z => _) = _; rw [hyk]; rfl
      have HQS : Hid _ := hqs
      clear hq hix hyk hqs
      obtain ⟨g, cp, J⟩ := HM.out.at hy
      obtain rfl := J.form
      have l0 := HM.out.cell 0 _ rfl
      have j1 : (i : Int) < (L.length : Int) := by omega
      have j1' : decide ((i : Int) < (L.length : Int)) = true := decide_eq_true j1
      have j2 : (0 : Int) ≤ (i : Int) := by omega
      have j3 : decide ((i : Int) < 0) = false := decide_eq_false (by omega)
      have hlen : L.length ≤ 65536 := HLN.out
      have HY : Hid (L[i]? = some y ∧ LkOk N y.k) := (show Hid _ from (⟨hy, HK.out.2 y (List.mem_of_getElem? hy)⟩ : _ ∧ _))
      have BD : Hid (Below W.heap.size W W.drew) := (Below.refl _ W).drew
      have HHS : Hid (Calls Try.prog 39 #[.slice y.ha y.k.h.length y.hc, .int .i64 s] W.drew fun e w' => e = .returned (.bool (hasB y.k.h s)) ∧ w' = W.drew) := has_any _ _ _ _ (((HM.out.fresh BD.out).hq y (List.mem_of_getElem? hy)).h.at'.ints HY.out.2.hi (by have := HY.out.2.hl; have := HK.out.1; omega))
      have HS : Hid (∀ z, Below W.heap.size W z → ((∀ (j : Nat) (u : Value), (lvC y)[j]? = some u → z.cell? ⟨g, i * 4 + j, none⟩ = some u) ∧ z.cell? ⟨D, 0, none⟩ = some (.slice (some ⟨g, 0, none⟩) L.length cp) ∧ z.cell? ⟨w.heap.size, 1, none⟩ = some (.int .i64 s) ∧ z.cell? ⟨w.heap.size, 0, none⟩ = some (.int .i64 8))) := fun z b => ⟨fun j u hu => (b.cell (p := ⟨g, i * 4 + j, none⟩) (by exact J.gs.2.2.1)).trans (J.cell j u hu), (b.cell (p := ⟨D, 0, none⟩) (by exact lt_of_block HM.out.blk)).trans l0, (b.cell (p := ⟨w.heap.size, 1, none⟩) (by show w.heap.size < W.heap.size; have := HB.out.2.2; omega)).trans y1, (b.cell (p := ⟨w.heap.size, 0, none⟩) (by show w.heap.size < W.heap.size; have := HB.out.2.2; omega)).trans y0⟩
      clear hy J
      cases hhas : hasB y.k.h s with
      | false =>
        rw [hhas] at HHS
        have HQ : Hid (q = (c, L.map (·.k), [⟨s, n, 13, 0, 0⟩])) := (show q = _ from by rw [HQS.out, if_pos (Or.inl hhas)])
        clear hhas
        go_enter Try.func13, Try.ntmps13
        go_upto_region 4 with fail
        rw [HW.out]
        go_upto_region 5 with (go_at_call 33; refine Calls.mono HFD.out ?_; rintro e w1 ⟨rfl, hw1⟩; rw [hw1]; clear hw1)
        clear y0 y1 y3
        refine wp_region_held_drew (S := (fun z : World => (∀ (j : Nat) (u : Value), (lvC y)[j]? = some u → z.cell? ⟨g, i * 4 + j, none⟩ = some u) ∧ z.cell? ⟨D, 0, none⟩ = some (.slice (some ⟨g, 0, none⟩) L.length cp) ∧ z.cell? ⟨w.heap.size, 1, none⟩ = some (.int .i64 s) ∧ z.cell? ⟨w.heap.size, 0, none⟩ = some (.int .i64 8))) (by kernel_rfl) ?_ (fun hHeld0 => ?_)
        · exact HS.out _ (Below.refl _ W).drew
        refine tk0 (.int .i64 (i : Int)) (by kernel_rfl) (by kernel_rfl) (by kernel_rfl) (fun _ _ _ h => h) rfl (fun w hSw => by (try dsimp only at hSw); have s1 := hSw.1 1 _ rfl; have s5 := hSw.2.1; have s6 := hSw.2.2.1; have s7 := hSw.2.2.2; go_simp) (by assumption) ?_
        try simp only [Act.put, List.setIfInBounds_toArray, List.set_cons_zero, List.set_cons_succ]
        refine tk1 (.bool false) (by kernel_rfl) (by kernel_rfl) (by kernel_rfl) (fun _ _ _ h => h) rfl (fun w hSw => by (try dsimp only at hSw); have s1 := hSw.1 1 _ rfl; have s5 := hSw.2.1; have s6 := hSw.2.2.1; have s7 := hSw.2.2.2; go_simp) (by assumption) ?_
        try simp only [Act.put, List.setIfInBounds_toArray, List.set_cons_zero, List.set_cons_succ]
        refine tk2 (.bool false) (by kernel_rfl) (by kernel_rfl) (by kernel_rfl) (fun _ _ _ h => h) rfl (fun w hSw => by (try dsimp only at hSw); have s1 := hSw.1 1 _ rfl; have s5 := hSw.2.1; have s6 := hSw.2.2.1; have s7 := hSw.2.2.2; go_simp) (by assumption) ?_
        try simp only [Act.put, List.setIfInBounds_toArray, List.set_cons_zero, List.set_cons_succ]
        refine tk3 (.pointer (some ⟨D, 0, none⟩)) (by kernel_rfl) (by kernel_rfl) (by kernel_rfl) (fun _ _ _ h => h) rfl (fun w hSw => by (try dsimp only at hSw); have s1 := hSw.1 1 _ rfl; have s5 := hSw.2.1; have s6 := hSw.2.2.1; have s7 := hSw.2.2.2; go_simp) (by assumption) ?_
        try simp only [Act.put, List.setIfInBounds_toArray, List.set_cons_zero, List.set_cons_succ]
        refine tk4 (.pointer (some ⟨D, 0, none⟩)) (by kernel_rfl) (by kernel_rfl) (by kernel_rfl) (fun _ _ _ h => h) rfl (fun w hSw => by (try dsimp only at hSw); have s1 := hSw.1 1 _ rfl; have s5 := hSw.2.1; have s6 := hSw.2.2.1; have s7 := hSw.2.2.2; go_simp) (by assumption) ?_
        try simp only [Act.put, List.setIfInBounds_toArray, List.set_cons_zero, List.set_cons_succ]
        refine tk5 (.pointer (some ⟨D, 0, none⟩)) (by kernel_rfl) (by kernel_rfl) (by kernel_rfl) (fun _ _ _ h => h) rfl (fun w hSw => by (try dsimp only at hSw); have s1 := hSw.1 1 _ rfl; have s5 := hSw.2.1; have s6 := hSw.2.2.1; have s7 := hSw.2.2.2; go_simp) (by assumption) ?_
        try simp only [Act.put, List.setIfInBounds_toArray, List.set_cons_zero, List.set_cons_succ]
        refine tk6 (.slice (some ⟨g, 0, none⟩) L.length cp) (by kernel_rfl) (by kernel_rfl) (by kernel_rfl) (fun _ _ _ h => h) rfl (fun w hSw => by (try dsimp only at hSw); have s1 := hSw.1 1 _ rfl; have s5 := hSw.2.1; have s6 := hSw.2.2.1; have s7 := hSw.2.2.2; go_simp) (by assumption) ?_
        try simp only [Act.put, List.setIfInBounds_toArray, List.set_cons_zero, List.set_cons_succ]
        refine tk7 (.int .i64 (i : Int)) (by kernel_rfl) (by kernel_rfl) (by kernel_rfl) (fun _ _ _ h => h) rfl (fun w hSw => by (try dsimp only at hSw); have s1 := hSw.1 1 _ rfl; have s5 := hSw.2.1; have s6 := hSw.2.2.1; have s7 := hSw.2.2.2; go_simp) (by assumption) ?_
        try simp only [Act.put, List.setIfInBounds_toArray, List.set_cons_zero, List.set_cons_succ]
        refine tk8 (.pointer (some ⟨g, i * 4, none⟩)) (by kernel_rfl) (by kernel_rfl) (by kernel_rfl) (fun _ _ _ h => h) rfl (fun w hSw => by (try dsimp only at hSw); have s1 := hSw.1 1 _ rfl; have s5 := hSw.2.1; have s6 := hSw.2.2.1; have s7 := hSw.2.2.2; go_simp) (by assumption) ?_
        try simp only [Act.put, List.setIfInBounds_toArray, List.set_cons_zero, List.set_cons_succ]
        refine tk9 (.pointer (some ⟨g, i * 4 + 1, none⟩)) (by kernel_rfl) (by kernel_rfl) (by kernel_rfl) (fun _ _ _ h => h) rfl (fun w hSw => by (try dsimp only at hSw); have s1 := hSw.1 1 _ rfl; have s5 := hSw.2.1; have s6 := hSw.2.2.1; have s7 := hSw.2.2.2; go_simp) (by assumption) ?_
        try simp only [Act.put, List.setIfInBounds_toArray, List.set_cons_zero, List.set_cons_succ]
        refine tk10 (.slice y.ha y.k.h.length y.hc) (by kernel_rfl) (by kernel_rfl) (by kernel_rfl) (fun _ _ _ h => h) rfl (fun w hSw => by (try dsimp only at hSw); have s1 := hSw.1 1 _ rfl; have s5 := hSw.2.1; have s6 := hSw.2.2.1; have s7 := hSw.2.2.2; go_simp) (by assumption) ?_
        try simp only [Act.put, List.setIfInBounds_toArray, List.set_cons_zero, List.set_cons_succ]
        refine tk11 (.pointer (some ⟨w.heap.size, 1, none⟩)) (by kernel_rfl) (by kernel_rfl) (by kernel_rfl) (fun _ _ _ h => h) rfl (fun w hSw => by (try dsimp only at hSw); have s1 := hSw.1 1 _ rfl; have s5 := hSw.2.1; have s6 := hSw.2.2.1; have s7 := hSw.2.2.2; go_simp) (by assumption) ?_
        try simp only [Act.put, List.setIfInBounds_toArray, List.set_cons_zero, List.set_cons_succ]
        refine tk12 (.int .i64 s) (by kernel_rfl) (by kernel_rfl) (by kernel_rfl) (fun _ _ _ h => h) rfl (fun w hSw => by (try dsimp only at hSw); have s1 := hSw.1 1 _ rfl; have s5 := hSw.2.1; have s6 := hSw.2.2.1; have s7 := hSw.2.2.2; go_simp) (by assumption) ?_
        try simp only [Act.put, List.setIfInBounds_toArray, List.set_cons_zero, List.set_cons_succ]
        refine cl13 (by kernel_rfl) rfl (fun K hK => ?_)
        go_simp
        go_at_call 39
        refine Calls.mono HHS.out ?_
        rintro e w1 ⟨rfl, hw1⟩
        rw [hw1]
        clear hw1
        refine hK.out _ _ ?_ (fun hHeld => ?_)
        · exact HS.out _ (Below.refl _ W).drew
        clear hK K
        try simp only [Act.put, List.setIfInBounds_toArray, List.set_cons_zero, List.set_cons_succ]
        refine tk14 (.bool true) (by kernel_rfl) (by kernel_rfl) (by kernel_rfl) (fun _ _ _ h => h) rfl (fun w hSw => by (try dsimp only at hSw); have s1 := hSw.1 1 _ rfl; have s5 := hSw.2.1; have s6 := hSw.2.2.1; have s7 := hSw.2.2.2; go_simp) (by assumption) ?_
        try simp only [Act.put, List.setIfInBounds_toArray, List.set_cons_zero, List.set_cons_succ]
        refine tk15 (.bool true) (by kernel_rfl) (by kernel_rfl) (by kernel_rfl) (fun _ _ _ h => h) rfl (fun w hSw => by (try dsimp only at hSw); have s1 := hSw.1 1 _ rfl; have s5 := hSw.2.1; have s6 := hSw.2.2.1; have s7 := hSw.2.2.2; go_simp) (by assumption) ?_
        try simp only [Act.put, List.setIfInBounds_toArray, List.set_cons_zero, List.set_cons_succ]
        refine tk16 (.bool true) (by kernel_rfl) (by kernel_rfl) (by kernel_rfl) (fun _ _ _ h => h) rfl (fun w hSw => by (try dsimp only at hSw); have s1 := hSw.1 1 _ rfl; have s5 := hSw.2.1; have s6 := hSw.2.2.1; have s7 := hSw.2.2.2; go_simp) (by assumption) ?_
        try simp only [Act.put, List.setIfInBounds_toArray, List.set_cons_zero, List.set_cons_succ]
        refine sk17 (by kernel_rfl) (by kernel_rfl) (by kernel_rfl) (fun _ _ _ h => h) rfl (by assumption) ?_
        try simp only [Act.put, List.setIfInBounds_toArray, List.set_cons_zero, List.set_cons_succ]
        refine sk18 (by kernel_rfl) (by kernel_rfl) (by kernel_rfl) (fun _ _ _ h => h) rfl (by assumption) ?_
        try simp only [Act.put, List.setIfInBounds_toArray, List.set_cons_zero, List.set_cons_succ]
        refine sk19 (by kernel_rfl) (by kernel_rfl) (by kernel_rfl) (fun _ _ _ h => h) rfl (by assumption) ?_
        try simp only [Act.put, List.setIfInBounds_toArray, List.set_cons_zero, List.set_cons_succ]
        refine sk20 (by kernel_rfl) (by kernel_rfl) (by kernel_rfl) (fun _ _ _ h => h) rfl (by assumption) ?_
        try simp only [Act.put, List.setIfInBounds_toArray, List.set_cons_zero, List.set_cons_succ]
        refine sk21 (by kernel_rfl) (by kernel_rfl) (by kernel_rfl) (fun _ _ _ h => h) rfl (by assumption) ?_
        try simp only [Act.put, List.setIfInBounds_toArray, List.set_cons_zero, List.set_cons_succ]
        refine sk22 (by kernel_rfl) (by kernel_rfl) (by kernel_rfl) (fun _ _ _ h => h) rfl (by assumption) ?_
        try simp only [Act.put, List.setIfInBounds_toArray, List.set_cons_zero, List.set_cons_succ]
        refine sk23 (by kernel_rfl) (by kernel_rfl) (by kernel_rfl) (fun _ _ _ h => h) rfl (by assumption) ?_
        try simp only [Act.put, List.setIfInBounds_toArray, List.set_cons_zero, List.set_cons_succ]
        refine sk24 (by kernel_rfl) (by kernel_rfl) (by kernel_rfl) (fun _ _ _ h => h) rfl (by assumption) ?_
        try simp only [Act.put, List.setIfInBounds_toArray, List.set_cons_zero, List.set_cons_succ]
        refine sk25 (by kernel_rfl) (by kernel_rfl) (by kernel_rfl) (fun _ _ _ h => h) rfl (by assumption) ?_
        try simp only [Act.put, List.setIfInBounds_toArray, List.set_cons_zero, List.set_cons_succ]
        refine sk26 (by kernel_rfl) (by kernel_rfl) (by kernel_rfl) (fun _ _ _ h => h) rfl (by assumption) ?_
        try simp only [Act.put, List.setIfInBounds_toArray, List.set_cons_zero, List.set_cons_succ]
        refine sk27 (by kernel_rfl) (by kernel_rfl) (by kernel_rfl) (fun _ _ _ h => h) rfl (by assumption) ?_
        try simp only [Act.put, List.setIfInBounds_toArray, List.set_cons_zero, List.set_cons_succ]
        refine sk28 (by kernel_rfl) (by kernel_rfl) (by kernel_rfl) (fun _ _ _ h => h) rfl (by assumption) ?_
        try simp only [Act.put, List.setIfInBounds_toArray, List.set_cons_zero, List.set_cons_succ]
        refine tk29 (.bool true) (by kernel_rfl) (by kernel_rfl) (by kernel_rfl) (fun _ _ _ h => h) rfl (fun w hSw => by (try dsimp only at hSw); have s1 := hSw.1 1 _ rfl; have s5 := hSw.2.1; have s6 := hSw.2.2.1; have s7 := hSw.2.2.2; go_simp) (by assumption) ?_
        try simp only [Act.put, List.setIfInBounds_toArray, List.set_cons_zero, List.set_cons_succ]
        refine wpAnyH_done (by kernel_rfl) ?_ _
        obtain ⟨w1, hw1⟩ : ∃ w1, w1 = W.drew := ⟨_, rfl⟩
        rw [← hw1]
        have B1 : Hid (Below W.heap.size W w1) := by rw [hw1]; exact (Below.refl _ W).drew
        clear hw1
        have R1 : Hid (RpAt w1 (w.heap.size + 1) ⟨s, n, 0, 0, 0⟩) := (B1.out.block _ (by have := HB.out.2.2; omega)).trans HB.out.2.1
        have M1 : Hid (LoM w1 base D S P L (.slice (some ⟨g, 0, none⟩) L.length cp) c) := HM.out.fresh B1.out
        have BW1 : Hid (Below w.heap.size w w1) := bmm BW.out BW.out.size B1.out
        have x2 := R1.out.cell 2 _ rfl
        have f2 := R1.out.fz 2
        go_upto_region 7 with fail
        obtain ⟨w2, hw2⟩ : ∃ w2, w2 = w1.setCell ⟨w.heap.size + 1, 2, none⟩ (.int .i64 13) := ⟨_, rfl⟩
        rw [← hw2]
        have R2 : Hid (RpAt w2 (w.heap.size + 1) ⟨s, n, 13, 0, 0⟩) := by rw [hw2]; exact R1.out.set 2 _ rfl
        have B2 : Hid (Below w.heap.size w w2) := by rw [hw2]; exact BW1.out.setCell (by show w.heap.size ≤ w.heap.size + 1; omega) _
        have M2 : Hid (LoB w2 base D S c (L.map (·.k))) := by rw [hw2]; exact ⟨P, L, _, M1.out.keep (by simp) (fun b hb => heap_setCell_other _ _ _ _ (fun e => by have e : b = w.heap.size + 1 := e; have := HSL.out b hb; omega)), rfl⟩
        clear hw2 x2 f2
        have y0 := R2.out.cell 0 _ rfl
        have y1 := R2.out.cell 1 _ rfl
        have y2 := R2.out.cell 2 _ rfl
        have y3 := R2.out.cell 3 _ rfl
        have y4 := R2.out.cell 4 _ rfl
        go_wp2_with fail
        go_ret
        rw [HQ.out]
        exact ⟨.slice (some ⟨w2.heap.size, 0, none⟩) 1 1, S, rfl, (rp_one : RowAt rpC (w2.alloc (.cells (rpA ⟨s, n, 13, 0, 0⟩) rpT)) _ [(⟨s, n, 13, 0, 0⟩ : SeR)]), LoB.fresh M2.out ((Below.refl _ _).alloc (Nat.le_refl _) _), (Kept.of B2.out).trans (Kept.of ((Below.refl _ _).alloc (Nat.le_refl _) _))⟩
      | true =>
        rw [hhas] at HHS
        cases hwr : y.k.wr with
        | false =>
          have HQ : Hid (q = relS c (L.map (·.k)) i y.k s n) := (show q = _ from by rw [HQS.out, if_neg (fun e => e.elim (fun e => by rw [hhas] at e; cases e) (fun e => e hwr))])
          have HWR : Hid (y.k.wr = false) := hwr
          clear hhas hwr
          go_enter Try.func13, Try.ntmps13
          go_upto_region 4 with fail
          rw [HW.out]
          go_upto_region 5 with (go_at_call 33; refine Calls.mono HFD.out ?_; rintro e w1 ⟨rfl, hw1⟩; rw [hw1]; clear hw1)
          clear y0 y1 y3
          refine wp_region_held_drew (S := (fun z : World => (∀ (j : Nat) (u : Value), (lvC y)[j]? = some u → z.cell? ⟨g, i * 4 + j, none⟩ = some u) ∧ z.cell? ⟨D, 0, none⟩ = some (.slice (some ⟨g, 0, none⟩) L.length cp) ∧ z.cell? ⟨w.heap.size, 1, none⟩ = some (.int .i64 s) ∧ z.cell? ⟨w.heap.size, 0, none⟩ = some (.int .i64 8))) (by kernel_rfl) ?_ (fun hHeld0 => ?_)
          · exact HS.out _ (Below.refl _ W).drew
          refine tk0 (.int .i64 (i : Int)) (by kernel_rfl) (by kernel_rfl) (by kernel_rfl) (fun _ _ _ h => h) rfl (fun w hSw => by (try dsimp only at hSw); have s1 := hSw.1 1 _ rfl; have s2 := hSw.1 2 _ rfl; rw [HWR.out] at s2; have s5 := hSw.2.1; have s6 := hSw.2.2.1; have s7 := hSw.2.2.2; go_simp) (by assumption) ?_
          try simp only [Act.put, List.setIfInBounds_toArray, List.set_cons_zero, List.set_cons_succ]
          refine tk1 (.bool false) (by kernel_rfl) (by kernel_rfl) (by kernel_rfl) (fun _ _ _ h => h) rfl (fun w hSw => by (try dsimp only at hSw); have s1 := hSw.1 1 _ rfl; have s2 := hSw.1 2 _ rfl; rw [HWR.out] at s2; have s5 := hSw.2.1; have s6 := hSw.2.2.1; have s7 := hSw.2.2.2; go_simp) (by assumption) ?_
          try simp only [Act.put, List.setIfInBounds_toArray, List.set_cons_zero, List.set_cons_succ]
          refine tk2 (.bool false) (by kernel_rfl) (by kernel_rfl) (by kernel_rfl) (fun _ _ _ h => h) rfl (fun w hSw => by (try dsimp only at hSw); have s1 := hSw.1 1 _ rfl; have s2 := hSw.1 2 _ rfl; rw [HWR.out] at s2; have s5 := hSw.2.1; have s6 := hSw.2.2.1; have s7 := hSw.2.2.2; go_simp) (by assumption) ?_
          try simp only [Act.put, List.setIfInBounds_toArray, List.set_cons_zero, List.set_cons_succ]
          refine tk3 (.pointer (some ⟨D, 0, none⟩)) (by kernel_rfl) (by kernel_rfl) (by kernel_rfl) (fun _ _ _ h => h) rfl (fun w hSw => by (try dsimp only at hSw); have s1 := hSw.1 1 _ rfl; have s2 := hSw.1 2 _ rfl; rw [HWR.out] at s2; have s5 := hSw.2.1; have s6 := hSw.2.2.1; have s7 := hSw.2.2.2; go_simp) (by assumption) ?_
          try simp only [Act.put, List.setIfInBounds_toArray, List.set_cons_zero, List.set_cons_succ]
          refine tk4 (.pointer (some ⟨D, 0, none⟩)) (by kernel_rfl) (by kernel_rfl) (by kernel_rfl) (fun _ _ _ h => h) rfl (fun w hSw => by (try dsimp only at hSw); have s1 := hSw.1 1 _ rfl; have s2 := hSw.1 2 _ rfl; rw [HWR.out] at s2; have s5 := hSw.2.1; have s6 := hSw.2.2.1; have s7 := hSw.2.2.2; go_simp) (by assumption) ?_
          try simp only [Act.put, List.setIfInBounds_toArray, List.set_cons_zero, List.set_cons_succ]
          refine tk5 (.pointer (some ⟨D, 0, none⟩)) (by kernel_rfl) (by kernel_rfl) (by kernel_rfl) (fun _ _ _ h => h) rfl (fun w hSw => by (try dsimp only at hSw); have s1 := hSw.1 1 _ rfl; have s2 := hSw.1 2 _ rfl; rw [HWR.out] at s2; have s5 := hSw.2.1; have s6 := hSw.2.2.1; have s7 := hSw.2.2.2; go_simp) (by assumption) ?_
          try simp only [Act.put, List.setIfInBounds_toArray, List.set_cons_zero, List.set_cons_succ]
          refine tk6 (.slice (some ⟨g, 0, none⟩) L.length cp) (by kernel_rfl) (by kernel_rfl) (by kernel_rfl) (fun _ _ _ h => h) rfl (fun w hSw => by (try dsimp only at hSw); have s1 := hSw.1 1 _ rfl; have s2 := hSw.1 2 _ rfl; rw [HWR.out] at s2; have s5 := hSw.2.1; have s6 := hSw.2.2.1; have s7 := hSw.2.2.2; go_simp) (by assumption) ?_
          try simp only [Act.put, List.setIfInBounds_toArray, List.set_cons_zero, List.set_cons_succ]
          refine tk7 (.int .i64 (i : Int)) (by kernel_rfl) (by kernel_rfl) (by kernel_rfl) (fun _ _ _ h => h) rfl (fun w hSw => by (try dsimp only at hSw); have s1 := hSw.1 1 _ rfl; have s2 := hSw.1 2 _ rfl; rw [HWR.out] at s2; have s5 := hSw.2.1; have s6 := hSw.2.2.1; have s7 := hSw.2.2.2; go_simp) (by assumption) ?_
          try simp only [Act.put, List.setIfInBounds_toArray, List.set_cons_zero, List.set_cons_succ]
          refine tk8 (.pointer (some ⟨g, i * 4, none⟩)) (by kernel_rfl) (by kernel_rfl) (by kernel_rfl) (fun _ _ _ h => h) rfl (fun w hSw => by (try dsimp only at hSw); have s1 := hSw.1 1 _ rfl; have s2 := hSw.1 2 _ rfl; rw [HWR.out] at s2; have s5 := hSw.2.1; have s6 := hSw.2.2.1; have s7 := hSw.2.2.2; go_simp) (by assumption) ?_
          try simp only [Act.put, List.setIfInBounds_toArray, List.set_cons_zero, List.set_cons_succ]
          refine tk9 (.pointer (some ⟨g, i * 4 + 1, none⟩)) (by kernel_rfl) (by kernel_rfl) (by kernel_rfl) (fun _ _ _ h => h) rfl (fun w hSw => by (try dsimp only at hSw); have s1 := hSw.1 1 _ rfl; have s2 := hSw.1 2 _ rfl; rw [HWR.out] at s2; have s5 := hSw.2.1; have s6 := hSw.2.2.1; have s7 := hSw.2.2.2; go_simp) (by assumption) ?_
          try simp only [Act.put, List.setIfInBounds_toArray, List.set_cons_zero, List.set_cons_succ]
          refine tk10 (.slice y.ha y.k.h.length y.hc) (by kernel_rfl) (by kernel_rfl) (by kernel_rfl) (fun _ _ _ h => h) rfl (fun w hSw => by (try dsimp only at hSw); have s1 := hSw.1 1 _ rfl; have s2 := hSw.1 2 _ rfl; rw [HWR.out] at s2; have s5 := hSw.2.1; have s6 := hSw.2.2.1; have s7 := hSw.2.2.2; go_simp) (by assumption) ?_
          try simp only [Act.put, List.setIfInBounds_toArray, List.set_cons_zero, List.set_cons_succ]
          refine tk11 (.pointer (some ⟨w.heap.size, 1, none⟩)) (by kernel_rfl) (by kernel_rfl) (by kernel_rfl) (fun _ _ _ h => h) rfl (fun w hSw => by (try dsimp only at hSw); have s1 := hSw.1 1 _ rfl; have s2 := hSw.1 2 _ rfl; rw [HWR.out] at s2; have s5 := hSw.2.1; have s6 := hSw.2.2.1; have s7 := hSw.2.2.2; go_simp) (by assumption) ?_
          try simp only [Act.put, List.setIfInBounds_toArray, List.set_cons_zero, List.set_cons_succ]
          refine tk12 (.int .i64 s) (by kernel_rfl) (by kernel_rfl) (by kernel_rfl) (fun _ _ _ h => h) rfl (fun w hSw => by (try dsimp only at hSw); have s1 := hSw.1 1 _ rfl; have s2 := hSw.1 2 _ rfl; rw [HWR.out] at s2; have s5 := hSw.2.1; have s6 := hSw.2.2.1; have s7 := hSw.2.2.2; go_simp) (by assumption) ?_
          try simp only [Act.put, List.setIfInBounds_toArray, List.set_cons_zero, List.set_cons_succ]
          refine cl13 (by kernel_rfl) rfl (fun K hK => ?_)
          go_simp
          go_at_call 39
          refine Calls.mono HHS.out ?_
          rintro e w1 ⟨rfl, hw1⟩
          rw [hw1]
          clear hw1
          refine hK.out _ _ ?_ (fun hHeld => ?_)
          · exact HS.out _ (Below.refl _ W).drew
          clear hK K
          try simp only [Act.put, List.setIfInBounds_toArray, List.set_cons_zero, List.set_cons_succ]
          refine tk14 (.bool false) (by kernel_rfl) (by kernel_rfl) (by kernel_rfl) (fun _ _ _ h => h) rfl (fun w hSw => by (try dsimp only at hSw); have s1 := hSw.1 1 _ rfl; have s2 := hSw.1 2 _ rfl; rw [HWR.out] at s2; have s5 := hSw.2.1; have s6 := hSw.2.2.1; have s7 := hSw.2.2.2; go_simp) (by assumption) ?_
          try simp only [Act.put, List.setIfInBounds_toArray, List.set_cons_zero, List.set_cons_succ]
          refine tk15 (.bool false) (by kernel_rfl) (by kernel_rfl) (by kernel_rfl) (fun _ _ _ h => h) rfl (fun w hSw => by (try dsimp only at hSw); have s1 := hSw.1 1 _ rfl; have s2 := hSw.1 2 _ rfl; rw [HWR.out] at s2; have s5 := hSw.2.1; have s6 := hSw.2.2.1; have s7 := hSw.2.2.2; go_simp) (by assumption) ?_
          try simp only [Act.put, List.setIfInBounds_toArray, List.set_cons_zero, List.set_cons_succ]
          refine tk16 (.bool false) (by kernel_rfl) (by kernel_rfl) (by kernel_rfl) (fun _ _ _ h => h) rfl (fun w hSw => by (try dsimp only at hSw); have s1 := hSw.1 1 _ rfl; have s2 := hSw.1 2 _ rfl; rw [HWR.out] at s2; have s5 := hSw.2.1; have s6 := hSw.2.2.1; have s7 := hSw.2.2.2; go_simp) (by assumption) ?_
          try simp only [Act.put, List.setIfInBounds_toArray, List.set_cons_zero, List.set_cons_succ]
          refine tk17 (.pointer (some ⟨D, 0, none⟩)) (by kernel_rfl) (by kernel_rfl) (by kernel_rfl) (fun _ _ _ h => h) rfl (fun w hSw => by (try dsimp only at hSw); have s1 := hSw.1 1 _ rfl; have s2 := hSw.1 2 _ rfl; rw [HWR.out] at s2; have s5 := hSw.2.1; have s6 := hSw.2.2.1; have s7 := hSw.2.2.2; go_simp) (by assumption) ?_
          try simp only [Act.put, List.setIfInBounds_toArray, List.set_cons_zero, List.set_cons_succ]
          refine tk18 (.pointer (some ⟨D, 0, none⟩)) (by kernel_rfl) (by kernel_rfl) (by kernel_rfl) (fun _ _ _ h => h) rfl (fun w hSw => by (try dsimp only at hSw); have s1 := hSw.1 1 _ rfl; have s2 := hSw.1 2 _ rfl; rw [HWR.out] at s2; have s5 := hSw.2.1; have s6 := hSw.2.2.1; have s7 := hSw.2.2.2; go_simp) (by assumption) ?_
          try simp only [Act.put, List.setIfInBounds_toArray, List.set_cons_zero, List.set_cons_succ]
          refine tk19 (.pointer (some ⟨D, 0, none⟩)) (by kernel_rfl) (by kernel_rfl) (by kernel_rfl) (fun _ _ _ h => h) rfl (fun w hSw => by (try dsimp only at hSw); have s1 := hSw.1 1 _ rfl; have s2 := hSw.1 2 _ rfl; rw [HWR.out] at s2; have s5 := hSw.2.1; have s6 := hSw.2.2.1; have s7 := hSw.2.2.2; go_simp) (by assumption) ?_
          try simp only [Act.put, List.setIfInBounds_toArray, List.set_cons_zero, List.set_cons_succ]
          refine tk20 (.slice (some ⟨g, 0, none⟩) L.length cp) (by kernel_rfl) (by kernel_rfl) (by kernel_rfl) (fun _ _ _ h => h) rfl (fun w hSw => by (try dsimp only at hSw); have s1 := hSw.1 1 _ rfl; have s2 := hSw.1 2 _ rfl; rw [HWR.out] at s2; have s5 := hSw.2.1; have s6 := hSw.2.2.1; have s7 := hSw.2.2.2; go_simp) (by assumption) ?_
          try simp only [Act.put, List.setIfInBounds_toArray, List.set_cons_zero, List.set_cons_succ]
          refine tk21 (.int .i64 (i : Int)) (by kernel_rfl) (by kernel_rfl) (by kernel_rfl) (fun _ _ _ h => h) rfl (fun w hSw => by (try dsimp only at hSw); have s1 := hSw.1 1 _ rfl; have s2 := hSw.1 2 _ rfl; rw [HWR.out] at s2; have s5 := hSw.2.1; have s6 := hSw.2.2.1; have s7 := hSw.2.2.2; go_simp) (by assumption) ?_
          try simp only [Act.put, List.setIfInBounds_toArray, List.set_cons_zero, List.set_cons_succ]
          refine tk22 (.pointer (some ⟨g, i * 4, none⟩)) (by kernel_rfl) (by kernel_rfl) (by kernel_rfl) (fun _ _ _ h => h) rfl (fun w hSw => by (try dsimp only at hSw); have s1 := hSw.1 1 _ rfl; have s2 := hSw.1 2 _ rfl; rw [HWR.out] at s2; have s5 := hSw.2.1; have s6 := hSw.2.2.1; have s7 := hSw.2.2.2; go_simp) (by assumption) ?_
          try simp only [Act.put, List.setIfInBounds_toArray, List.set_cons_zero, List.set_cons_succ]
          refine tk23 (.pointer (some ⟨g, i * 4 + 2, none⟩)) (by kernel_rfl) (by kernel_rfl) (by kernel_rfl) (fun _ _ _ h => h) rfl (fun w hSw => by (try dsimp only at hSw); have s1 := hSw.1 1 _ rfl; have s2 := hSw.1 2 _ rfl; rw [HWR.out] at s2; have s5 := hSw.2.1; have s6 := hSw.2.2.1; have s7 := hSw.2.2.2; go_simp) (by assumption) ?_
          try simp only [Act.put, List.setIfInBounds_toArray, List.set_cons_zero, List.set_cons_succ]
          refine tk24 (.bool false) (by kernel_rfl) (by kernel_rfl) (by kernel_rfl) (fun _ _ _ h => h) rfl (fun w hSw => by (try dsimp only at hSw); have s1 := hSw.1 1 _ rfl; have s2 := hSw.1 2 _ rfl; rw [HWR.out] at s2; have s5 := hSw.2.1; have s6 := hSw.2.2.1; have s7 := hSw.2.2.2; go_simp) (by assumption) ?_
          try simp only [Act.put, List.setIfInBounds_toArray, List.set_cons_zero, List.set_cons_succ]
          refine tk25 (.pointer (some ⟨w.heap.size, 0, none⟩)) (by kernel_rfl) (by kernel_rfl) (by kernel_rfl) (fun _ _ _ h => h) rfl (fun w hSw => by (try dsimp only at hSw); have s1 := hSw.1 1 _ rfl; have s2 := hSw.1 2 _ rfl; rw [HWR.out] at s2; have s5 := hSw.2.1; have s6 := hSw.2.2.1; have s7 := hSw.2.2.2; go_simp) (by assumption) ?_
          try simp only [Act.put, List.setIfInBounds_toArray, List.set_cons_zero, List.set_cons_succ]
          refine tk26 (.int .i64 8) (by kernel_rfl) (by kernel_rfl) (by kernel_rfl) (fun _ _ _ h => h) rfl (fun w hSw => by (try dsimp only at hSw); have s1 := hSw.1 1 _ rfl; have s2 := hSw.1 2 _ rfl; rw [HWR.out] at s2; have s5 := hSw.2.1; have s6 := hSw.2.2.1; have s7 := hSw.2.2.2; go_simp) (by assumption) ?_
          try simp only [Act.put, List.setIfInBounds_toArray, List.set_cons_zero, List.set_cons_succ]
          refine tk27 (.bool false) (by kernel_rfl) (by kernel_rfl) (by kernel_rfl) (fun _ _ _ h => h) rfl (fun w hSw => by (try dsimp only at hSw); have s1 := hSw.1 1 _ rfl; have s2 := hSw.1 2 _ rfl; rw [HWR.out] at s2; have s5 := hSw.2.1; have s6 := hSw.2.2.1; have s7 := hSw.2.2.2; go_simp) (by assumption) ?_
          try simp only [Act.put, List.setIfInBounds_toArray, List.set_cons_zero, List.set_cons_succ]
          refine tk28 (.bool false) (by kernel_rfl) (by kernel_rfl) (by kernel_rfl) (fun _ _ _ h => h) rfl (fun w hSw => by (try dsimp only at hSw); have s1 := hSw.1 1 _ rfl; have s2 := hSw.1 2 _ rfl; rw [HWR.out] at s2; have s5 := hSw.2.1; have s6 := hSw.2.2.1; have s7 := hSw.2.2.2; go_simp) (by assumption) ?_
          try simp only [Act.put, List.setIfInBounds_toArray, List.set_cons_zero, List.set_cons_succ]
          refine tk29 (.bool false) (by kernel_rfl) (by kernel_rfl) (by kernel_rfl) (fun _ _ _ h => h) rfl (fun w hSw => by (try dsimp only at hSw); have s1 := hSw.1 1 _ rfl; have s2 := hSw.1 2 _ rfl; rw [HWR.out] at s2; have s5 := hSw.2.1; have s6 := hSw.2.2.1; have s7 := hSw.2.2.2; go_simp) (by assumption) ?_
          try simp only [Act.put, List.setIfInBounds_toArray, List.set_cons_zero, List.set_cons_succ]
          refine wpAnyH_done (by kernel_rfl) ?_ _
          obtain ⟨w1, hw1⟩ : ∃ w1, w1 = W.drew := ⟨_, rfl⟩
          rw [← hw1]
          have B1 : Hid (Below W.heap.size W w1) := by rw [hw1]; exact (Below.refl _ W).drew
          clear hw1
          have R1 : Hid (RpAt w1 (w.heap.size + 1) ⟨s, n, 0, 0, 0⟩) := (B1.out.block _ (by have := HB.out.2.2; omega)).trans HB.out.2.1
          have M1 : Hid (LoM w1 base D S P L (.slice (some ⟨g, 0, none⟩) L.length cp) c) := HM.out.fresh B1.out
          have BW1 : Hid (Below w.heap.size w w1) := bmm BW.out BW.out.size B1.out
          go_upto_region 8 with fail
          obtain ⟨g2, cp2, J1⟩ := M1.out.at HY.out.1
          have e2 := J1.form
          simp only [Value.slice.injEq, Option.some.injEq, Addr.mk.injEq, and_true, true_and] at e2
          obtain ⟨rfl, rfl⟩ := e2
          obtain ⟨cur, hb, ht, hcl, K1⟩ := M1.out.lks HY.out.1 J1
          have HT : Hid (w1.heap[g]? = some (.cells cur.toArray lkT (0, 0)) ∧ cur.take (L.length * 4) = rowL lvC L ∧ cur.length = cp * 4 ∧ LoI w1 base D S P L (.slice (some ⟨g, 0, none⟩) L.length cp) g cp i y) := (show Hid _ from (⟨hb, ht, hcl, J1⟩ : _ ∧ _ ∧ _ ∧ _))
          have KK : Hid _ := K1
          have HC : Hid (∀ z, Below w1.heap.size w1 z → z.cell? ⟨g, i * 4 + 1, none⟩ = some (.slice y.ha y.k.h.length y.hc) ∧ z.frozen? ⟨g, i * 4 + 1, none⟩ = false) := fun z b => ⟨(KK.out.below b).cell.1, (KK.out.below b).fz _⟩
          have HS8 : Hid (∀ z, Below w1.heap.size w1 z → z.cell? ⟨D, 0, none⟩ = some (.slice (some ⟨g, 0, none⟩) L.length cp) ∧ z.cell? ⟨w.heap.size, 1, none⟩ = some (.int .i64 s)) := fun z b => by have := HS.out z (B1.out.trans (b.mono B1.out.size)); exact ⟨this.2.1, this.2.2.1⟩
          have HDR : Hid (Calls Try.prog 40 #[.slice y.ha y.k.h.length y.hc, .int .i64 s] w1.drew fun e w' => ∃ u, e = .returned u ∧ w'.ownsRow w1.drew.heap.size 3 1 u (dropL y.k.h s).length (intL (dropL y.k.h s)) ∧ Below w1.drew.heap.size w1.drew w') := drop_any _ _ _ _ (((KK.out.below (Below.refl _ w1).drew).hr.at').ints HY.out.2.hi (by have := HY.out.2.hl; have := HK.out.1; omega)) (by have := HY.out.2.hl; have := HK.out.1; omega)
          have HXE : Hid (g ≠ D ∧ g ≠ w.heap.size) := (show Hid _ from (⟨J1.gs.2.1, by have := HSL.out g J1.gs.1; omega⟩ : _ ∧ _))
          clear hb ht hcl K1 J1
          refine wp_region_held_drew (S := (fun z : World => z.cell? ⟨D, 0, none⟩ = some (.slice (some ⟨g, 0, none⟩) L.length cp) ∧ z.cell? ⟨w.heap.size, 1, none⟩ = some (.int .i64 s))) (by kernel_rfl) ?_ (fun hHeld0 => ?_)
          · exact HS8.out _ (Below.refl _ w1).drew
          refine tk0 (.pointer (some ⟨D, 0, none⟩)) (by kernel_rfl) (by kernel_rfl) (by kernel_rfl) (fun _ _ _ h => h) rfl (fun w hSw => by (try dsimp only at hSw); have s5 := hSw.1; have s6 := hSw.2; go_simp) (by assumption) ?_
          try simp only [Act.put, List.setIfInBounds_toArray, List.set_cons_zero, List.set_cons_succ]
          refine tk1 (.pointer (some ⟨D, 0, none⟩)) (by kernel_rfl) (by kernel_rfl) (by kernel_rfl) (fun _ _ _ h => h) rfl (fun w hSw => by (try dsimp only at hSw); have s5 := hSw.1; have s6 := hSw.2; go_simp) (by assumption) ?_
          try simp only [Act.put, List.setIfInBounds_toArray, List.set_cons_zero, List.set_cons_succ]
          refine tk2 (.pointer (some ⟨D, 0, none⟩)) (by kernel_rfl) (by kernel_rfl) (by kernel_rfl) (fun _ _ _ h => h) rfl (fun w hSw => by (try dsimp only at hSw); have s5 := hSw.1; have s6 := hSw.2; go_simp) (by assumption) ?_
          try simp only [Act.put, List.setIfInBounds_toArray, List.set_cons_zero, List.set_cons_succ]
          refine tk3 (.slice (some ⟨g, 0, none⟩) L.length cp) (by kernel_rfl) (by kernel_rfl) (by kernel_rfl) (fun _ _ _ h => h) rfl (fun w hSw => by (try dsimp only at hSw); have s5 := hSw.1; have s6 := hSw.2; go_simp) (by assumption) ?_
          try simp only [Act.put, List.setIfInBounds_toArray, List.set_cons_zero, List.set_cons_succ]
          refine tk4 (.int .i64 (i : Int)) (by kernel_rfl) (by kernel_rfl) (by kernel_rfl) (fun _ _ _ h => h) rfl (fun w hSw => by (try dsimp only at hSw); have s5 := hSw.1; have s6 := hSw.2; go_simp) (by assumption) ?_
          try simp only [Act.put, List.setIfInBounds_toArray, List.set_cons_zero, List.set_cons_succ]
          refine tk5 (.pointer (some ⟨D, 0, none⟩)) (by kernel_rfl) (by kernel_rfl) (by kernel_rfl) (fun _ _ _ h => h) rfl (fun w hSw => by (try dsimp only at hSw); have s5 := hSw.1; have s6 := hSw.2; go_simp) (by assumption) ?_
          try simp only [Act.put, List.setIfInBounds_toArray, List.set_cons_zero, List.set_cons_succ]
          refine tk6 (.pointer (some ⟨D, 0, none⟩)) (by kernel_rfl) (by kernel_rfl) (by kernel_rfl) (fun _ _ _ h => h) rfl (fun w hSw => by (try dsimp only at hSw); have s5 := hSw.1; have s6 := hSw.2; go_simp) (by assumption) ?_
          try simp only [Act.put, List.setIfInBounds_toArray, List.set_cons_zero, List.set_cons_succ]
          refine tk7 (.pointer (some ⟨D, 0, none⟩)) (by kernel_rfl) (by kernel_rfl) (by kernel_rfl) (fun _ _ _ h => h) rfl (fun w hSw => by (try dsimp only at hSw); have s5 := hSw.1; have s6 := hSw.2; go_simp) (by assumption) ?_
          try simp only [Act.put, List.setIfInBounds_toArray, List.set_cons_zero, List.set_cons_succ]
          refine tk8 (.slice (some ⟨g, 0, none⟩) L.length cp) (by kernel_rfl) (by kernel_rfl) (by kernel_rfl) (fun _ _ _ h => h) rfl (fun w hSw => by (try dsimp only at hSw); have s5 := hSw.1; have s6 := hSw.2; go_simp) (by assumption) ?_
          try simp only [Act.put, List.setIfInBounds_toArray, List.set_cons_zero, List.set_cons_succ]
          refine tk9 (.int .i64 (i : Int)) (by kernel_rfl) (by kernel_rfl) (by kernel_rfl) (fun _ _ _ h => h) rfl (fun w hSw => by (try dsimp only at hSw); have s5 := hSw.1; have s6 := hSw.2; go_simp) (by assumption) ?_
          try simp only [Act.put, List.setIfInBounds_toArray, List.set_cons_zero, List.set_cons_succ]
          refine tk10 (.pointer (some ⟨g, i * 4, none⟩)) (by kernel_rfl) (by kernel_rfl) (by kernel_rfl) (fun _ _ _ h => h) rfl (fun w hSw => by (try dsimp only at hSw); have s5 := hSw.1; have s6 := hSw.2; go_simp) (by assumption) ?_
          try simp only [Act.put, List.setIfInBounds_toArray, List.set_cons_zero, List.set_cons_succ]
          refine tk11 (.pointer (some ⟨g, i * 4 + 1, none⟩)) (by kernel_rfl) (by kernel_rfl) (by kernel_rfl) (fun _ _ _ h => h) rfl (fun w hSw => by (try dsimp only at hSw); have s5 := hSw.1; have s6 := hSw.2; go_simp) (by assumption) ?_
          try simp only [Act.put, List.setIfInBounds_toArray, List.set_cons_zero, List.set_cons_succ]
          refine tk13 (.pointer (some ⟨w.heap.size, 1, none⟩)) (by kernel_rfl) (by kernel_rfl) (by kernel_rfl) (fun _ _ _ h => h) rfl (fun w hSw => by (try dsimp only at hSw); have s5 := hSw.1; have s6 := hSw.2; go_simp) (by assumption) ?_
          try simp only [Act.put, List.setIfInBounds_toArray, List.set_cons_zero, List.set_cons_succ]
          refine tk14 (.int .i64 s) (by kernel_rfl) (by kernel_rfl) (by kernel_rfl) (fun _ _ _ h => h) rfl (fun w hSw => by (try dsimp only at hSw); have s5 := hSw.1; have s6 := hSw.2; go_simp) (by assumption) ?_
          try simp only [Act.put, List.setIfInBounds_toArray, List.set_cons_zero, List.set_cons_succ]
          refine cl12 (by kernel_rfl) rfl (fun K hK => ?_)
          have c1 := (HC.out w1.drew (Below.refl _ w1).drew).1
          go_simp
          refine hK.out _ _ ?_ (fun hHeld => ?_)
          · exact HS8.out _ (Below.refl _ w1).drew
          clear hK K
          try simp only [Act.put, List.setIfInBounds_toArray, List.set_cons_zero, List.set_cons_succ]
          refine cl15 (by kernel_rfl) rfl (fun K hK => ?_)
          go_simp
          go_at_call 40
          refine Calls.mono HDR.out ?_
          rintro e w3 ⟨u3, rfl, o3, b3⟩
          obtain ⟨a3, c3, hu3⟩ := (RowAt.own intC_len (l := dropL y.k.h s) (by rw [rowL_int]; exact o3)).form
          subst hu3
          have B3 : Hid (Below w1.heap.size w1 w3) := undrew b3
          have O3 : Hid (w3.ownsRow w1.heap.size 3 1 (.slice a3 (dropL y.k.h s).length c3) (dropL y.k.h s).length (intL (dropL y.k.h s))) := o3
          have c3' := (HC.out w3 B3.out).1
          have f3 := (HC.out w3 B3.out).2
          clear b3 o3
          refine hK.out _ _ ?_ (fun hHeld => ?_)
          · exact HS8.out _ B3.out
          clear hK K
          try simp only [Act.put, List.setIfInBounds_toArray, List.set_cons_zero, List.set_cons_succ]
          refine tk16 (.pointer (some ⟨g, i * 4, none⟩)) (by kernel_rfl) (by kernel_rfl) (by kernel_rfl) (fun _ _ _ h => h) rfl (fun w hSw => by (try dsimp only at hSw); have s5 := hSw.1; have s6 := hSw.2; go_simp) (by assumption) ?_
          try simp only [Act.put, List.setIfInBounds_toArray, List.set_cons_zero, List.set_cons_succ]
          refine tk17 (.pointer (some ⟨g, i * 4 + 1, none⟩)) (by kernel_rfl) (by kernel_rfl) (by kernel_rfl) (fun _ _ _ h => h) rfl (fun w hSw => by (try dsimp only at hSw); have s5 := hSw.1; have s6 := hSw.2; go_simp) (by assumption) ?_
          try simp only [Act.put, List.setIfInBounds_toArray, List.set_cons_zero, List.set_cons_succ]
          refine cl18 (by kernel_rfl) rfl (fun K hK => ?_)
          go_simp
          refine hK.out _ _ ?_ (fun hHeld => ?_)
          · have h9 := HS8.out _ B3.out
            exact ⟨(World.cell?_of_block (heap_setCell_other _ _ _ _ (fun e => HXE.out.1 (by exact e.symm)))).trans h9.1, (World.cell?_of_block (heap_setCell_other _ _ _ _ (fun e => HXE.out.2 (by exact e.symm)))).trans h9.2⟩
          clear hK K
          refine wpAnyH_done (by kernel_rfl) ?_ _
          have k4 := ((KK.out.below B3.out).grow (P' := (fun b => P b ∨ w1.heap.size ≤ b ∧ b < w3.heap.size)) (fun b hb => Or.inl hb) (fun b hb => by
            have hd := lt_of_block M1.out.blk
            have hg := HT.out.2.2.2.gs.2.2.1
            rcases hb with hb | hb
            · exact ⟨Nat.lt_of_lt_of_le (KK.out.pb b hb).1 B3.out.size, (KK.out.pb b hb).2⟩
            · exact ⟨hb.2, by omega, by omega⟩)).setH (h' := dropL y.k.h s) (a3 := a3) (c3 := c3) ⟨RowAt.own intC_len (by rw [rowL_int]; exact O3.out), fun bk off n cap h0 e => by
            simp only [Value.slice.injEq] at e
            obtain ⟨e1, _, _⟩ := e
            have hlt := O3.out.lt bk (by rw [e1]; rfl)
            have hd := lt_of_block M1.out.blk
            exact ⟨Or.inr hlt, by omega⟩⟩
          obtain ⟨w4, hw4⟩ : ∃ w4, w4 = w3.setCell ⟨g, i * 4 + 1, none⟩ (.slice a3 (dropL y.k.h s).length c3) := ⟨_, rfl⟩
          rw [← hw4]
          rw [← hw4] at k4
          have HZ4 : Hid (w4.heap.size = w3.heap.size ∧ w1.heap.size ≤ w3.heap.size ∧ w.heap.size + 2 ≤ w1.heap.size) := (show Hid _ from (⟨by rw [hw4]; simp, B3.out.size, by have := HB.out.2.2; have := B1.out.size; omega⟩ : _ ∧ _ ∧ _))
          have K4 : Hid _ := k4
          have R4 : Hid (RpAt w4 (w.heap.size + 1) ⟨s, n, 0, 0, 0⟩) := (show w4.heap[w.heap.size + 1]? = _ from by rw [hw4]; exact (heap_setCell_other _ _ _ _ (fun e => by have e : w.heap.size + 1 = g := e; have := HSL.out g HT.out.2.2.2.gs.1; omega)).trans ((B3.out.block _ (by have := HB.out.2.2; have := B1.out.size; omega)).trans R1.out))
          have l4 : w4.cell? ⟨D, 0, none⟩ = some (.slice (some ⟨g, 0, none⟩) L.length cp) := by rw [hw4]; exact (World.cell?_of_block (heap_setCell_other _ _ _ _ (fun e => HXE.out.1 (by exact e.symm)))).trans (HS8.out _ B3.out).1
          clear hw4 k4 c1 c3' f3 l0 HC HDR
          have y0 := R4.out.cell 0 _ rfl
          have y1 := R4.out.cell 1 _ rfl
          have y2 := R4.out.cell 2 _ rfl
          have y3 := R4.out.cell 3 _ rfl
          have y4 := R4.out.cell 4 _ rfl
          go_upto_region 10 with fail
          obtain ⟨w5, hw5⟩ : ∃ w5, w5 = w4.alloc (.cells (rpA ⟨s, n, 0, 0, 0⟩) rpT) := ⟨_, rfl⟩
          have b5 : Below w4.heap.size w4 w5 := by rw [hw5]; exact (Below.refl _ w4).alloc (Nat.le_refl _) _
          have O5 : Hid (w5.ownsRow w4.heap.size rpT 5 (.slice (some ⟨w4.heap.size, 0, none⟩) 1 1) 1 (rowL rpC [⟨s, n, 0, 0, 0⟩])) := by rw [hw5]; exact own_one (Nat.le_refl _)
          have hs5 : w5.heap.size = w4.heap.size + 1 := by rw [hw5]; simp
          rw [show w4.alloc (.cells #[.int .i64 s, .int .i64 n, .int .i64 0, .int .u64 0, .int .i64 0] rpT) = w5 from hw5.symm]
          have K5 : Hid _ := K4.out.below b5
          have HZ5 : Hid (w5.heap.size = w4.heap.size + 1) := hs5
          have l5 : w5.cell? ⟨D, 0, none⟩ = some (.slice (some ⟨g, 0, none⟩) L.length cp) := (b5.cell (p := ⟨D, 0, none⟩) (by exact lt_of_block K4.out.d)).trans l4
          clear hw5 b5 hs5 l4 y0 y1 y2 y3 y4
          have HSV : Hid (Calls Try.prog 41 #[.pointer (some ⟨D, 0, none⟩), .pointer (some ⟨g, i * 4, none⟩)] w5 (SrvP w5 D g (i * 4) (.slice (some ⟨g, 0, none⟩) L.length cp) _ (fun b => P b ∨ w1.heap.size ≤ b ∧ b < w3.heap.size) (srvH y.k.q c (dropL y.k.h s) y.k.wr))) := loserve_any (m := y.k.h.length + y.k.q.length) K5.out.restart (fun a ha => HY.out.2.hi a (List.mem_filter.1 ha).1) (fun a ha => (HY.out.2.qi a ha).1) (by have := dropL_le y.k.h s; omega) (by have := HY.out.2.hl; have := HY.out.2.ql; have := HK.out.1; omega) HO.out.2.1 HO.out.2.2
          obtain ⟨sv, hsv⟩ : ∃ sv, sv = (srvH y.k.q c (dropL y.k.h s) y.k.wr) := ⟨_, rfl⟩
          have HSE : Hid (sv = (srvH y.k.q c (dropL y.k.h s) y.k.wr)) := hsv
          rw [← hsv] at HSV
          clear hsv
          obtain ⟨i0, hi0, hz0, hz1, hz2⟩ := info_parts infoRp
          have HRL : Hid (sv.2.2.2.2.length ≤ 32768) := (show sv.2.2.2.2.length ≤ 32768 from by rw [HSE.out]; have := srvH_len y.k.q c (dropL y.k.h s) y.k.wr; have := HY.out.2.ql; have := HK.out.1; omega)
          go_upto_region 11 with (first
            | (at_builtin; refine wpList_app_row (k := 5) (enc := rpC) (l := sv.2.2.2.2) rfl (.tmp 78) (.tmp 86) 36 rpT rfl i0 _ 40 Try.underlying36 hi0 hz0 hz1 hz2 rfl (by decide) rpC_len rpC_one (base := w4.heap.size) rfl rfl O6.out R6.out (by have := HZ5.out; have := K6.out.k.size; omega) (by have := HRL.out; omega) (by have := HRL.out; omega) ?_; intro u7 w7 o7 a7; have o7' : w7.ownsRow w4.heap.size rpT 5 u7 ((⟨s, n, 0, 0, 0⟩ : SeR) :: sv.2.2.2.2).length (rowL rpC ((⟨s, n, 0, 0, 0⟩ : SeR) :: sv.2.2.2.2)) := (by have e : (1 + sv.2.2.2.2.length) = ((⟨s, n, 0, 0, 0⟩ : SeR) :: sv.2.2.2.2).length := (by rw [List.length_cons]; omega); rw [← e]; exact o7); obtain ⟨p7, n7, q7, rfl⟩ := own_form o7'; have O7 : Hid (w7.ownsRow w4.heap.size rpT 5 (.slice p7 n7 q7) ((⟨s, n, 0, 0, 0⟩ : SeR) :: sv.2.2.2.2).length (rowL rpC ((⟨s, n, 0, 0, 0⟩ : SeR) :: sv.2.2.2.2))) := o7'; have A7 : Hid (Appended w4.heap.size w6 w7 (.slice (some ⟨w4.heap.size, 0, none⟩) 1 1) (.slice p7 n7 q7)) := a7; clear o7 o7' a7)
            | (go_at_call 41; refine Calls.mono HSV.out ?_; rintro e w6 ⟨⟨u6, a6, c6, a7, c7, rfl, o6, k6⟩⟩; have K6 : Hid _ := k6; have R6 : Hid (RowAt rpC w6 u6 sv.2.2.2.2) := RowAt.own rpC_len o6; have U6 : Hid (∀ b, u6.ownBlock = some b → w5.heap.size ≤ b) := (fun b e => (o6.lt b e).1); have O6 : Hid (w6.ownsRow w4.heap.size rpT 5 (.slice (some ⟨w4.heap.size, 0, none⟩) 1 1) 1 (rowL rpC [⟨s, n, 0, 0, 0⟩])) := (own_keep O5.out (fun gg e => K6.out.k.kept gg (O5.out.lt gg e).2 (fun e2 => (by have h1 := (O5.out.lt gg e).1; have h2 := HT.out.2.2.2.gs.2.2.1; have h3 := lt_of_block M1.out.blk; have h4 := HZ4.out; rcases e2 with e2 | e2 <;> omega)))); clear k6 o6))
          clear l5
          have hz4 := HZ4.out
          have hz5 := HZ5.out
          have hs6 := K6.out.k.size
          have hs7 := A7.out.below.size
          have hD1 := lt_of_block M1.out.blk
          have hg1 := HT.out.2.2.2.gs.2.2.1
          have k16 := K5.out.trans K6.out
          have k17 := k16.app (u := .slice (some ⟨w4.heap.size, 0, none⟩) 1 1) (u' := .slice p7 n7 q7) ⟨A7.out.below.mono (by omega), A7.out.rest, A7.out.lies⟩ (fun b e => by
            have e : some w4.heap.size = some b := e
            have e := Option.some.inj e
            refine ⟨fun hp => ?_, by omega, by omega, by omega⟩
            rcases hp.1 with (hp | hp) | hp
            · have := (KK.out.pb b hp).1
              omega
            · omega
            · omega)
          have k18 := k17.grow (P' := fun b => P b ∨ (w1.heap.size ≤ b ∧ b < w7.heap.size) ∧ (Value.slice p7 n7 q7).ownBlock ≠ some b) (fun b hp => by
            have hlow : ∀ b, b < w4.heap.size → (Value.slice p7 n7 q7).ownBlock ≠ some b := fun b hb e => by have := (O7.out.lt b e).1; omega
            rcases hp.1 with (hp1 | hp1) | hp1
            · exact Or.inl hp1
            · exact Or.inr ⟨⟨hp1.1, by omega⟩, hlow b (by omega)⟩
            · refine Or.inr ⟨⟨by omega, by omega⟩, fun e => ?_⟩
              rcases A7.out.lies with e2 | e2
              · rw [e2] at e
                have e : some w4.heap.size = some b := e
                have := Option.some.inj e
                omega
              · rw [e2] at e
                have := Option.some.inj e
                omega) (fun b hp => by
            rcases hp with hp | hp
            · exact ⟨by have := (KK.out.pb b hp).1; omega, (KK.out.pb b hp).2⟩
            · exact ⟨hp.1.2, by omega, by omega⟩)
          have t7 := M1.out.turn HY.out.1 HT.out.2.2.2 HT.out.1 HT.out.2.1 HT.out.2.2.1 k18 (fun b hb => Or.inl hb) (fun b hb => by
            rcases hb with hb | hb
            · exact Or.inl hb
            · exact Or.inr hb.1)
          have HTD : Hid _ := lotidy_any t7.1 (by rw [List.length_set]; exact HLN.out)
          have T7 : Hid _ := t7
          have HNP : Hid (∀ b, (Value.slice p7 n7 q7).ownBlock = some b → ¬ (S b ∨ (P b ∨ (w1.heap.size ≤ b ∧ b < w7.heap.size) ∧ (Value.slice p7 n7 q7).ownBlock ≠ some b)) ∧ b < w7.heap.size) := fun b e => ⟨fun hb => by
            have h1 := (O7.out.lt b e).1
            rcases hb with hb | hb | hb
            · have := HSL.out b hb
              omega
            · have := (KK.out.pb b hb).1
              omega
            · exact hb.2 e, (O7.out.lt b e).2⟩
          clear hz4 hz5 hs6 hs7 hD1 hg1 k16 k17 k18 t7
          go_wp2_with (go_at_call 42; refine Calls.mono HTD.out ?_; rintro e w8 ⟨⟨S8, v8, rfl, m8, k8⟩⟩; have M8 : Hid _ := m8; have K8 : Hid _ := k8; clear m8 k8)
          go_ret
          rw [HQ.out]
          unfold relS
          rw [← HSE.out]
          refine ⟨_, S8, rfl, (RowAt.own rpC_len O7.out).keep K8.out.size (fun bk off n9 cap h0 e => ?_), ⟨_, _, _, M8.out, by rw [tidyV_map, map_set_k]; rfl⟩, (Kept.of BW1.out).trans (T7.out.2.trans K8.out)⟩
          obtain ⟨n1, n2⟩ := HNP.out bk (by rw [e]; rfl)
          exact K8.out.kept bk n2 n1
        | true =>
          have HQ : Hid (q = (c, L.map (·.k), [⟨s, n, 13, 0, 0⟩])) := (show q = _ from by rw [HQS.out, if_pos (Or.inr (by rw [hwr]; decide))])
          have HWR : Hid (y.k.wr = true) := hwr
          clear hhas hwr
          go_enter Try.func13, Try.ntmps13
          go_upto_region 4 with fail
          rw [HW.out]
          go_upto_region 5 with (go_at_call 33; refine Calls.mono HFD.out ?_; rintro e w1 ⟨rfl, hw1⟩; rw [hw1]; clear hw1)
          clear y0 y1 y3
          refine wp_region_held_drew (S := (fun z : World => (∀ (j : Nat) (u : Value), (lvC y)[j]? = some u → z.cell? ⟨g, i * 4 + j, none⟩ = some u) ∧ z.cell? ⟨D, 0, none⟩ = some (.slice (some ⟨g, 0, none⟩) L.length cp) ∧ z.cell? ⟨w.heap.size, 1, none⟩ = some (.int .i64 s) ∧ z.cell? ⟨w.heap.size, 0, none⟩ = some (.int .i64 8))) (by kernel_rfl) ?_ (fun hHeld0 => ?_)
          · exact HS.out _ (Below.refl _ W).drew
          refine tk0 (.int .i64 (i : Int)) (by kernel_rfl) (by kernel_rfl) (by kernel_rfl) (fun _ _ _ h => h) rfl (fun w hSw => by (try dsimp only at hSw); have s1 := hSw.1 1 _ rfl; have s2 := hSw.1 2 _ rfl; rw [HWR.out] at s2; have s5 := hSw.2.1; have s6 := hSw.2.2.1; have s7 := hSw.2.2.2; go_simp) (by assumption) ?_
          try simp only [Act.put, List.setIfInBounds_toArray, List.set_cons_zero, List.set_cons_succ]
          refine tk1 (.bool false) (by kernel_rfl) (by kernel_rfl) (by kernel_rfl) (fun _ _ _ h => h) rfl (fun w hSw => by (try dsimp only at hSw); have s1 := hSw.1 1 _ rfl; have s2 := hSw.1 2 _ rfl; rw [HWR.out] at s2; have s5 := hSw.2.1; have s6 := hSw.2.2.1; have s7 := hSw.2.2.2; go_simp) (by assumption) ?_
          try simp only [Act.put, List.setIfInBounds_toArray, List.set_cons_zero, List.set_cons_succ]
          refine tk2 (.bool false) (by kernel_rfl) (by kernel_rfl) (by kernel_rfl) (fun _ _ _ h => h) rfl (fun w hSw => by (try dsimp only at hSw); have s1 := hSw.1 1 _ rfl; have s2 := hSw.1 2 _ rfl; rw [HWR.out] at s2; have s5 := hSw.2.1; have s6 := hSw.2.2.1; have s7 := hSw.2.2.2; go_simp) (by assumption) ?_
          try simp only [Act.put, List.setIfInBounds_toArray, List.set_cons_zero, List.set_cons_succ]
          refine tk3 (.pointer (some ⟨D, 0, none⟩)) (by kernel_rfl) (by kernel_rfl) (by kernel_rfl) (fun _ _ _ h => h) rfl (fun w hSw => by (try dsimp only at hSw); have s1 := hSw.1 1 _ rfl; have s2 := hSw.1 2 _ rfl; rw [HWR.out] at s2; have s5 := hSw.2.1; have s6 := hSw.2.2.1; have s7 := hSw.2.2.2; go_simp) (by assumption) ?_
          try simp only [Act.put, List.setIfInBounds_toArray, List.set_cons_zero, List.set_cons_succ]
          refine tk4 (.pointer (some ⟨D, 0, none⟩)) (by kernel_rfl) (by kernel_rfl) (by kernel_rfl) (fun _ _ _ h => h) rfl (fun w hSw => by (try dsimp only at hSw); have s1 := hSw.1 1 _ rfl; have s2 := hSw.1 2 _ rfl; rw [HWR.out] at s2; have s5 := hSw.2.1; have s6 := hSw.2.2.1; have s7 := hSw.2.2.2; go_simp) (by assumption) ?_
          try simp only [Act.put, List.setIfInBounds_toArray, List.set_cons_zero, List.set_cons_succ]
          refine tk5 (.pointer (some ⟨D, 0, none⟩)) (by kernel_rfl) (by kernel_rfl) (by kernel_rfl) (fun _ _ _ h => h) rfl (fun w hSw => by (try dsimp only at hSw); have s1 := hSw.1 1 _ rfl; have s2 := hSw.1 2 _ rfl; rw [HWR.out] at s2; have s5 := hSw.2.1; have s6 := hSw.2.2.1; have s7 := hSw.2.2.2; go_simp) (by assumption) ?_
          try simp only [Act.put, List.setIfInBounds_toArray, List.set_cons_zero, List.set_cons_succ]
          refine tk6 (.slice (some ⟨g, 0, none⟩) L.length cp) (by kernel_rfl) (by kernel_rfl) (by kernel_rfl) (fun _ _ _ h => h) rfl (fun w hSw => by (try dsimp only at hSw); have s1 := hSw.1 1 _ rfl; have s2 := hSw.1 2 _ rfl; rw [HWR.out] at s2; have s5 := hSw.2.1; have s6 := hSw.2.2.1; have s7 := hSw.2.2.2; go_simp) (by assumption) ?_
          try simp only [Act.put, List.setIfInBounds_toArray, List.set_cons_zero, List.set_cons_succ]
          refine tk7 (.int .i64 (i : Int)) (by kernel_rfl) (by kernel_rfl) (by kernel_rfl) (fun _ _ _ h => h) rfl (fun w hSw => by (try dsimp only at hSw); have s1 := hSw.1 1 _ rfl; have s2 := hSw.1 2 _ rfl; rw [HWR.out] at s2; have s5 := hSw.2.1; have s6 := hSw.2.2.1; have s7 := hSw.2.2.2; go_simp) (by assumption) ?_
          try simp only [Act.put, List.setIfInBounds_toArray, List.set_cons_zero, List.set_cons_succ]
          refine tk8 (.pointer (some ⟨g, i * 4, none⟩)) (by kernel_rfl) (by kernel_rfl) (by kernel_rfl) (fun _ _ _ h => h) rfl (fun w hSw => by (try dsimp only at hSw); have s1 := hSw.1 1 _ rfl; have s2 := hSw.1 2 _ rfl; rw [HWR.out] at s2; have s5 := hSw.2.1; have s6 := hSw.2.2.1; have s7 := hSw.2.2.2; go_simp) (by assumption) ?_
          try simp only [Act.put, List.setIfInBounds_toArray, List.set_cons_zero, List.set_cons_succ]
          refine tk9 (.pointer (some ⟨g, i * 4 + 1, none⟩)) (by kernel_rfl) (by kernel_rfl) (by kernel_rfl) (fun _ _ _ h => h) rfl (fun w hSw => by (try dsimp only at hSw); have s1 := hSw.1 1 _ rfl; have s2 := hSw.1 2 _ rfl; rw [HWR.out] at s2; have s5 := hSw.2.1; have s6 := hSw.2.2.1; have s7 := hSw.2.2.2; go_simp) (by assumption) ?_
          try simp only [Act.put, List.setIfInBounds_toArray, List.set_cons_zero, List.set_cons_succ]
          refine tk10 (.slice y.ha y.k.h.length y.hc) (by kernel_rfl) (by kernel_rfl) (by kernel_rfl) (fun _ _ _ h => h) rfl (fun w hSw => by (try dsimp only at hSw); have s1 := hSw.1 1 _ rfl; have s2 := hSw.1 2 _ rfl; rw [HWR.out] at s2; have s5 := hSw.2.1; have s6 := hSw.2.2.1; have s7 := hSw.2.2.2; go_simp) (by assumption) ?_
          try simp only [Act.put, List.setIfInBounds_toArray, List.set_cons_zero, List.set_cons_succ]
          refine tk11 (.pointer (some ⟨w.heap.size, 1, none⟩)) (by kernel_rfl) (by kernel_rfl) (by kernel_rfl) (fun _ _ _ h => h) rfl (fun w hSw => by (try dsimp only at hSw); have s1 := hSw.1 1 _ rfl; have s2 := hSw.1 2 _ rfl; rw [HWR.out] at s2; have s5 := hSw.2.1; have s6 := hSw.2.2.1; have s7 := hSw.2.2.2; go_simp) (by assumption) ?_
          try simp only [Act.put, List.setIfInBounds_toArray, List.set_cons_zero, List.set_cons_succ]
          refine tk12 (.int .i64 s) (by kernel_rfl) (by kernel_rfl) (by kernel_rfl) (fun _ _ _ h => h) rfl (fun w hSw => by (try dsimp only at hSw); have s1 := hSw.1 1 _ rfl; have s2 := hSw.1 2 _ rfl; rw [HWR.out] at s2; have s5 := hSw.2.1; have s6 := hSw.2.2.1; have s7 := hSw.2.2.2; go_simp) (by assumption) ?_
          try simp only [Act.put, List.setIfInBounds_toArray, List.set_cons_zero, List.set_cons_succ]
          refine cl13 (by kernel_rfl) rfl (fun K hK => ?_)
          go_simp
          go_at_call 39
          refine Calls.mono HHS.out ?_
          rintro e w1 ⟨rfl, hw1⟩
          rw [hw1]
          clear hw1
          refine hK.out _ _ ?_ (fun hHeld => ?_)
          · exact HS.out _ (Below.refl _ W).drew
          clear hK K
          try simp only [Act.put, List.setIfInBounds_toArray, List.set_cons_zero, List.set_cons_succ]
          refine tk14 (.bool false) (by kernel_rfl) (by kernel_rfl) (by kernel_rfl) (fun _ _ _ h => h) rfl (fun w hSw => by (try dsimp only at hSw); have s1 := hSw.1 1 _ rfl; have s2 := hSw.1 2 _ rfl; rw [HWR.out] at s2; have s5 := hSw.2.1; have s6 := hSw.2.2.1; have s7 := hSw.2.2.2; go_simp) (by assumption) ?_
          try simp only [Act.put, List.setIfInBounds_toArray, List.set_cons_zero, List.set_cons_succ]
          refine tk15 (.bool false) (by kernel_rfl) (by kernel_rfl) (by kernel_rfl) (fun _ _ _ h => h) rfl (fun w hSw => by (try dsimp only at hSw); have s1 := hSw.1 1 _ rfl; have s2 := hSw.1 2 _ rfl; rw [HWR.out] at s2; have s5 := hSw.2.1; have s6 := hSw.2.2.1; have s7 := hSw.2.2.2; go_simp) (by assumption) ?_
          try simp only [Act.put, List.setIfInBounds_toArray, List.set_cons_zero, List.set_cons_succ]
          refine tk16 (.bool false) (by kernel_rfl) (by kernel_rfl) (by kernel_rfl) (fun _ _ _ h => h) rfl (fun w hSw => by (try dsimp only at hSw); have s1 := hSw.1 1 _ rfl; have s2 := hSw.1 2 _ rfl; rw [HWR.out] at s2; have s5 := hSw.2.1; have s6 := hSw.2.2.1; have s7 := hSw.2.2.2; go_simp) (by assumption) ?_
          try simp only [Act.put, List.setIfInBounds_toArray, List.set_cons_zero, List.set_cons_succ]
          refine tk17 (.pointer (some ⟨D, 0, none⟩)) (by kernel_rfl) (by kernel_rfl) (by kernel_rfl) (fun _ _ _ h => h) rfl (fun w hSw => by (try dsimp only at hSw); have s1 := hSw.1 1 _ rfl; have s2 := hSw.1 2 _ rfl; rw [HWR.out] at s2; have s5 := hSw.2.1; have s6 := hSw.2.2.1; have s7 := hSw.2.2.2; go_simp) (by assumption) ?_
          try simp only [Act.put, List.setIfInBounds_toArray, List.set_cons_zero, List.set_cons_succ]
          refine tk18 (.pointer (some ⟨D, 0, none⟩)) (by kernel_rfl) (by kernel_rfl) (by kernel_rfl) (fun _ _ _ h => h) rfl (fun w hSw => by (try dsimp only at hSw); have s1 := hSw.1 1 _ rfl; have s2 := hSw.1 2 _ rfl; rw [HWR.out] at s2; have s5 := hSw.2.1; have s6 := hSw.2.2.1; have s7 := hSw.2.2.2; go_simp) (by assumption) ?_
          try simp only [Act.put, List.setIfInBounds_toArray, List.set_cons_zero, List.set_cons_succ]
          refine tk19 (.pointer (some ⟨D, 0, none⟩)) (by kernel_rfl) (by kernel_rfl) (by kernel_rfl) (fun _ _ _ h => h) rfl (fun w hSw => by (try dsimp only at hSw); have s1 := hSw.1 1 _ rfl; have s2 := hSw.1 2 _ rfl; rw [HWR.out] at s2; have s5 := hSw.2.1; have s6 := hSw.2.2.1; have s7 := hSw.2.2.2; go_simp) (by assumption) ?_
          try simp only [Act.put, List.setIfInBounds_toArray, List.set_cons_zero, List.set_cons_succ]
          refine tk20 (.slice (some ⟨g, 0, none⟩) L.length cp) (by kernel_rfl) (by kernel_rfl) (by kernel_rfl) (fun _ _ _ h => h) rfl (fun w hSw => by (try dsimp only at hSw); have s1 := hSw.1 1 _ rfl; have s2 := hSw.1 2 _ rfl; rw [HWR.out] at s2; have s5 := hSw.2.1; have s6 := hSw.2.2.1; have s7 := hSw.2.2.2; go_simp) (by assumption) ?_
          try simp only [Act.put, List.setIfInBounds_toArray, List.set_cons_zero, List.set_cons_succ]
          refine tk21 (.int .i64 (i : Int)) (by kernel_rfl) (by kernel_rfl) (by kernel_rfl) (fun _ _ _ h => h) rfl (fun w hSw => by (try dsimp only at hSw); have s1 := hSw.1 1 _ rfl; have s2 := hSw.1 2 _ rfl; rw [HWR.out] at s2; have s5 := hSw.2.1; have s6 := hSw.2.2.1; have s7 := hSw.2.2.2; go_simp) (by assumption) ?_
          try simp only [Act.put, List.setIfInBounds_toArray, List.set_cons_zero, List.set_cons_succ]
          refine tk22 (.pointer (some ⟨g, i * 4, none⟩)) (by kernel_rfl) (by kernel_rfl) (by kernel_rfl) (fun _ _ _ h => h) rfl (fun w hSw => by (try dsimp only at hSw); have s1 := hSw.1 1 _ rfl; have s2 := hSw.1 2 _ rfl; rw [HWR.out] at s2; have s5 := hSw.2.1; have s6 := hSw.2.2.1; have s7 := hSw.2.2.2; go_simp) (by assumption) ?_
          try simp only [Act.put, List.setIfInBounds_toArray, List.set_cons_zero, List.set_cons_succ]
          refine tk23 (.pointer (some ⟨g, i * 4 + 2, none⟩)) (by kernel_rfl) (by kernel_rfl) (by kernel_rfl) (fun _ _ _ h => h) rfl (fun w hSw => by (try dsimp only at hSw); have s1 := hSw.1 1 _ rfl; have s2 := hSw.1 2 _ rfl; rw [HWR.out] at s2; have s5 := hSw.2.1; have s6 := hSw.2.2.1; have s7 := hSw.2.2.2; go_simp) (by assumption) ?_
          try simp only [Act.put, List.setIfInBounds_toArray, List.set_cons_zero, List.set_cons_succ]
          refine tk24 (.bool true) (by kernel_rfl) (by kernel_rfl) (by kernel_rfl) (fun _ _ _ h => h) rfl (fun w hSw => by (try dsimp only at hSw); have s1 := hSw.1 1 _ rfl; have s2 := hSw.1 2 _ rfl; rw [HWR.out] at s2; have s5 := hSw.2.1; have s6 := hSw.2.2.1; have s7 := hSw.2.2.2; go_simp) (by assumption) ?_
          try simp only [Act.put, List.setIfInBounds_toArray, List.set_cons_zero, List.set_cons_succ]
          refine tk25 (.pointer (some ⟨w.heap.size, 0, none⟩)) (by kernel_rfl) (by kernel_rfl) (by kernel_rfl) (fun _ _ _ h => h) rfl (fun w hSw => by (try dsimp only at hSw); have s1 := hSw.1 1 _ rfl; have s2 := hSw.1 2 _ rfl; rw [HWR.out] at s2; have s5 := hSw.2.1; have s6 := hSw.2.2.1; have s7 := hSw.2.2.2; go_simp) (by assumption) ?_
          try simp only [Act.put, List.setIfInBounds_toArray, List.set_cons_zero, List.set_cons_succ]
          refine tk26 (.int .i64 8) (by kernel_rfl) (by kernel_rfl) (by kernel_rfl) (fun _ _ _ h => h) rfl (fun w hSw => by (try dsimp only at hSw); have s1 := hSw.1 1 _ rfl; have s2 := hSw.1 2 _ rfl; rw [HWR.out] at s2; have s5 := hSw.2.1; have s6 := hSw.2.2.1; have s7 := hSw.2.2.2; go_simp) (by assumption) ?_
          try simp only [Act.put, List.setIfInBounds_toArray, List.set_cons_zero, List.set_cons_succ]
          refine tk27 (.bool false) (by kernel_rfl) (by kernel_rfl) (by kernel_rfl) (fun _ _ _ h => h) rfl (fun w hSw => by (try dsimp only at hSw); have s1 := hSw.1 1 _ rfl; have s2 := hSw.1 2 _ rfl; rw [HWR.out] at s2; have s5 := hSw.2.1; have s6 := hSw.2.2.1; have s7 := hSw.2.2.2; go_simp) (by assumption) ?_
          try simp only [Act.put, List.setIfInBounds_toArray, List.set_cons_zero, List.set_cons_succ]
          refine tk28 (.bool true) (by kernel_rfl) (by kernel_rfl) (by kernel_rfl) (fun _ _ _ h => h) rfl (fun w hSw => by (try dsimp only at hSw); have s1 := hSw.1 1 _ rfl; have s2 := hSw.1 2 _ rfl; rw [HWR.out] at s2; have s5 := hSw.2.1; have s6 := hSw.2.2.1; have s7 := hSw.2.2.2; go_simp) (by assumption) ?_
          try simp only [Act.put, List.setIfInBounds_toArray, List.set_cons_zero, List.set_cons_succ]
          refine tk29 (.bool true) (by kernel_rfl) (by kernel_rfl) (by kernel_rfl) (fun _ _ _ h => h) rfl (fun w hSw => by (try dsimp only at hSw); have s1 := hSw.1 1 _ rfl; have s2 := hSw.1 2 _ rfl; rw [HWR.out] at s2; have s5 := hSw.2.1; have s6 := hSw.2.2.1; have s7 := hSw.2.2.2; go_simp) (by assumption) ?_
          try simp only [Act.put, List.setIfInBounds_toArray, List.set_cons_zero, List.set_cons_succ]
          refine wpAnyH_done (by kernel_rfl) ?_ _
          obtain ⟨w1, hw1⟩ : ∃ w1, w1 = W.drew := ⟨_, rfl⟩
          rw [← hw1]
          have B1 : Hid (Below W.heap.size W w1) := by rw [hw1]; exact (Below.refl _ W).drew
          clear hw1
          have R1 : Hid (RpAt w1 (w.heap.size + 1) ⟨s, n, 0, 0, 0⟩) := (B1.out.block _ (by have := HB.out.2.2; omega)).trans HB.out.2.1
          have M1 : Hid (LoM w1 base D S P L (.slice (some ⟨g, 0, none⟩) L.length cp) c) := HM.out.fresh B1.out
          have BW1 : Hid (Below w.heap.size w w1) := bmm BW.out BW.out.size B1.out
          have x2 := R1.out.cell 2 _ rfl
          have f2 := R1.out.fz 2
          go_upto_region 7 with fail
          obtain ⟨w2, hw2⟩ : ∃ w2, w2 = w1.setCell ⟨w.heap.size + 1, 2, none⟩ (.int .i64 13) := ⟨_, rfl⟩
          rw [← hw2]
          have R2 : Hid (RpAt w2 (w.heap.size + 1) ⟨s, n, 13, 0, 0⟩) := by rw [hw2]; exact R1.out.set 2 _ rfl
          have B2 : Hid (Below w.heap.size w w2) := by rw [hw2]; exact BW1.out.setCell (by show w.heap.size ≤ w.heap.size + 1; omega) _
          have M2 : Hid (LoB w2 base D S c (L.map (·.k))) := by rw [hw2]; exact ⟨P, L, _, M1.out.keep (by simp) (fun b hb => heap_setCell_other _ _ _ _ (fun e => by have e : b = w.heap.size + 1 := e; have := HSL.out b hb; omega)), rfl⟩
          clear hw2 x2 f2
          have y0 := R2.out.cell 0 _ rfl
          have y1 := R2.out.cell 1 _ rfl
          have y2 := R2.out.cell 2 _ rfl
          have y3 := R2.out.cell 3 _ rfl
          have y4 := R2.out.cell 4 _ rfl
          go_wp2_with fail
          go_ret
          rw [HQ.out]
          exact ⟨.slice (some ⟨w2.heap.size, 0, none⟩) 1 1, S, rfl, (rp_one : RowAt rpC (w2.alloc (.cells (rpA ⟨s, n, 13, 0, 0⟩) rpT)) _ [(⟨s, n, 13, 0, 0⟩ : SeR)]), LoB.fresh M2.out ((Below.refl _ _).alloc (Nat.le_refl _) _), (Kept.of B2.out).trans (Kept.of ((Below.refl _ _).alloc (Nat.le_refl _) _))⟩
  have hq : relL c (L.map (·.k)) k s n nm = (c, L.map (·.k), []) := by unfold relL; rw [if_pos ⟨h5, h7⟩]
  rw [hq]
  obtain ⟨W, hW⟩ : ∃ W, W = w.alloc (.cells (cmA k s n nm m) cmT) := ⟨_, rfl⟩
  have bW : Below w.heap.size w W := by rw [hW]; exact (Below.refl _ w).alloc (Nat.le_refl _) _
  have rW : W.heap[w.heap.size]? = some (.cells (cmA k s n nm m) cmT (0, 0)) := by rw [hW]; exact heap_alloc_new w _
  have y0 : W.cell? ⟨w.heap.size, 0, none⟩ = some (.int .i64 k) := by simp [World.cell?, rW]
  have n5 : (k != 6) = true := by simpa using h5
  have n7 : (k != 8) = true := by simpa using h7
  have HW : Hid (w.alloc (.cells #[.int .i64 k, .int .i64 s, .int .i64 n, .string nm, .int .i64 m] cmT) = W) := hW.symm
  have HE : Hid (RelP w base D S (c, L.map (·.k), []) (.returned (.slice none 0 0)) W) := ⟨_, S, rfl, RowAt.nil _, ⟨P, L, v, h.fresh bW, rfl⟩, Kept.of bW⟩
  clear hq hW bW rW h h5 h7
  go_enter Try.func13, Try.ntmps13
  go_upto_region 1 with fail
  rw [HW.out]
  go_wp2
  go_ret
  exact HE.out
end Go.Proofs.Ytmfadmhbkgemmaa
/-
  The document's locks: a session gone. The conditions: lists are short, numbers are ints.
-/
namespace Go.Proofs.Ytmfadmhbkgemmaa
open Go.RowKit

theorem lessQ_take {q : List Wq} {j : Nat} (hj : j < q.length) (s : Int) : lessQ (q.take (j + 1)) s = if q[j].s = s then lessQ (q.take j) s else lessQ (q.take j) s ++ [q[j]] := by
  unfold lessQ
  rw [List.take_succ_eq_append_getElem hj, List.filter_append]
  by_cases h : q[j].s = s
  · simp [h]
  · simp [h]
theorem srvH_sum : ∀ (q : List Wq) (c : Int) (h : List Int) (b : Bool), (srvH q c h b).2.1.length + (srvH q c h b).2.2.2.1.length ≤ h.length + q.length
  | [], _, _, _ => Nat.le_refl _
  | x :: q, c, h, b => by
    unfold srvH
    split
    · have h1 := srvH_sum q (giveH c h b x).1 (giveH c h b x).2.1 (giveH c h b x).2.2.1
      have h2 := give_len (c := c) (h := h) (b := b) (x := x)
      simp only [List.length_cons]
      omega
    · exact Nat.le_refl _
theorem srvH_ok : ∀ (q : List Wq) (c : Int) (h : List Int) (b : Bool), 0 ≤ c → c ≤ 18446744073709551615 → 0 ≤ (srvH q c h b).1 ∧ (srvH q c h b).1 ≤ 18446744073709551615
  | [], _, _, _, h0, h1 => ⟨h0, h1⟩
  | x :: q, c, h, b, h0, h1 => by
    unfold srvH
    split
    · have h2 := give_ok (h := h) (b := b) (x := x) h0 h1
      exact srvH_ok q _ _ _ h2.1 h2.2
    · exact ⟨h0, h1⟩
/-- Where it stands: k locks are gone over. -/
structure GoI19 (w wr : World) (base D : Nat) (S : Nat → Prop) (l : List Lk) (s c : Int) (k : Nat) (u : Value) : Prop where
  ex : ∃ S' P' L1 v1, LoM wr base D S' P' L1 v1 (outL (l.take k) c s).1 ∧ L1.map (·.k) = (outL (l.take k) c s).2.1 ++ l.drop k ∧ Kept w wr S S' ∧ (∀ b, u.ownBlock = some b → ¬ S' b)
  out : wr.ownsRow w.heap.size rpT 5 u (outL (l.take k) c s).2.2.length (rowL rpC (outL (l.take k) c s).2.2)
  c0 : 0 ≤ (outL (l.take k) c s).1
  c1 : (outL (l.take k) c s).1 ≤ 18446744073709551615
  rl : (outL (l.take k) c s).2.2.length ≤ k * 32768
set_option maxHeartbeats 51200000 in
set_option maxRecDepth 100000 in
theorem logone_any {w : World} {base D : Nat} {S P : Nat → Prop} {L : List Lv} {v : Value} {c : Int} (h : LoM w base D S P L v c) (hl : L.length ≤ 65536) {N : Nat} (hN : N < 32768) (hok : ∀ x ∈ L, LkOk N x.k) (hc0 : 0 ≤ c) (hc1 : c ≤ 18446744073709551615) (s : Int) :
    Calls Try.prog 15 #[.pointer (some ⟨D, 0, none⟩), .int .i64 s] w (RelP w base D S (gonL c (L.map (·.k)) s)) := by
  obtain ⟨l, hll⟩ : ∃ l, l = L.map (·.k) := ⟨_, rfl⟩
  have hln : l.length ≤ 65536 := by rw [hll, List.length_map]; exact hl
  have HK : Hid (N < 32768 ∧ ∀ x ∈ l, LkOk N x) := (show Hid _ from (⟨hN, fun x hx => by rw [hll] at hx; obtain ⟨y, hy, rfl⟩ := List.mem_map.1 hx; exact hok y hy⟩ : _ ∧ _))
  have J0 : Hid (GoI19 w w base D S l s c 0 (.slice none 0 0)) := (show Hid _ from (⟨⟨S, P, L, v, h, hll.symm, Kept.refl _ _, fun b e => by cases e⟩, World.ownsRow_nil _ _ _ _, hc0, hc1, Nat.zero_le _⟩ : GoI19 w w base D S l s c 0 (.slice none 0 0)))
  rw [← hll]
  clear h hl hN hok hc0 hc1 hll
  obtain ⟨i0, hi0, hz0, hz1, hz2⟩ := info_parts infoRp
  obtain ⟨i1, hi1, hy0, hy1, hy2⟩ := info_parts infoWq
  go_enter Try.func15, Try.ntmps15
  go_wp2
  go_loopw [5, 6] (fun ou i wr => ∃ (k : Nat) (pa : Option Addr) (pn pc : Nat), k ≤ l.length ∧ ou = .slice pa pn pc ∧ i = .int .i64 (k : Int) ∧ Hid (GoI19 w wr base D S l s c k (.slice pa pn pc))) (fun _ i _ => l.length - (intOf i).toNat)
  case atStart => exact ⟨0, none, 0, 0, Nat.zero_le _, rfl, rfl, J0⟩
  case round =>
    clear J0
    obtain ⟨k, pa, pn, pc, hk, rfl, rfl, I⟩ := hrel
    obtain ⟨S1, P1, L1, v1, hM, hmap, hkp, hnu⟩ := I.out.ex
    have hlen1 : L1.length = l.length := by
      have e := congrArg List.length hmap
      rw [List.length_map, List.length_append, outL_len, List.length_take, List.length_drop] at e
      omega
    have HM : Hid (LoM wr base D S1 P1 L1 v1 (outL (l.take k) c s).1) := hM
    have HX : Hid (L1.map (·.k) = (outL (l.take k) c s).2.1 ++ l.drop k ∧ Kept w wr S S1 ∧ (∀ b, (Value.slice pa pn pc).ownBlock = some b → ¬ S1 b) ∧ L1.length = l.length) := (show Hid _ from (⟨hmap, hkp, hnu, hlen1⟩ : _ ∧ _ ∧ _ ∧ _))
    have HC : Hid (0 ≤ (outL (l.take k) c s).1 ∧ (outL (l.take k) c s).1 ≤ 18446744073709551615) := (show Hid _ from (⟨I.out.c0, I.out.c1⟩ : _ ∧ _))
    have l0 := hM.cell 0 _ rfl
    obtain ⟨va, vc, hvv⟩ := hM.form
    rw [hvv, hlen1] at l0
    have HVV : Hid (v1 = .slice va L1.length vc) := hvv
    clear hM hmap hkp hnu hlen1 hvv
    by_cases hkl : k < l.length
    · have t0 : decide ((k : Int) < (l.length : Int)) = true := decide_eq_true (by omega)
      have t0' : decide (k < l.length) = true := decide_eq_true hkl
      have j1 : (k : Int) < (l.length : Int) := by omega
      have j2 : (0 : Int) ≤ (k : Int) := by omega
      have hk1 : k < L1.length := by have := HX.out.2.2.2; omega
      obtain ⟨y, hy⟩ : ∃ y, L1[k]? = some y := ⟨_, List.getElem?_eq_getElem hk1⟩
      have hyk : y.k = l[k] := by
        have e : (L1.map (·.k))[k]? = some y.k := by rw [List.getElem?_map, hy]; rfl
        rw [HX.out.1, List.getElem?_append_right (by rw [outL_len, List.length_take]; omega), outL_len, List.length_take, Nat.min_eq_left hk, Nat.sub_self, List.getElem?_drop, Nat.add_zero, List.getElem?_eq_getElem hkl] at e
        exact (Option.some.inj e).symm
      obtain ⟨g, cp, J⟩ := HM.out.at hy
      have e9 := J.form
      rw [HVV.out] at e9
      simp only [Value.slice.injEq, true_and] at e9
      obtain ⟨rfl, rfl⟩ := e9
      obtain ⟨cur, hb, ht, hcl, K⟩ := HM.out.lks hy J
      have KK : Hid _ := K
      have HT : Hid (wr.heap[g]? = some (.cells cur.toArray lkT (0, 0)) ∧ cur.take (L1.length * 4) = rowL lvC L1 ∧ cur.length = vc * 4 ∧ LoI wr base D S1 P1 L1 v1 g vc k y) := (show Hid _ from (⟨hb, ht, hcl, J⟩ : _ ∧ _ ∧ _ ∧ _))
      have HY : Hid (L1[k]? = some y ∧ LkOk N y.k ∧ y.k = l[k]) := (show Hid _ from (⟨hy, by rw [hyk]; exact HK.out.2 _ (List.getElem_mem hkl), hyk⟩ : _ ∧ _ ∧ _))
      have HOL : Hid (outL (l.take (k + 1)) c s = ((outK y.k (outL (l.take k) c s).1 s).1, (outL (l.take k) c s).2.1 ++ [(outK y.k (outL (l.take k) c s).1 s).2.1], (outL (l.take k) c s).2.2 ++ (outK y.k (outL (l.take k) c s).1 s).2.2)) := (show outL (l.take (k + 1)) c s = _ from by rw [List.take_succ_eq_append_getElem hkl, outL_app, ← hyk])
      have HIN : Hid (Calls Try.prog 36 #[.agg (lvA y), .int .i64 s] wr fun e w' => e = .returned (.bool (inK y.k s)) ∧ Below wr.heap.size wr w') := loin_any (HM.out.hq y (List.mem_of_getElem? hy)) HY.out.2.1 (by have := HK.out.1; omega) s
      obtain ⟨z1, z2, z3⟩ := K.cell
      have z0 := J.cell 0 (.string y.k.name) rfl
      rw [Nat.add_zero] at z0
      clear hy hyk hb ht hcl K J hk1
      cases hin : inK y.k s with
      | false =>
        have HOK : Hid (outK y.k (outL (l.take k) c s).1 s = ((outL (l.take k) c s).1, y.k, [])) := (show outK y.k _ s = _ from by unfold outK; rw [hin, if_neg (by decide)])
        rw [hin] at HIN
        clear hin
        go_wp2_with (go_at_call 36; refine Calls.mono HIN.out ?_; rintro e w1 ⟨rfl, b1⟩; have B1 : Hid _ := b1; clear b1)
        refine ⟨⟨k + 1, pa, pn, pc, hkl, rfl, by simp, ⟨⟨S1, P1, L1, v1, ?_, ?_, HX.out.2.1.trans (Kept.of B1.out), HX.out.2.2.1⟩, ?_, ?_, ?_, ?_⟩⟩, by simp [intOf]; omega⟩
        · rw [HOL.out, HOK.out]; exact HM.out.fresh B1.out
        · rw [HOL.out, HOK.out, HX.out.1, List.drop_eq_getElem_cons hkl, ← HY.out.2.2, List.append_assoc, List.singleton_append]
        · rw [HOL.out, HOK.out, List.append_nil]; exact own_keep I.out.out (fun gg e => B1.out.block gg (I.out.out.lt gg e).2)
        · rw [HOL.out, HOK.out]; exact HC.out.1
        · rw [HOL.out, HOK.out]; exact HC.out.2
        · rw [HOL.out, HOK.out]; show ((outL (l.take k) c s).2.2 ++ []).length ≤ (k + 1) * 32768; rw [List.append_nil]; have := I.out.rl; omega
      | true =>
        rw [hin] at HIN
        have HIK : Hid (inK y.k s = true) := hin
        clear hin
        obtain ⟨cc, hcc⟩ : ∃ cc, cc = (outL (l.take k) c s).1 := ⟨_, rfl⟩
        have HCC : Hid (cc = (outL (l.take k) c s).1) := hcc
        rw [← hcc] at HC KK HM HOL
        clear hcc
        go_upto_region 7 with (go_at_call 36; refine Calls.mono HIN.out ?_; rintro e w1 ⟨rfl, b1⟩; have B1 : Hid (Below wr.heap.size wr w1) := b1; clear b1)
        have K1 : Hid _ := KK.out.below B1.out
        obtain ⟨x1, x2, x3⟩ := K1.out.cell
        have f1 := K1.out.fz (k * 4 + 1)
        have HDR : Hid (Calls Try.prog 40 #[.slice y.ha y.k.h.length y.hc, .int .i64 s] w1 fun e w' => ∃ u, e = .returned u ∧ w'.ownsRow w1.heap.size 3 1 u (dropL y.k.h s).length (intL (dropL y.k.h s)) ∧ Below w1.heap.size w1 w') := drop_any _ _ _ _ (K1.out.hr.at'.ints HY.out.2.1.hi (by have := HY.out.2.1.hl; have := HK.out.1; omega)) (by have := HY.out.2.1.hl; have := HK.out.1; omega)
        clear z0 z1 z2 z3 l0
        go_upto_region 8 with (go_at_call 40; refine Calls.mono HDR.out ?_; rintro e w3 ⟨u3, rfl, o3, b3⟩; obtain ⟨a3, c3, hu3⟩ := (RowAt.own intC_len (l := dropL y.k.h s) (by rw [rowL_int]; exact o3)).form; subst hu3; have B3 : Hid (Below w1.heap.size w1 w3) := b3; have O3 : Hid (w3.ownsRow w1.heap.size 3 1 (.slice a3 (dropL y.k.h s).length c3) (dropL y.k.h s).length (intL (dropL y.k.h s))) := o3; have f3 := (K1.out.below b3).fz (k * 4 + 1); have x1' := (K1.out.below b3).cell.1; clear b3 o3)
        have k4 := ((K1.out.below B3.out).grow (P' := (fun b => P1 b ∨ wr.heap.size ≤ b ∧ b < w3.heap.size)) (fun b hb => Or.inl hb) (fun b hb => by
          have hd := lt_of_block HM.out.blk
          have hg := HT.out.2.2.2.gs.2.2.1
          have h13 := Nat.le_trans B1.out.size B3.out.size
          rcases hb with hb | hb
          · exact ⟨Nat.lt_of_lt_of_le (KK.out.pb b hb).1 h13, (KK.out.pb b hb).2⟩
          · exact ⟨hb.2, by omega, by omega⟩)).setH (h' := dropL y.k.h s) (a3 := a3) (c3 := c3) ⟨RowAt.own intC_len (by rw [rowL_int]; exact O3.out), fun bk off n cap h0 e => by
          simp only [Value.slice.injEq] at e
          obtain ⟨e1, _, _⟩ := e
          have hlt := O3.out.lt bk (by rw [e1]; rfl)
          have hd := lt_of_block HM.out.blk
          have h1 := B1.out.size
          exact ⟨Or.inr ⟨by omega, hlt.2⟩, by omega⟩⟩
        obtain ⟨w4, hw4⟩ : ∃ w4, w4 = w3.setCell ⟨g, k * 4 + 1, none⟩ (.slice a3 (dropL y.k.h s).length c3) := ⟨_, rfl⟩
        rw [← hw4]
        rw [← hw4] at k4
        have HZ4 : Hid (w4.heap.size = w3.heap.size ∧ wr.heap.size ≤ w1.heap.size ∧ w1.heap.size ≤ w3.heap.size) := (show Hid _ from (⟨by rw [hw4]; simp, B1.out.size, B3.out.size⟩ : _ ∧ _ ∧ _))
        have K4 : Hid _ := k4
        clear hw4 k4 x1 x2 x3 f1 f3 x1' HDR HIN
        obtain ⟨yq, hyq⟩ : ∃ yq, yq = y.k.q := ⟨_, rfl⟩
        have HYQ : Hid (yq = y.k.q) := hyq
        rw [← hyq] at K4
        clear hyq
        have hq9 : yq.length ≤ 32768 := by rw [HYQ.out]; have := HY.out.2.1.ql; have := HK.out.1; omega
        go_upto_block 2 with fail
        go_cut [8, 9] (fun qv jv wc => ∃ (qa : Option Addr) (qc : Nat), qv = .slice qa (lessQ yq s).length qc ∧ Hid (wc.ownsRow w4.heap.size wqT 3 (.slice qa (lessQ yq s).length qc) (lessQ yq s).length (rowL wqC (lessQ yq s)) ∧ Below w4.heap.size w4 wc))
        case first =>
          go_wp2_with fail
          go_loopw [8, 9] (fun qv j wx => ∃ (jj : Nat) (qa : Option Addr) (qc : Nat), jj ≤ yq.length ∧ qv = .slice qa (lessQ (yq.take jj) s).length qc ∧ j = .int .i64 (jj : Int) ∧ Hid (wx.ownsRow w4.heap.size wqT 3 (.slice qa (lessQ (yq.take jj) s).length qc) (lessQ (yq.take jj) s).length (rowL wqC (lessQ (yq.take jj) s)) ∧ Below w4.heap.size w4 wx)) (fun _ j _ => yq.length - (intOf j).toNat)
          case atStart => exact ⟨0, none, 0, Nat.zero_le _, rfl, rfl, World.ownsRow_nil _ _ _ _, Below.refl _ _⟩
          case round =>
            obtain ⟨jj, qa, qc, hjj, rfl, rfl, IQ⟩ := hrel
            obtain ⟨_, _, x3⟩ := (K4.out.below IQ.out.2).cell
            by_cases hjl : jj < yq.length
            · have t2 : decide ((jj : Int) < (yq.length : Int)) = true := decide_eq_true (by omega)
              have t2' : decide (jj < yq.length) = true := decide_eq_true hjl
              obtain ⟨bk, off, cq, e3, _, _, hcq⟩ := (K4.out.below IQ.out.2).qr.at'.cells wqC_len (by omega)
              simp only [Value.slice.injEq] at e3
              obtain ⟨e3, _, e4⟩ := e3
              rw [e3, e4] at x3
              obtain ⟨x, hx⟩ : ∃ x, x = yq[jj] := ⟨_, rfl⟩
              have y0 := hcq jj hjl 0 (.int .i64 x.s) (by decide) (by rw [hx]; rfl)
              have y1 := hcq jj hjl 1 (.int .i64 x.n) (by decide) (by rw [hx]; rfl)
              have y2 := hcq jj hjl 2 (.bool x.rd) (by decide) (by rw [hx]; rfl)
              rw [Nat.add_zero] at y0
              have HE1 : Hid (lessQ (yq.take (jj + 1)) s = if x.s = s then lessQ (yq.take jj) s else lessQ (yq.take jj) s ++ [x]) := (show lessQ (yq.take (jj + 1)) s = _ from by rw [hx]; exact lessQ_take hjl s)
              have HQL : Hid ((lessQ (yq.take jj) s).length ≤ 32768) := (show (lessQ (yq.take jj) s).length ≤ 32768 from Nat.le_trans (List.length_filter_le _ _) (by rw [List.length_take]; omega))
              clear hcq hx e3 e4
              by_cases hxs : x.s = s
              · have t3 : (x.s != s) = false := by simpa using hxs
                have e1 : lessQ (yq.take (jj + 1)) s = lessQ (yq.take jj) s := by rw [HE1.out, if_pos hxs]
                have HE2 : Hid _ := e1
                clear hxs e1
                go_wp2
                exact ⟨⟨jj + 1, qa, qc, hjl, by rw [HE2.out], by simp, by rw [HE2.out]; exact IQ⟩, by simp [intOf]; omega⟩
              · have t3 : (x.s != s) = true := by simpa using hxs
                have e1 : lessQ (yq.take (jj + 1)) s = lessQ (yq.take jj) s ++ [x] := by rw [HE1.out, if_neg hxs]
                have HE2 : Hid _ := e1
                clear hxs e1
                go_wp2_with (at_builtin; refine wpList_app_row (k := 3) (enc := wqC) (l := [x]) rfl (.tmp 60) (.tmp 68) 61 wqT rfl i1 _ 24 Try.underlying61 hi1 hy0 hy1 hy2 rfl (by decide) wqC_len wqC_one (base := w4.heap.size) rfl rfl (World.ownsRow.alloc IQ.out.1 _) (RowAt.built (heap_alloc_new _ _) rfl 1 rfl rfl) (Nat.le_trans IQ.out.2.size (by simp)) (by have := HQL.out; simp only [List.length_singleton]; omega) (by have := HQL.out; simp only [List.length_singleton]; omega) ?_; intro u6 w6 o6 a6; have o6' : w6.ownsRow w4.heap.size wqT 3 u6 (lessQ (yq.take jj) s ++ [x]).length (rowL wqC (lessQ (yq.take jj) s ++ [x])) := (by rw [List.length_append, rowL_append]; exact o6); obtain ⟨p6, n6, f6⟩ := (RowAt.own wqC_len o6').form; subst f6; have O6 : Hid (w6.ownsRow w4.heap.size wqT 3 (.slice p6 (lessQ (yq.take jj) s ++ [x]).length n6) (lessQ (yq.take jj) s ++ [x]).length (rowL wqC (lessQ (yq.take jj) s ++ [x])) ∧ Below w4.heap.size w4 w6) := (show Hid _ from (⟨o6', (IQ.out.2.alloc IQ.out.2.size _).trans a6.below⟩ : _ ∧ _)); clear o6 o6' a6)
                exact ⟨⟨jj + 1, p6, n6, hjl, by rw [HE2.out, List.length_append]; rfl, by simp, by rw [HE2.out]; exact O6⟩, by simp [intOf]; omega⟩
            · obtain rfl : jj = yq.length := by omega
              have t2 : decide ((yq.length : Int) < (yq.length : Int)) = false := decide_eq_false (by omega)
              rw [List.take_length] at IQ
              go_wp2_with fail
              go_meet
              exact ⟨qa, qc, by rw [List.take_length], IQ⟩
        case rest =>
          obtain ⟨qa, qc, hqv, Q5⟩ := hcut
          subst hqv
          have HZ5 : Hid (w4.heap.size ≤ wc.heap.size) := Q5.out.2.size
          have k5 := ((K4.out.below Q5.out.2).grow (P' := (fun b => P1 b ∨ wr.heap.size ≤ b ∧ b < wc.heap.size)) (fun b hb => by
            have h4 := HZ4.out
            have h5 := HZ5.out
            rcases hb with hb | hb
            · exact Or.inl hb
            · exact Or.inr ⟨hb.1, by omega⟩) (fun b hb => by
            have hd := lt_of_block HM.out.blk
            have hg := HT.out.2.2.2.gs.2.2.1
            have h4 := HZ4.out
            have h5 := HZ5.out
            rcases hb with hb | hb
            · exact ⟨by have := (KK.out.pb b hb).1; omega, (KK.out.pb b hb).2⟩
            · exact ⟨hb.2, by omega, by omega⟩)).setQ (q' := lessQ yq s) (a3 := qa) (c3 := qc) ⟨RowAt.own wqC_len Q5.out.1, fun bk off n cap h0 e => by
            simp only [Value.slice.injEq] at e
            obtain ⟨e1, _, _⟩ := e
            have hlt := Q5.out.1.lt bk (by rw [e1]; rfl)
            have hd := lt_of_block HM.out.blk
            have h4 := HZ4.out
            exact ⟨Or.inr ⟨by omega, hlt.2⟩, by omega⟩⟩
          have k45 := K4.out.below Q5.out.2
          obtain ⟨_, _, x3⟩ := k45.cell
          have f3 := k45.fz (k * 4 + 3)
          clear k45
          obtain ⟨w5, hw5⟩ : ∃ w5, w5 = wc.setCell ⟨g, k * 4 + 3, none⟩ (.slice qa (lessQ yq s).length qc) := ⟨_, rfl⟩
          rw [← hw5] at k5
          have K5 : Hid _ := k5
          have HS5 : Hid (w5.heap.size = wc.heap.size) := (show w5.heap.size = wc.heap.size from by rw [hw5]; simp)
          have HSV : Hid (Calls Try.prog 41 #[.pointer (some ⟨D, 0, none⟩), .pointer (some ⟨g, k * 4, none⟩)] w5 (SrvP w5 D g (k * 4) v1 _ (fun b => P1 b ∨ wr.heap.size ≤ b ∧ b < wc.heap.size) (srvH (lessQ yq s) cc (dropL y.k.h s) y.k.wr))) := loserve_any (m := y.k.h.length + yq.length) K5.out.restart (fun a ha => HY.out.2.1.hi a (List.mem_filter.1 ha).1) (fun a ha => (HY.out.2.1.qi a (by rw [← HYQ.out]; exact (List.mem_filter.1 ha).1)).1) (by have := dropL_le y.k.h s; have : (lessQ yq s).length ≤ yq.length := List.length_filter_le _ _; omega) (by have := HY.out.2.1.hl; have := HK.out.1; have := HY.out.2.1.ql; rw [HYQ.out]; omega) HC.out.1 HC.out.2
          obtain ⟨sv, hsv⟩ : ∃ sv, sv = (srvH (lessQ yq s) cc (dropL y.k.h s) y.k.wr) := ⟨_, rfl⟩
          have HSE : Hid (sv = (srvH (lessQ yq s) cc (dropL y.k.h s) y.k.wr)) := hsv
          rw [← hsv] at HSV
          have HOK : Hid (outK y.k cc s = (sv.1, { y.k with h := sv.2.1, wr := sv.2.2.1, q := sv.2.2.2.1 }, sv.2.2.2.2)) := (show outK y.k cc s = _ from by unfold outK; rw [if_pos HIK.out, ← HYQ.out, ← hsv])
          have HRL : Hid (sv.2.2.2.2.length ≤ 32768) := (show sv.2.2.2.2.length ≤ 32768 from by rw [hsv]; have h1 := srvH_len (lessQ yq s) cc (dropL y.k.h s) y.k.wr; have h2 : (lessQ yq s).length ≤ yq.length := List.length_filter_le _ _; omega)
          have HC5 : Hid (0 ≤ sv.1 ∧ sv.1 ≤ 18446744073709551615) := (show 0 ≤ sv.1 ∧ sv.1 ≤ 18446744073709551615 from by rw [hsv]; exact srvH_ok _ _ _ _ HC.out.1 HC.out.2)
          have HW5 : Hid (wc.setCell ⟨g, k * 4 + 3, none⟩ (.slice qa (lessQ yq s).length qc) = w5) := hw5.symm
          clear hsv k5 hw5
          go_upto_region 15 with fail
          rw [HW5.out]
          clear x3 f3 HW5
          go_upto_region 16 with (go_at_call 41; refine Calls.mono HSV.out ?_; rintro e w6 ⟨⟨u6, a6, c6, a7, c7, rfl, o6, k6⟩⟩; have K6 : Hid _ := k6; have R6 : Hid (RowAt rpC w6 u6 sv.2.2.2.2) := RowAt.own rpC_len o6; clear k6 o6)
          have h4 := HZ4.out
          have h5 := HZ5.out
          have h5s := HS5.out
          have h6s := K6.out.k.size
          have hD1 := lt_of_block HM.out.blk
          have hg1 := HT.out.2.2.2.gs.2.2.1
          have k16 := (K5.out.trans K6.out).grow (P' := (fun b => P1 b ∨ wr.heap.size ≤ b ∧ b < w6.heap.size)) (fun b hb => by
            rcases hb.1 with (hb | hb) | hb
            · exact Or.inl hb
            · exact Or.inr ⟨hb.1, by omega⟩
            · exact Or.inr ⟨by omega, hb.2⟩) (fun b hb => by
            rcases hb with hb | hb
            · exact ⟨by have := (KK.out.pb b hb).1; omega, (KK.out.pb b hb).2⟩
            · exact ⟨hb.2, by omega, by omega⟩)
          have t6 := HM.out.turn HY.out.1 HT.out.2.2.2 HT.out.1 HT.out.2.1 HT.out.2.2.1 k16 (fun b hb => Or.inl hb) (fun b hb => hb)
          have T6 : Hid _ := t6
          have HNU : Hid (∀ b, (Value.slice pa pn pc).ownBlock = some b → ¬ (S1 b ∨ (fun b => P1 b ∨ wr.heap.size ≤ b ∧ b < w6.heap.size) b) ∧ b < wr.heap.size ∧ w.heap.size ≤ b ∧ b ≠ D ∧ b ≠ g) := fun b e => by
            have h1 := I.out.out.lt b e
            have h2 := HX.out.2.2.1 b e
            refine ⟨fun hb => ?_, h1.2, h1.1, fun e => h2 (by rw [e]; exact (HM.out.set D).2 (Or.inl rfl)), fun e => h2 (by rw [e]; exact HT.out.2.2.2.gs.1)⟩
            rcases hb with hb | hb | hb
            · exact h2 hb
            · exact h2 ((HM.out.set b).2 (Or.inr (Or.inr hb)))
            · omega
          have O6 : Hid (w6.ownsRow w.heap.size rpT 5 (.slice pa pn pc) (outL (l.take k) c s).2.2.length (rowL rpC (outL (l.take k) c s).2.2)) := own_keep I.out.out (fun gg e => T6.out.2.kept gg (HNU.out gg e).2.1 (fun hb => (HNU.out gg e).1 (Or.inl hb)))
          have HBW : Hid (w.heap.size ≤ w6.heap.size) := (show w.heap.size ≤ w6.heap.size from Nat.le_trans HX.out.2.1.size T6.out.2.size)
          have HRR : Hid ((outL (l.take k) c s).2.2.length ≤ 65536 * 32768) := (show (outL (l.take k) c s).2.2.length ≤ 65536 * 32768 from by have := I.out.rl; omega)
          clear h4 h5 h5s h6s hD1 hg1 k16 t6
          go_wp2_with (at_builtin; refine wpList_app_row (k := 5) (enc := rpC) (l := sv.2.2.2.2) rfl (.tmp 77) (.tmp 78) 36 rpT rfl i0 _ 40 Try.underlying36 hi0 hz0 hz1 hz2 rfl (by decide) rpC_len rpC_one (base := w.heap.size) rfl rfl O6.out R6.out HBW.out (by have := HRL.out; have := HRR.out; omega) (by have := HRL.out; have := HRR.out; omega) ?_; intro u7 w7 o7 a7; have o7' : w7.ownsRow w.heap.size rpT 5 u7 ((outL (l.take k) c s).2.2 ++ sv.2.2.2.2).length (rowL rpC ((outL (l.take k) c s).2.2 ++ sv.2.2.2.2)) := (by rw [List.length_append, rowL_append]; exact o7); obtain ⟨p7, n7, q7, rfl⟩ := own_form o7'; have O7 : Hid (w7.ownsRow w.heap.size rpT 5 (.slice p7 n7 q7) ((outL (l.take k) c s).2.2 ++ sv.2.2.2.2).length (rowL rpC ((outL (l.take k) c s).2.2 ++ sv.2.2.2.2))) := o7'; have A7 : Hid (Appended w.heap.size w6 w7 (.slice pa pn pc) (.slice p7 n7 q7)) := a7; clear o7 o7' a7)
          refine ⟨⟨k + 1, p7, n7, q7, hkl, rfl, by simp, ?_⟩, by simp [intOf]; omega⟩
          have hk7 : ∀ b, b < w6.heap.size → (Value.slice pa pn pc).ownBlock ≠ some b → w7.heap[b]? = w6.heap[b]? := fun b hb hn => A7.out.rest b hb (fun e => hn e.symm)
          refine ⟨⟨_, (fun b => P1 b ∨ wr.heap.size ≤ b ∧ b < w6.heap.size), L1.set k (turnV y sv.2.1 sv.2.2.1 sv.2.2.2.1 a6 c6 a7 c7), v1, ?_, ?_, ⟨A7.out.below.os.trans (T6.out.2.os.trans HX.out.2.1.os), A7.out.below.tape.trans (T6.out.2.tape.trans HX.out.2.1.tape), A7.out.below.output.trans (T6.out.2.output.trans HX.out.2.1.output), Nat.le_trans HBW.out A7.out.below.size, (HX.out.2.1.trans T6.out.2).old, fun b hb hn => (A7.out.below.block b hb).trans ((HX.out.2.1.trans T6.out.2).kept b hb hn)⟩, fun b e hb => ?_⟩, ?_, ?_, ?_, ?_⟩
          · rw [HOL.out, HOK.out]
            exact T6.out.1.keep A7.out.below.size (fun b hb => hk7 b (T6.out.1.bd b hb).2 (fun e => (HNU.out b e).1 hb))
          · rw [HOL.out, HOK.out, map_set_k, HX.out.1, List.set_append_right _ _ (by rw [outL_len, List.length_take]; omega), outL_len, List.length_take, Nat.min_eq_left hk, Nat.sub_self, List.drop_eq_getElem_cons hkl, List.append_assoc, List.singleton_append]
            rfl
          · rcases A7.out.lies with e2 | e2
            · rw [e2] at e
              exact (HNU.out b e).1 hb
            · rw [e2] at e
              have := Option.some.inj e
              have := (T6.out.1.bd b hb).2
              omega
          · rw [HOL.out, HOK.out]
            exact O7.out
          · rw [HOL.out, HOK.out]
            exact HC5.out.1
          · rw [HOL.out, HOK.out]
            exact HC5.out.2
          · rw [HOL.out, HOK.out]
            show ((outL (l.take k) c s).2.2 ++ sv.2.2.2.2).length ≤ (k + 1) * 32768
            rw [List.length_append]
            have := I.out.rl
            have := HRL.out
            omega
    · obtain rfl : k = l.length := by omega
      have t0 : decide ((l.length : Int) < (l.length : Int)) = false := decide_eq_false (by omega)
      have HE : Hid (l.take l.length = l ∧ l.drop l.length = []) := (show Hid _ from (⟨List.take_length, List.drop_length⟩ : _ ∧ _))
      have HTD : Hid (Calls Try.prog 42 #[.pointer (some ⟨D, 0, none⟩)] wr (LoP wr base D S1 P1 (tidyV L1) (outL l c s).1)) := by have := lotidy_any HM.out (by have := HX.out.2.2.2; omega); rw [HE.out.1] at this; exact this
      go_wp2_with (go_at_call 42; refine Calls.mono HTD.out ?_; rintro e w8 ⟨⟨S8, v8, rfl, m8, k8⟩⟩; have M8 : Hid _ := m8; have K8 : Hid _ := k8; clear m8 k8)
      go_ret
      have ho := I.out.out
      have hm := HX.out.1
      rw [HE.out.1] at ho hm
      rw [HE.out.2, List.append_nil] at hm
      refine ⟨_, S8, rfl, (RowAt.own rpC_len ho).keep K8.out.size (fun bk off n9 cap h0 e => K8.out.kept bk (ho.lt bk (by rw [e]; rfl)).2 (HX.out.2.2.1 bk (by rw [e]; rfl))), ⟨_, _, _, M8.out, by rw [tidyV_map, hm]; rfl⟩, HX.out.2.1.trans K8.out⟩
end Go.Proofs.Ytmfadmhbkgemmaa
/-
  The document's locks: who holds one; are two rows of replies one. The condition: lists are short.
-/
namespace Go.Proofs.Ytmfadmhbkgemmaa
open Go.RowKit

def holL (l : List Lk) (nm : ByteArray) : List Int × Bool := match lkIx l nm with
  | none => ([], false)
  | some i => match l[i]? with
    | none => ([], false)
    | some y => if y.h.length = 0 then ([], false) else (y.h, y.wr)
structure HolP (w : World) (q : List Int × Bool) (e : Ending) (w' : World) : Prop where
  ex : ∃ u, e = .returned (.tuple #[u, .bool q.2]) ∧ IntsAt w' u q.1 ∧ Below w.heap.size w w'
theorem ints_none (w : World) : IntsAt w (.slice none 0 0) [] := ⟨⟨none, 0, rfl, Nat.le_refl _, Or.inl rfl⟩, fun x hx => (by cases hx), Nat.zero_le _⟩
end Go.Proofs.Ytmfadmhbkgemmaa
/-
  The document's locks: who waits for one. The condition: lists are short.
-/
namespace Go.Proofs.Ytmfadmhbkgemmaa
open Go.RowKit

def wtOf (a : Wq) : Wt := (a.s, a.rd, true)
def queL (l : List Lk) (nm : ByteArray) : List Wt := match lkIx l nm with
  | none => []
  | some i => match l[i]? with
    | none => []
    | some y => y.q.map wtOf
theorem infoWt : (Try.prog.info? 100).map (fun i => (i.zero, i.size, i.bytes)) = some (some (.agg #[.int .i64 0, .bool false, .bool false]), 3, 16) := by kernel_rfl
structure QueP (w : World) (q : List Wt) (e : Ending) (w' : World) : Prop where
  ex : ∃ u, e = .returned u ∧ RowAt waitC w' u q ∧ Below w.heap.size w w'
end Go.Proofs.Ytmfadmhbkgemmaa
/-
  The document's locks: what each call keeps: lists stay short, numbers ints, names short, the counter within its bounds. No condition.
-/
namespace Go.Proofs.Ytmfadmhbkgemmaa
open Go.RowKit

/-- A lock holds and keeps waiting at most N. -/
structure LkSum (N : Nat) (x : Lk) : Prop where
  sum : x.h.length + x.q.length ≤ N
  hi : ∀ a ∈ x.h, okI a
  qi : ∀ a ∈ x.q, okI a.s ∧ okI a.n
  nm : x.name.size ≤ 1000
structure LoFit (N : Nat) (c : Int) (l : List Lk) : Prop where
  each : ∀ x ∈ l, LkSum N x
  len : l.length ≤ 256
  c0 : 0 ≤ c
  c1 : c ≤ 18446744073709551615
theorem LkSum.ok {N : Nat} {x : Lk} (h : LkSum N x) : LkOk N x := ⟨by have := h.sum; omega, by have := h.sum; omega, h.hi, h.qi⟩
theorem LkSum.up {N M : Nat} {x : Lk} (h : LkSum N x) (hn : N ≤ M) : LkSum M x := ⟨Nat.le_trans h.sum hn, h.hi, h.qi, h.nm⟩
theorem LoFit.up {N M : Nat} {c : Int} {l : List Lk} (h : LoFit N c l) (hn : N ≤ M) : LoFit M c l := ⟨fun x hx => (h.each x hx).up hn, h.len, h.c0, h.c1⟩
theorem srvH_mem : ∀ (q : List Wq) (c : Int) (h : List Int) (b : Bool), (∀ a ∈ h, okI a) → (∀ a ∈ q, okI a.s ∧ okI a.n) → (∀ a ∈ (srvH q c h b).2.1, okI a) ∧ ∀ a ∈ (srvH q c h b).2.2.2.1, okI a.s ∧ okI a.n
  | [], _, _, _, hh, hq => ⟨hh, hq⟩
  | x :: q, c, h, b, hh, hq => by
    unfold srvH
    split
    · exact srvH_mem q _ _ _ (give_mem hh (hq x List.mem_cons_self).1) (fun a ha => hq a (List.mem_cons_of_mem _ ha))
    · exact ⟨hh, hq⟩
theorem tidyL_sum {N : Nat} {l : List Lk} (h : ∀ x ∈ l, LkSum N x) : ∀ x ∈ tidyL l, LkSum N x := fun x hx => h x (List.mem_filter.1 hx).1
theorem set_sum {N : Nat} {l : List Lk} {i : Nat} {y : Lk} (h : ∀ x ∈ l, LkSum N x) (hy : LkSum N y) : ∀ x ∈ l.set i y, LkSum N x := fun x hx => by
  rcases List.mem_or_eq_of_mem_set hx with e | e
  · exact h x e
  · rw [e]; exact hy
theorem addL_mem {l : List Lk} {x y : Lk} (h : y ∈ addL l x) : y = x ∨ y ∈ l := by
  unfold addL at h
  rcases List.mem_append.1 h with h | h
  · exact Or.inr ((List.takeWhile_sublist _).subset h)
  · rcases List.mem_cons.1 h with h | h
    · exact Or.inl h
    · exact Or.inr ((List.dropWhile_sublist _).subset h)
theorem addL_len (l : List Lk) (x : Lk) : (addL l x).length = l.length + 1 := by
  have e := congrArg List.length (List.takeWhile_append_dropWhile (p := fun y : Lk => befK y.name x.name) (l := l))
  rw [List.length_append] at e
  unfold addL
  rw [List.length_append, List.length_cons]
  omega
theorem giveH_new {c : Int} {x : Wq} {N : Nat} {nm : ByteArray} (hs : okI x.s) (hn : nm.size ≤ 1000) : LkSum (N + 1) ⟨nm, (giveH c [] false x).2.1, (giveH c [] false x).2.2.1, []⟩ :=
  ⟨by have := give_len (c := c) (h := []) (b := false) (x := x); simp only [List.length_nil] at this ⊢; omega, give_mem (fun a ha => (by cases ha)) hs, fun a ha => (by cases ha), hn⟩
/-- Asked for: one more at most. -/
theorem LoFit.ask {N : Nat} {c : Int} {l : List Lk} (h : LoFit N c l) (k s n : Int) (nm : ByteArray) (hs : okI s) (hn : okI n) (hm : nm.size ≤ 1000) : LoFit (N + 1) (askL c l k s n nm).1 (askL c l k s n nm).2.1 := by
  have h1 : LoFit (N + 1) c l := h.up (Nat.le_succ _)
  unfold askL
  split
  · exact h1
  · split
    · unfold askN
      split
      · exact h1
      · rename_i hlt
        have hg := give_ok (c := c) (h := []) (b := false) (x := ⟨s, n, k == 7⟩) h.c0 h.c1
        refine ⟨fun x hx => ?_, ?_, hg.1, hg.2⟩
        · show LkSum (N + 1) x
          have hx : x ∈ (if (giveH c [] false ⟨s, n, k == 7⟩).2.2.2.err = 0 then addL l ⟨nm, (giveH c [] false ⟨s, n, k == 7⟩).2.1, (giveH c [] false ⟨s, n, k == 7⟩).2.2.1, []⟩ else l) := hx
          split at hx
          · rcases addL_mem hx with e | e
            · rw [e]; exact giveH_new hs hm
            · exact h1.each x e
          · exact h1.each x hx
        · show (if (giveH c [] false ⟨s, n, k == 7⟩).2.2.2.err = 0 then addL l ⟨nm, (giveH c [] false ⟨s, n, k == 7⟩).2.1, (giveH c [] false ⟨s, n, k == 7⟩).2.2.1, []⟩ else l).length ≤ 256
          split
          · rw [addL_len]; omega
          · exact h.len
    · split
      · exact h1
      · rename_i i _ y hy
        have hym := h.each y (List.mem_of_getElem? hy)
        unfold askS
        split
        · exact h1
        · split
          · have hg := give_ok (c := c) (h := y.h) (b := y.wr) (x := ⟨s, n, k == 7⟩) h.c0 h.c1
            refine ⟨set_sum h1.each ⟨?_, give_mem hym.hi hs, hym.qi, hym.nm⟩, by show (l.set _ _).length ≤ 256; rw [List.length_set]; exact h.len, hg.1, hg.2⟩
            have := give_len (c := c) (h := y.h) (b := y.wr) (x := ⟨s, n, k == 7⟩)
            have := hym.sum
            show (giveH c y.h y.wr ⟨s, n, k == 7⟩).2.1.length + y.q.length ≤ N + 1
            omega
          · refine ⟨set_sum h1.each ⟨?_, hym.hi, fun a ha => ?_, hym.nm⟩, by show (l.set _ _).length ≤ 256; rw [List.length_set]; exact h.len, h.c0, h.c1⟩
            · show y.h.length + (y.q ++ [_]).length ≤ N + 1
              rw [List.length_append, List.length_singleton]
              have := hym.sum
              omega
            · rcases List.mem_append.1 ha with ha | ha
              · exact hym.qi a ha
              · rw [List.mem_singleton.1 ha]; exact ⟨hs, hn⟩
theorem out_sum {N : Nat} {c s : Int} {x : Lk} (h : LkSum N x) : LkSum N (outK x c s).2.1 := by
  unfold outK
  split
  · have h1 := srvH_sum (lessQ x.q s) c (dropL x.h s) x.wr
    have h2 := srvH_mem (lessQ x.q s) c (dropL x.h s) x.wr (fun a ha => h.hi a (List.mem_filter.1 ha).1) (fun a ha => h.qi a (List.mem_filter.1 ha).1)
    have h3 := dropL_le x.h s
    have h4 : (lessQ x.q s).length ≤ x.q.length := List.length_filter_le _ _
    have h5 := h.sum
    exact ⟨by show (srvH _ _ _ _).2.1.length + (srvH _ _ _ _).2.2.2.1.length ≤ N; omega, h2.1, h2.2, h.nm⟩
  · exact h
theorem out_c {c s : Int} {x : Lk} (h0 : 0 ≤ c) (h1 : c ≤ 18446744073709551615) : 0 ≤ (outK x c s).1 ∧ (outK x c s).1 ≤ 18446744073709551615 := by
  unfold outK
  split
  · exact srvH_ok _ _ _ _ h0 h1
  · exact ⟨h0, h1⟩
theorem outL_sum {N : Nat} (s : Int) : ∀ (l : List Lk) (c : Int), (∀ x ∈ l, LkSum N x) → 0 ≤ c → c ≤ 18446744073709551615 → (∀ x ∈ (outL l c s).2.1, LkSum N x) ∧ 0 ≤ (outL l c s).1 ∧ (outL l c s).1 ≤ 18446744073709551615
  | [], _, _, h0, h1 => ⟨fun x hx => (by cases hx), h0, h1⟩
  | x :: l, c, h, h0, h1 => by
    have hc := out_c (x := x) (s := s) h0 h1
    have ih := outL_sum s l (outK x c s).1 (fun y hy => h y (List.mem_cons_of_mem _ hy)) hc.1 hc.2
    unfold outL
    refine ⟨fun y hy => ?_, ih.2⟩
    rcases List.mem_cons.1 hy with e | e
    · rw [e]; exact out_sum (h x List.mem_cons_self)
    · exact ih.1 y e
theorem LoFit.gone {N : Nat} {c : Int} {l : List Lk} (h : LoFit N c l) (s : Int) : LoFit N (gonL c l s).1 (gonL c l s).2.1 := by
  have h1 := outL_sum s l c h.each h.c0 h.c1
  unfold gonL
  exact ⟨tidyL_sum h1.1, Nat.le_trans (List.length_filter_le _ _) (by rw [outL_len]; exact h.len), h1.2.1, h1.2.2⟩
theorem LoFit.rel {N : Nat} {c : Int} {l : List Lk} (h : LoFit N c l) (k s n : Int) (nm : ByteArray) : LoFit N (relL c l k s n nm).1 (relL c l k s n nm).2.1 := by
  unfold relL
  split
  · exact h
  · split
    · exact h
    · split
      · exact h
      · rename_i i _ y hy
        have hym := h.each y (List.mem_of_getElem? hy)
        split
        · exact h
        · have h1 := srvH_sum y.q c (dropL y.h s) y.wr
          have h2 := srvH_mem y.q c (dropL y.h s) y.wr (fun a ha => hym.hi a (List.mem_filter.1 ha).1) hym.qi
          have h3 := dropL_le y.h s
          have h4 := srvH_ok y.q c (dropL y.h s) y.wr h.c0 h.c1
          have h5 := hym.sum
          unfold relS
          refine ⟨tidyL_sum (set_sum h.each ⟨?_, h2.1, h2.2, hym.nm⟩), Nat.le_trans (List.length_filter_le _ _) (by rw [List.length_set]; exact h.len), h4.1, h4.2⟩
          show (srvH _ _ _ _).2.1.length + (srvH _ _ _ _).2.2.2.1.length ≤ N
          omega
end Go.Proofs.Ytmfadmhbkgemmaa
/-
  The document's locks whole: each call as plain data, with the bounds that it keeps. The conditions: numbers are ints, names at most 1000 bytes; fewer than 32767 deeds.
-/
namespace Go.Proofs.Ytmfadmhbkgemmaa
open Go.RowKit

structure LoW (w : World) (base D : Nat) (S : Nat → Prop) (N : Nat) (c : Int) (l : List Lk) : Prop where
  ex : LoB w base D S c l
  ok : LoFit N c l
section
variable {w w' : World} {base D N : Nat} {S : Nat → Prop} {c : Int} {l : List Lk}
theorem LoW.bd (h : LoW w base D S N c l) : ∀ g, S g → base ≤ g ∧ g < w.heap.size := by
  obtain ⟨P, L, v, hM, _⟩ := h.ex
  exact hM.bd
theorem LoW.keep (h : LoW w base D S N c l) (hs : w.heap.size ≤ w'.heap.size) (hk : ∀ g, S g → w'.heap[g]? = w.heap[g]?) : LoW w' base D S N c l := by
  obtain ⟨P, L, v, hM, e⟩ := h.ex
  exact ⟨⟨P, L, v, hM.keep hs hk, e⟩, h.ok⟩
theorem LoW.fresh (h : LoW w base D S N c l) (k : Below w.heap.size w w') : LoW w' base D S N c l := h.keep k.size fun g hg => k.block g (h.bd g hg).2
theorem LoW.up (h : LoW w base D S N c l) {M : Nat} (hn : N ≤ M) : LoW w base D S M c l := ⟨h.ex, h.ok.up hn⟩
/-- The counter. -/
theorem LoW.count (h : LoW w base D S N c l) : w.cell? ⟨D, 1, none⟩ = some (.int .u64 c) ∧ w.frozen? ⟨D, 1, none⟩ = false := by
  obtain ⟨P, L, v, hM, _⟩ := h.ex
  exact ⟨hM.cell 1 _ rfl, hM.fz 1⟩
structure AskW (w : World) (base D : Nat) (S : Nat → Prop) (N : Nat) (q : Int × List Lk × List SeR × Bool) (e : Ending) (w' : World) : Prop where
  ex : ∃ u S', e = .returned (.tuple #[u, .bool q.2.2.2]) ∧ RowAt rpC w' u q.2.2.1 ∧ LoW w' base D S' (N + 1) q.1 q.2.1 ∧ Kept w w' S S'
theorem LoW.ask (h : LoW w base D S N c l) (hN : N < 32767) (k s n : Int) (nm : ByteArray) (m : Int) (hs : okI s) (hn : okI n) (hm : nm.size ≤ 1000) : Calls Try.prog 11 #[.pointer (some ⟨D, 0, none⟩), .agg (cmA k s n nm m)] w (AskW w base D S N (askL c l k s n nm)) := by
  have hok := h.ok
  obtain ⟨P, L, v, hM, e⟩ := h.ex
  subst e
  refine (loask_any hM (by have := hok.len; rw [List.length_map] at this; omega) (N := N) (by omega) (fun x hx => (hok.each x.k (List.mem_map.2 ⟨x, hx, rfl⟩)).ok) hok.c0 hok.c1 k s n nm m hs).mono ?_
  rintro e w' ⟨u, S', h1, h2, h3, h4⟩
  exact ⟨u, S', h1, h2, ⟨h3, hok.ask k s n nm hs hn hm⟩, h4⟩
structure RelW (w : World) (base D : Nat) (S : Nat → Prop) (N : Nat) (q : Int × List Lk × List SeR) (e : Ending) (w' : World) : Prop where
  ex : ∃ u S', e = .returned u ∧ RowAt rpC w' u q.2.2 ∧ LoW w' base D S' N q.1 q.2.1 ∧ Kept w w' S S'
theorem LoW.rel (h : LoW w base D S N c l) (hN : N < 32767) (k s n : Int) (nm : ByteArray) (m : Int) (hs : okI s) : Calls Try.prog 13 #[.pointer (some ⟨D, 0, none⟩), .agg (cmA k s n nm m)] w (RelW w base D S N (relL c l k s n nm)) := by
  have hok := h.ok
  obtain ⟨P, L, v, hM, e⟩ := h.ex
  subst e
  refine (lorel_any hM (by have := hok.len; rw [List.length_map] at this; omega) (N := N) (by omega) (fun x hx => (hok.each x.k (List.mem_map.2 ⟨x, hx, rfl⟩)).ok) hok.c0 hok.c1 k s n nm m hs).mono ?_
  rintro e w' ⟨u, S', h1, h2, h3, h4⟩
  exact ⟨u, S', h1, h2, ⟨h3, hok.rel k s n nm⟩, h4⟩
theorem LoW.gone (h : LoW w base D S N c l) (hN : N < 32767) (s : Int) : Calls Try.prog 15 #[.pointer (some ⟨D, 0, none⟩), .int .i64 s] w (RelW w base D S N (gonL c l s)) := by
  have hok := h.ok
  obtain ⟨P, L, v, hM, e⟩ := h.ex
  subst e
  refine (logone_any hM (by have := hok.len; rw [List.length_map] at this; omega) (N := N) (by omega) (fun x hx => (hok.each x.k (List.mem_map.2 ⟨x, hx, rfl⟩)).ok) hok.c0 hok.c1 s).mono ?_
  rintro e w' ⟨u, S', h1, h2, h3, h4⟩
  exact ⟨u, S', h1, h2, ⟨h3, hok.gone s⟩, h4⟩
/-- New: none. -/
theorem lo_new (w : World) {base : Nat} (hb : base ≤ w.heap.size) : LoW (w.alloc (.cells #[.slice none 0 0, .int .u64 0] lsT)) base w.heap.size (fun g => g = w.heap.size) 0 0 [] :=
  ⟨⟨fun _ => False, [], .slice none 0 0, ⟨heap_alloc_new w _, World.ownsRow_nil _ _ _ _, fun x hx => (by cases hx), fun g hg => hg.elim, hb, fun g => ⟨Or.inl, fun h => by
    rcases h with h | h | h
    · exact h
    · cases h
    · exact h.elim⟩⟩, rfl⟩, ⟨fun x hx => (by cases hx), by simp, by decide, by decide⟩⟩
end
end Go.Proofs.Ytmfadmhbkgemmaa
/-
  What layer 19's laws ask: has a command what commands of locks have; does a session wait. No condition but a size.
-/
namespace Go.Proofs.Ytmfadmhbkgemmaa
open Go.RowKit

def fitL (s n : Int) (nm : ByteArray) : Bool := decide (1 ≤ s) && decide (s ≤ 1073741824) && decide (1 ≤ n) && decide (n ≤ 1073741824) && decide ((1 : Int) ≤ (nm.size : Int)) && decide ((nm.size : Int) ≤ 64)
theorem fitL_yes {s n : Int} {nm : ByteArray} (h : fitL s n nm = true) : okI s ∧ okI n ∧ nm.size ≤ 1000 := by
  unfold fitL at h
  simp only [Bool.and_eq_true, decide_eq_true_eq] at h
  exact ⟨⟨by omega, by omega⟩, ⟨by omega, by omega⟩, by omega⟩
set_option maxHeartbeats 6400000 in
set_option maxRecDepth 100000 in
theorem fit_any (w : World) (k s n : Int) (nm : ByteArray) (m : Int) : Calls Try.prog 8 #[.agg (cmA k s n nm m)] w fun e w' => e = .returned (.bool (fitL s n nm)) ∧ Below w.heap.size w w' := by
  obtain ⟨V, hV⟩ : ∃ V, V = w.alloc (.cells (cmA k s n nm m) cmT) := ⟨_, rfl⟩
  have bV : Below w.heap.size w V := by rw [hV]; exact (Below.refl _ w).alloc (Nat.le_refl _) _
  have rV : V.heap[w.heap.size]? = some (.cells (cmA k s n nm m) cmT (0, 0)) := by rw [hV]; exact heap_alloc_new w _
  have HV : Hid (w.alloc (.cells #[.int .i64 k, .int .i64 s, .int .i64 n, .string nm, .int .i64 m] cmT) = V) := hV.symm
  have BV : Hid (Below w.heap.size w V) := bV
  have z1 : V.cell? ⟨w.heap.size, 1, none⟩ = some (.int .i64 s) := by simp [World.cell?, rV]
  have z2 : V.cell? ⟨w.heap.size, 2, none⟩ = some (.int .i64 n) := by simp [World.cell?, rV]
  have z3 : V.cell? ⟨w.heap.size, 3, none⟩ = some (.string nm) := by simp [World.cell?, rV]
  clear hV bV rV
  cases c0 : decide (1 ≤ s) with
  | false =>
    have e : fitL s n nm = false := by simp only [fitL, c0]; rfl
    have HE : Hid _ := e
    clear e
    go_enter Try.func8, Try.ntmps8
    go_upto_region 1 with fail
    rw [HV.out]
    go_wp2
    go_ret
    exact ⟨by rw [HE.out]; rfl, BV.out⟩
  | true =>
    cases c1 : decide (s ≤ 1073741824) with
    | false =>
      have e : fitL s n nm = false := by simp only [fitL, c0, c1]; rfl
      have HE : Hid _ := e
      clear e
      go_enter Try.func8, Try.ntmps8
      go_upto_region 1 with fail
      rw [HV.out]
      go_wp2
      go_ret
      exact ⟨by rw [HE.out]; rfl, BV.out⟩
    | true =>
      cases c2 : decide (1 ≤ n) with
      | false =>
        have e : fitL s n nm = false := by simp only [fitL, c0, c1, c2]; rfl
        have HE : Hid _ := e
        clear e
        go_enter Try.func8, Try.ntmps8
        go_upto_region 1 with fail
        rw [HV.out]
        go_wp2
        go_ret
        exact ⟨by rw [HE.out]; rfl, BV.out⟩
      | true =>
        cases c3 : decide (n ≤ 1073741824) with
        | false =>
          have e : fitL s n nm = false := by simp only [fitL, c0, c1, c2, c3]; rfl
          have HE : Hid _ := e
          clear e
          go_enter Try.func8, Try.ntmps8
          go_upto_region 1 with fail
          rw [HV.out]
          go_wp2
          go_ret
          exact ⟨by rw [HE.out]; rfl, BV.out⟩
        | true =>
          cases c4 : decide ((1 : Int) ≤ (nm.size : Int)) with
          | false =>
            have d4 : decide (1 ≤ nm.size) = false := decide_eq_false (by have := of_decide_eq_false c4; omega)
            have e : fitL s n nm = false := by simp only [fitL, c0, c1, c2, c3, c4]; rfl
            have HE : Hid _ := e
            clear e
            go_enter Try.func8, Try.ntmps8
            go_upto_region 1 with fail
            rw [HV.out]
            go_wp2
            go_ret
            exact ⟨by rw [HE.out]; rfl, BV.out⟩
          | true =>
            have d4 : decide (1 ≤ nm.size) = true := decide_eq_true (by have := of_decide_eq_true c4; omega)
            cases c5 : decide ((nm.size : Int) ≤ 64) with
            | false =>
              have d5 : decide (nm.size ≤ 64) = false := decide_eq_false (by have := of_decide_eq_false c5; omega)
              have e : fitL s n nm = false := by simp only [fitL, c0, c1, c2, c3, c4, c5]; rfl
              have HE : Hid _ := e
              clear e
              go_enter Try.func8, Try.ntmps8
              go_upto_region 1 with fail
              rw [HV.out]
              go_wp2
              go_ret
              exact ⟨by rw [HE.out]; rfl, BV.out⟩
            | true =>
              have d5 : decide (nm.size ≤ 64) = true := decide_eq_true (by have := of_decide_eq_true c5; omega)
              have e : fitL s n nm = true := by simp only [fitL, c0, c1, c2, c3, c4, c5]; rfl
              have HE : Hid _ := e
              clear e
              go_enter Try.func8, Try.ntmps8
              go_upto_region 1 with fail
              rw [HV.out]
              go_wp2
              go_ret
              exact ⟨by rw [HE.out]; rfl, BV.out⟩
def waitsL (l : List Lk) (s : Int) : Bool := l.any fun x => waitB x.q s
set_option maxHeartbeats 6400000 in
set_option maxRecDepth 100000 in
theorem LoW.waits {w : World} {base D N : Nat} {S : Nat → Prop} {c : Int} {l : List Lk} (h : LoW w base D S N c l) (hN : N < 32767) (s : Int) : Calls Try.prog 9 #[.pointer (some ⟨D, 0, none⟩), .int .i64 s] w fun e w' => e = .returned (.bool (waitsL l s)) ∧ w' = w := by
  have hok := h.ok
  obtain ⟨P, L, v, hM, e⟩ := h.ex
  obtain ⟨va, vc, rfl⟩ := hM.form
  have hln : L.length ≤ 256 := by have := hok.len; rw [e, List.length_map] at this; exact this
  have HM : Hid _ := hM
  have l0 : w.cell? ⟨D, 0, none⟩ = some (.slice va L.length vc) := hM.cell 0 _ rfl
  have HLL : Hid (∀ k (hk : k < L.length), L[k].k ∈ l ∧ (L[k].k.q.length ≤ 32767)) := fun k hk => by
    have hm : L[k].k ∈ l := by rw [e]; exact List.mem_map.2 ⟨L[k], List.getElem_mem hk, rfl⟩
    exact ⟨hm, by have := (hok.each _ hm).sum; omega⟩
  have HE : Hid (l = L.map (·.k)) := e
  clear h hok hM e
  go_enter Try.func9, Try.ntmps9
  go_wp2
  go_loopw [5, 6] (fun i _ wr => ∃ k : Nat, k ≤ L.length ∧ i = .int .i64 (k : Int) ∧ wr = w ∧ Hid (∀ j (hj : j < L.length), j < k → waitB L[j].k.q s = false)) (fun i _ _ => L.length - (intOf i).toNat)
  case atStart => exact ⟨0, Nat.zero_le _, rfl, rfl, fun j hj h => by omega⟩
  case round =>
    obtain ⟨k, hk, rfl, rfl, HN⟩ := hrel
    by_cases hkl : k < L.length
    · have t0 : decide ((k : Int) < (L.length : Int)) = true := decide_eq_true (by omega)
      have t0' : decide (k < L.length) = true := decide_eq_true hkl
      have j1 : (k : Int) < (L.length : Int) := by omega
      obtain ⟨y, hy⟩ : ∃ y, y = L[k] := ⟨_, rfl⟩
      obtain ⟨g, cp, J⟩ := HM.out.at (List.getElem?_eq_getElem hkl)
      rw [← hy] at J
      have e0 := J.form
      simp only [Value.slice.injEq] at e0
      obtain ⟨rfl, _, rfl⟩ := e0
      have z3 := J.cell 3 (.slice y.qa y.k.q.length y.qc) rfl
      have HR : Hid (RowAt wqC wr (.slice y.qa y.k.q.length y.qc) y.k.q) := J.at'.q.at'
      have HY : Hid (y = L[k]) := hy
      have hql : y.k.q.length ≤ 32767 := by rw [hy]; exact (HLL.out k hkl).2
      obtain ⟨q, hq⟩ : ∃ q, q = y.k.q := ⟨_, rfl⟩
      rw [← hq] at z3 HR hql
      have HQ : Hid (q = y.k.q) := hq
      clear hy J hq
      go_wp2
      obtain ⟨w0, hw0⟩ : ∃ w0, w0 = wr := ⟨_, rfl⟩
      rw [← hw0] at z3 HR l0 ⊢
      have HW0 : Hid (w0 = wr) := hw0
      clear hw0
      go_loopw [6] (fun i wx => ∃ j : Nat, j ≤ q.length ∧ i = .int .i64 (j : Int) ∧ wx = w0 ∧ Hid (∀ i (hi : i < q.length), i < j → ¬ q[i].s = s)) (fun i _ => q.length - (intOf i).toNat)
      case atStart => exact ⟨0, Nat.zero_le _, rfl, rfl, fun i hi h => by omega⟩
      case round =>
        obtain ⟨j, hj, rfl, rfl, HI⟩ := hrel
        by_cases hjl : j < q.length
        · have t2 : decide ((j : Int) < (q.length : Int)) = true := decide_eq_true (by omega)
          have t2' : decide (j < q.length) = true := decide_eq_true hjl
          have n1 : (j : Int) < (q.length : Int) := by omega
          obtain ⟨bk, off, cq, e3, _, _, hc⟩ := HR.out.cells wqC_len (by omega)
          simp only [Value.slice.injEq] at e3
          obtain ⟨e3, _, e4⟩ := e3
          rw [e3, e4] at z3
          have y0 := hc j hjl 0 (.int .i64 q[j].s) (by decide) rfl
          rw [Nat.add_zero] at y0
          obtain ⟨m, hm⟩ : ∃ m, m = q[j].s := ⟨_, rfl⟩
          rw [← hm] at y0
          have HMm : Hid (m = q[j].s) := hm
          clear hm hc e3 e4
          by_cases hx : m = s
          · have HF : Hid (waitsL l s = true) := (show waitsL l s = true from by
              unfold waitsL
              rw [List.any_eq_true]
              refine ⟨L[k].k, (HLL.out k hkl).1, ?_⟩
              rw [← HY.out, ← HQ.out]
              exact waitB_yes hjl (by rw [← HMm.out]; exact hx))
            have t3 : (m == s) = true := by simpa using hx
            clear hx
            go_wp2
            go_ret
            exact ⟨by rw [HF.out]; try rfl, by first | rfl | trivial | exact HW0.out⟩
          · have t3 : (m == s) = false := by simpa using hx
            have HI2 : Hid (∀ i (hi : i < q.length), i < j + 1 → ¬ q[i].s = s) := fun i hi hij e => by
              by_cases hjk : i < j
              · exact HI.out i hi hjk e
              · have : i = j := by omega
                subst this
                exact hx (by rw [HMm.out]; exact e)
            clear hx HI
            go_wp2
            exact ⟨⟨j + 1, hjl, by simp, by first | rfl | trivial, HI2⟩, by simp [intOf]; omega⟩
        · obtain rfl : j = q.length := by omega
          have t2 : decide ((q.length : Int) < (q.length : Int)) = false := decide_eq_false (by omega)
          have HN2 : Hid (∀ j (hj : j < L.length), j < k + 1 → waitB L[j].k.q s = false) := fun j hj hjk => by
            by_cases e : j < k
            · exact HN.out j hj e
            · have : j = k := by omega
              subst this
              rw [← HY.out, ← HQ.out]
              exact waitB_no (fun i hi => HI.out i hi hi)
          go_wp2
          exact ⟨⟨k + 1, hkl, by simp, by first | rfl | trivial | exact HW0.out, HN2⟩, by simp [intOf]; omega⟩
    · obtain rfl : k = L.length := by omega
      have t0 : decide ((L.length : Int) < (L.length : Int)) = false := decide_eq_false (by omega)
      have HF : Hid (waitsL l s = false) := (show waitsL l s = false from by
        unfold waitsL
        rw [HE.out, List.any_eq_false]
        intro x hx
        obtain ⟨y, hy, rfl⟩ := List.mem_map.1 hx
        obtain ⟨j, hj, rfl⟩ := List.getElem_of_mem hy
        rw [HN.out j hj hj]
        decide)
      go_wp2
      go_ret
      exact ⟨by rw [HF.out]; try rfl, by first | rfl | trivial⟩
end Go.Proofs.Ytmfadmhbkgemmaa
