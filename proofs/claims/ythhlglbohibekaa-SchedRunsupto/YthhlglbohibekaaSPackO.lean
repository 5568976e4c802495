/-
  Parts of the proof, laid together: GSlidM, ScMem, ScReady, ScLists. The conditions stand at each part.
-/
import Derived.Test.YthhlglbohibekaaSPackA
import Derived.Test.YthhlglbohibekaaSPackB
import Derived.Test.YthhlglbohibekaaSPackC
namespace Go.Proofs.Ythhlglbohibekaa
open Go.RowKit

section
variable {α : Type} {k : Nat} {enc : α → List Value} {E : TypeId} {w w' : World} {v : Value} {l m : List α}
theorem Slid.appendM (T ty : TypeId) (i0 : TypeInfo) (z : Value) (bytes : Nat) (hu : Try.prog.underlying T = some (.slice E)) (hi : Try.prog.info? E = some i0) (hz0 : i0.zero = some z) (hz1 : i0.size = k) (hz2 : i0.bytes = bytes) (hzs : z.cells.size = k)
    (hk : ∀ x, (enc x).length = k) (h1 : ∀ u ∈ rowL enc m, u.oneCell' = true) (h : Slid enc k E w v l) (ad : Addr) (c : Nat) (hnews : ∀ j u, (rowL enc m)[j]? = some u → w.cell? (ad.add j) = some u) (hm : 0 < m.length) (h63 : l.length + m.length ≤ maxLen) (hb : (l.length + m.length) * bytes ≤ 140737488355328) :
    ∃ u w', (Builtin.append_ #[T, T] ty #[v, .slice (some ad) m.length c]).run Try.prog w = .ok u w' ∧ Slid enc k E w' u (l ++ m) ∧ w.grownBy w' v.ownBlock ∧ (u.ownBlock = v.ownBlock ∨ u.ownBlock = some w.heap.size) := by
  subst hz1
  subst hz2
  have hsmall : l.length + m.length ≤ 9223372036854775807 := by simp only [maxLen] at h63; omega
  have hl := rowL_length hk m
  rcases h.ex with ⟨rfl, rfl⟩ | ⟨g, off, cap, cur, rfl, h2, h3, h4, h5, h6⟩
  · have hr := run_append_nil (P := Try.prog) w T ty E i0 z hu hi hz0 ad m.length c (rowL enc m) hl hnews hm (by simp at hsmall; omega) (by simp at hb; omega)
    have hge := grownCap_ge w m.length 0 E
    have hcm : grownCap w m.length 0 E ≤ maxLen := grownCap_le_maxLen w m.length 0 E (by simpa using h63)
    refine ⟨_, _, hr, ⟨Or.inr ⟨_, 0, _, _, by simp, heap_alloc_new w.drew _, by simpa using hge, hcm, ?_, ?_⟩⟩, ⟨rfl, rfl, rfl, by simp, fun b hb _ => Below.heap_alloc w.drew _ b hb⟩, Or.inr rfl⟩
    · simp only [Array.size_append, List.size_toArray, size_zeroCells, hzs, hl, ← Nat.add_mul, Nat.zero_add]
      exact Nat.mul_le_mul_right _ (by omega)
    · simp only [Array.toList_append, List.drop_zero, List.nil_append]
      rw [← hl]
      exact List.take_left
  · have hlo := rowL_length hk l
    by_cases hroom : l.length + m.length ≤ cap
    · have hfit : off + l.length * i0.size + (rowL enc m).length ≤ cur.size := by
        have h7 := Nat.mul_le_mul_right i0.size hroom
        rw [Nat.add_mul] at h7
        omega
      have hf := run_firstCells_some (P := Try.prog) w i0.size m.length ad m.length c (rowL enc m) hl hnews
      have hst := run_storeCells_at Try.prog g (off + l.length * i0.size) E (rowL enc m) 0 cur w h2 (by simpa using hfit) h1
      simp only [Nat.add_zero] at hst
      have hr : (Builtin.append_ #[T, T] ty #[.slice (some ⟨g, off, none⟩) l.length cap, .slice (some ad) m.length c]).run Try.prog w = .ok (.slice (some ⟨g, off, none⟩) (l.length + m.length) cap) (w.setRow g (cur.toList.take (off + l.length * i0.size) ++ rowL enc m ++ cur.toList.drop (off + l.length * i0.size + (rowL enc m).length)).toArray) := by
        simp [Builtin.append_, run_underlying hu, sizeOf, typeInfo, hi, Builtin.lenOf, hroom, hf, Addr.add_lit, hst]
      refine ⟨_, _, hr, ⟨Or.inr ⟨g, off, cap, _, by rw [List.length_append], setRow_heap w g cur _ E _ h2, by rw [List.length_append]; exact hroom, h4, ?_, ?_⟩⟩, ⟨rfl, rfl, rfl, by simp, fun b _ hb => setRow_other w g b _ (fun e => hb (by simp [Value.ownBlock, e]))⟩, Or.inl rfl⟩
      · simp only [List.size_toArray, List.length_append, List.length_take, List.length_drop, Array.length_toList]
        omega
      · have hC : off + l.length * i0.size ≤ cur.toList.length := by
          have e0 : cur.toList.length = cur.size := rfl
          omega
        have e1 : (cur.toList.take (off + l.length * i0.size)).drop off = rowL enc l := by
          rw [List.drop_take, Nat.add_sub_cancel_left, h6]
        have e2 : (cur.toList.take (off + l.length * i0.size)).length = off + l.length * i0.size := by rw [List.length_take]; omega
        rw [List.append_assoc, List.drop_append, e1, e2, show off - (off + l.length * i0.size) = 0 from by omega, List.drop_zero, ← List.append_assoc, ← rowL_append, ← rowL_length hk (l ++ m)]
        exact List.take_left
    · have holds : ∀ j u, (rowL enc l)[j]? = some u → w.cell? ((⟨g, off, none⟩ : Addr).add j) = some u := fun j u hu => by
        have hj : j < l.length * i0.size := by
          have := (List.getElem?_eq_some_iff.1 hu).1
          rw [rowL_length hk] at this
          exact this
        rw [Addr.add_mid, cell_of_row w g _ cur E (0, 0) h2]
        rw [← h6, List.getElem?_take_of_lt hj, List.getElem?_drop] at hu
        simpa using hu
      have hr := run_append_grow (P := Try.prog) w T ty E i0 z hu hi hz0 ⟨g, off, none⟩ l.length cap (rowL enc l) hlo holds ad m.length c (rowL enc m) hl hnews (by omega) (by omega) (growslice_fits (by omega) hb)
      have hge := grownCap_ge w (l.length + m.length) cap E
      have hcm : grownCap w (l.length + m.length) cap E ≤ maxLen := grownCap_le_maxLen w (l.length + m.length) cap E h63
      refine ⟨_, _, hr, ⟨Or.inr ⟨_, 0, _, _, by rw [List.length_append]; rfl, heap_alloc_new w.drew _, by rw [List.length_append]; exact hge, hcm, ?_, ?_⟩⟩, ⟨rfl, rfl, rfl, by simp, fun b hb _ => Below.heap_alloc w.drew _ b hb⟩, Or.inr rfl⟩
      · simp only [Array.size_append, List.size_toArray, size_zeroCells, hzs, hl, hlo, ← Nat.add_mul, Nat.zero_add]
        exact Nat.mul_le_mul_right _ (by omega)
      · simp only [Array.toList_append, List.drop_zero]
        rw [← rowL_append, ← rowL_length hk (l ++ m)]
        exact List.take_left
theorem wp_app_slidM {o : Oper} {a : Act} {K : Act → World → Prop} {Q : Exit → Act → World → Prop} (s x : Operand) (T : TypeId) (ho : o.op = .call { callee := .builtin .append, args := #[s, x], argTypes := #[T, T] }) (i0 : TypeInfo) (z : Value) (bytes : Nat) (hu : Try.prog.underlying T = some (.slice E)) (hi : Try.prog.info? E = some i0) (hz0 : i0.zero = some z) (hz1 : i0.size = k) (hz2 : i0.bytes = bytes) (hzs : z.cells.size = k)
    (hk : ∀ x, (enc x).length = k) (h1 : ∀ u ∈ rowL enc m, u.oneCell' = true) (hs : a.eval s = v) (h : Slid enc k E w v l) (ad : Addr) (n c : Nat) (hx : a.eval x = .slice (some ad) n c) (hn : n = m.length) (hnews : ∀ j u, (rowL enc m)[j]? = some u → w.cell? (ad.add j) = some u) (hm : 0 < m.length) (h63 : l.length + m.length ≤ maxLen) (hb : (l.length + m.length) * bytes ≤ 140737488355328)
    (hK : ∀ u w', Slid enc k E w' u (l ++ m) → w.grownBy w' v.ownBlock → (u.ownBlock = v.ownBlock ∨ u.ownBlock = some w.heap.size) → K (a.put o.dst u) w') : o.wp Try.prog a w K Q := by
  subst hn
  obtain ⟨u, w', hr, h2, h3, h4⟩ := h.appendM T o.type i0 z bytes hu hi hz0 hz1 hz2 hzs hk h1 ad c hnews hm h63 hb
  unfold Oper.wp execOp
  simp only [ho, resolve, invoke, builtin, Sem.run_bind, Sem.run_pure, Result.andThen_ok, List.map_toArray, List.map_cons, List.map_nil, hs, hx, hr]
  exact hK u w' h2 h3 h4
end
end Go.Proofs.Ythhlglbohibekaa
namespace Go.Proofs.Ythhlglbohibekaa
open Go.RowKit

abbrev Opx : Type := Int × Int × Int
def opC (x : Opx) : List Value := [.int .i64 x.1, .int .i64 x.2.1, .int .i64 x.2.2]
theorem opC_len (x : Opx) : (opC x).length = 3 := rfl
structure Tk where
  ops : List Opx
  pos : Nat
  bl : Bool
  runs : List Int
structure Ob where
  k : Int
  h : Int
  b : Bool
  l : List Int
  q : List Wt
def obNew (k : Int) : Ob := ⟨k, if k = 0 then -1 else if k = 3 then -1 else 0, false, [], []⟩
abbrev Tv : Type := Value × Value
def tkC (p : Tv × Tk) : List Value := [p.1.1, .int .i64 p.2.pos, .bool p.2.bl, p.1.2]
theorem tkC_len (x : Tv × Tk) : (tkC x).length = 4 := rfl
def ptrK (k : Int) (D : Nat) (j : Int) : Value := if k = j then .pointer (some ⟨D, 0, none⟩) else .pointer none
def obC (p : Nat × Int × Ob) : List Value := [.int .i64 p.2.2.k, .int .i64 p.2.1, ptrK p.2.2.k p.1 0, ptrK p.2.2.k p.1 1, ptrK p.2.2.k p.1 2, ptrK p.2.2.k p.1 3]
theorem obC_len (x : Nat × Int × Ob) : (obC x).length = 6 := rfl
structure ObAt (w : World) (base D : Nat) (S : Nat → Prop) (o : Ob) : Prop where
  mx : o.k = 0 → MxAt w base D S o.h o.l
  rw : o.k = 1 → RwAt w base D S o.l o.b o.q
  gr : o.k = 2 → GrAt w base D S o.h o.l ∧ 0 ≤ o.h ∧ o.h ≤ 1073741824
  on : o.k = 3 → OnAt w base D S o.h o.b o.l
  bd : ∀ b, S b → base ≤ b ∧ b < w.heap.size
  kk : 0 ≤ o.k ∧ o.k ≤ 3
theorem ObAt.keep {w w' : World} {base D : Nat} {S : Nat → Prop} {o : Ob} (h : ObAt w base D S o) (hs : w.heap.size ≤ w'.heap.size) (hk : ∀ b, S b → w'.heap[b]? = w.heap[b]?) : ObAt w' base D S o :=
  ⟨fun e => (h.mx e).keep hs hk, fun e => (h.rw e).keep hs hk, fun e => ⟨(h.gr e).1.keep hs hk, (h.gr e).2⟩, fun e => (h.on e).keep hs hk, fun b hb => ⟨(h.bd b hb).1, Nat.lt_of_lt_of_le (h.bd b hb).2 hs⟩, h.kk⟩
abbrev SkT : TypeId := 64
abbrev TkT : TypeId := 66
abbrev ObT : TypeId := 76
structure Mine {α : Type} (enc : α → List Value) (k : Nat) (E : TypeId) (w : World) (ro : Nat → Option Nat) (v : Value) (l : List α) : Prop where
  at' : Slid enc k E w v l
  own : ∀ g, v.ownBlock = some g → ro g = some 0
theorem Mine.keep {α : Type} {enc : α → List Value} {k : Nat} {E : TypeId} {w w' : World} {ro ro' : Nat → Option Nat} {v : Value} {l : List α} (h : Mine enc k E w ro v l) (hk : ∀ g cs fr, w.heap[g]? = some (.cells cs E fr) → ro g = some 0 → w'.heap[g]? = w.heap[g]? ∧ ro' g = some 0) : Mine enc k E w' ro' v l :=
  ⟨h.at'.keep (fun g hg => by
    obtain ⟨cur, hb⟩ := h.at'.block hg
    exact (hk g cur _ hb (h.own g hg)).1), fun g hg => by
    obtain ⟨cur, hb⟩ := h.at'.block hg
    exact (hk g cur _ hb (h.own g hg)).2⟩
structure SkAt (w : World) (base D : Nat) (ro : Nat → Option Nat) (vT vL : Value) (tv : List Tv) (od : List Nat) (T : List Tk) (L : List (Int × Ob)) : Prop where
  hd : w.heap[D]? = some (.cells #[vT, vL] SkT (0, 0))
  tl : tv.length = T.length
  ol : od.length = L.length
  ts : Mine tkC 4 TkT w ro vT (tv.zip T)
  os : Mine obC 6 ObT w ro vL (od.zip L)
  op : ∀ i (h : i < tv.length) (h' : i < T.length), Mine opC 3 45 w ro tv[i].1 T[i].ops
  ru : ∀ i (h : i < tv.length) (h' : i < T.length), Mine intC 1 3 w ro tv[i].2 T[i].runs
  ob : ∀ i (h : i < od.length) (h' : i < L.length), ObAt w base od[i] (fun b => ro b = some (i + 1)) L[i].2
  sD : ro D = some 0
  bd : ∀ b, ro b ≠ none → base ≤ b ∧ b < w.heap.size
  rb : ∀ b j, ro b = some j → j ≤ L.length
section
variable {w w' : World} {base D : Nat} {ro : Nat → Option Nat} {vT vL : Value} {tv : List Tv} {od : List Nat} {T : List Tk} {L : List (Int × Ob)}
theorem SkAt.keep (h : SkAt w base D ro vT vL tv od T L) (hs : w.heap.size ≤ w'.heap.size) (hk : ∀ b, ro b ≠ none → w'.heap[b]? = w.heap[b]?) : SkAt w' base D ro vT vL tv od T L := by
  have hm : ∀ {α : Type} {enc : α → List Value} {k : Nat} {E : TypeId} {v : Value} {l : List α}, Mine enc k E w ro v l → Mine enc k E w' ro v l := fun h => h.keep (fun g _ _ _ hr => ⟨hk g (by rw [hr]; simp), hr⟩)
  exact ⟨(hk D (by rw [h.sD]; simp)).trans h.hd, h.tl, h.ol, hm h.ts, hm h.os, fun i h1 h2 => hm (h.op i h1 h2), fun i h1 h2 => hm (h.ru i h1 h2), fun i h1 h2 => (h.ob i h1 h2).keep hs (fun b hb => hk b (by rw [hb]; simp)), h.sD, fun b hb => ⟨(h.bd b hb).1, Nat.lt_of_lt_of_le (h.bd b hb).2 hs⟩, h.rb⟩
theorem SkAt.fresh (h : SkAt w base D ro vT vL tv od T L) (k : Below w.heap.size w w') : SkAt w' base D ro vT vL tv od T L := h.keep k.size (fun b hb => k.block b (h.bd b hb).2)
theorem SkAt.cells (h : SkAt w base D ro vT vL tv od T L) : (∃ a cap, vT = .slice a T.length cap) ∧ (∃ a cap, vL = .slice a L.length cap) ∧ w.cell? ⟨D, 0, none⟩ = some vT ∧ w.cell? ⟨D, 1, none⟩ = some vL ∧ w.frozen? ⟨D, 0, none⟩ = false ∧ w.frozen? ⟨D, 1, none⟩ = false ∧ D < w.heap.size := by
  have e1 : (tv.zip T).length = T.length := by rw [List.length_zip, h.tl, Nat.min_self]
  have e2 : (od.zip L).length = L.length := by rw [List.length_zip, h.ol, Nat.min_self]
  obtain ⟨a, c, ea⟩ := h.ts.at'.form
  obtain ⟨b, d, eb⟩ := h.os.at'.form
  rw [e1] at ea
  rw [e2] at eb
  exact ⟨⟨a, c, ea⟩, ⟨b, d, eb⟩, by simp [World.cell?, h.hd], by simp [World.cell?, h.hd], by simp [World.frozen?, h.hd], by simp [World.frozen?, h.hd], lt_of_block h.hd⟩
theorem SkAt.task (h : SkAt w base D ro vT vL tv od T L) (i : Nat) (hi : i < T.length) : ∃ bT off cap ao co ar cr, vT = .slice (some ⟨bT, off, none⟩) T.length cap ∧ bT < w.heap.size ∧ w.cell? ⟨bT, off + i * 4, none⟩ = some (.slice ao T[i].ops.length co) ∧ w.cell? ⟨bT, off + i * 4 + 1, none⟩ = some (.int .i64 (T[i].pos : Int)) ∧ w.cell? ⟨bT, off + i * 4 + 2, none⟩ = some (.bool T[i].bl) ∧ w.cell? ⟨bT, off + i * 4 + 3, none⟩ = some (.slice ar T[i].runs.length cr) := by
  have e1 : (tv.zip T).length = T.length := by rw [List.length_zip, h.tl, Nat.min_self]
  have hit : i < tv.length := by rw [h.tl]; exact hi
  obtain ⟨bT, off, cap, ev, _, hb, hx⟩ := (h.ts.at'.row tkC_len).cells tkC_len (by omega)
  have hz : (tv.zip T)[i]'(by omega) = (tv[i], T[i]) := List.getElem_zip
  obtain ⟨ao, co, eo⟩ := (h.op i hit hi).at'.form
  obtain ⟨ar, cr, er⟩ := (h.ru i hit hi).at'.form
  have hc : ∀ c u, c < 4 → (tkC (tv[i], T[i]))[c]? = some u → w.cell? ⟨bT, off + i * 4 + c, none⟩ = some u := fun c u h1 h2 => hx i (by omega) c u h1 (by rw [hz]; exact h2)
  refine ⟨bT, off, cap, ao, co, ar, cr, by rw [ev, e1], hb, ?_, hc 1 _ (by decide) rfl, hc 2 _ (by decide) rfl, ?_⟩
  · rw [← eo]
    exact hc 0 _ (by decide) rfl
  · rw [← er]
    exact hc 3 _ (by decide) rfl
theorem SkAt.objc (h : SkAt w base D ro vT vL tv od T L) (i : Nat) (hi : i < L.length) (hio : i < od.length) : ∃ bL off cap, vL = .slice (some ⟨bL, off, none⟩) L.length cap ∧ bL < w.heap.size ∧ ∀ c u, c < 6 → (obC (od[i], L[i]))[c]? = some u → w.cell? ⟨bL, off + i * 6 + c, none⟩ = some u := by
  have e1 : (od.zip L).length = L.length := by rw [List.length_zip, h.ol, Nat.min_self]
  obtain ⟨bL, off, cap, ev, _, hb, hx⟩ := (h.os.at'.row obC_len).cells obC_len (by omega)
  have hz : (od.zip L)[i]'(by omega) = (od[i], L[i]) := List.getElem_zip
  exact ⟨bL, off, cap, by rw [ev, e1], hb, fun c u h1 h2 => hx i (by omega) c u h1 (by rw [hz]; exact h2)⟩
end
end Go.Proofs.Ythhlglbohibekaa
namespace Go.Proofs.Ythhlglbohibekaa
open Go.RowKit

def tkR (t : Tk) : Bool := !t.bl && decide (t.pos < t.ops.length)
def rdB (T : List Tk) (z : Int) : Bool := decide (0 ≤ z) && (match T[z.toNat]? with | some t => tkR t | none => false)
section
variable {w w' : World} {base D : Nat} {ro : Nat → Option Nat} {vT vL : Value} {tv : List Tv} {od : List Nat} {T : List Tk} {L : List (Int × Ob)}
set_option maxHeartbeats 6400000 in
set_option maxRecDepth 100000 in
theorem sk_ready (h : SkAt w base D ro vT vL tv od T L) (z : Int) : Calls Try.prog 33 #[.pointer (some ⟨D, 0, none⟩), .int .i64 z] w fun e w' => e = .returned (.bool (rdB T z)) ∧ Below w.heap.size w w' := by
  obtain ⟨⟨aT, cT, eT⟩, _, c0, c1, f0, f1, hD⟩ := h.cells
  by_cases h1 : z < 0
  · have e1 : rdB T z = false := by unfold rdB; rw [decide_eq_false (by omega), Bool.false_and]
    rw [e1]
    have q1 : decide (0 ≤ z) = false := decide_eq_false (by omega)
    clear h e1 eT c1
    go_enter Try.func33, Try.ntmps33
    go_wp2
    refine wp_region_held_drew (S := (fun w' : World => w'.cell? ⟨D, 0, none⟩ = some vT)) (by kernel_rfl) ?_ (fun hHeld0 => ?_)
    · try dsimp only
      go_keep
    refine tk0 (.int .i64 z) ?_
    try simp only [Act.put, pu1, pu2, pu3]
    refine tk1 (.bool false) ?_
    try simp only [Act.put, pu1, pu2, pu3]
    refine tk2 (.bool false) ?_
    try simp only [Act.put, pu1, pu2, pu3]
    refine sk3 ?_
    try simp only [Act.put, pu1, pu2, pu3]
    refine sk4 ?_
    try simp only [Act.put, pu1, pu2, pu3]
    refine sk5 ?_
    try simp only [Act.put, pu1, pu2, pu3]
    refine sk6 ?_
    try simp only [Act.put, pu1, pu2, pu3]
    refine sk7 ?_
    try simp only [Act.put, pu1, pu2, pu3]
    refine sk8 ?_
    try simp only [Act.put, pu1, pu2, pu3]
    refine sk9 ?_
    try simp only [Act.put, pu1, pu2, pu3]
    refine tk10 (.bool false) ?_
    try simp only [Act.put, pu1, pu2, pu3]
    refine tk11 (.bool false) ?_
    try simp only [Act.put, pu1, pu2, pu3]
    refine sk12 ?_
    try simp only [Act.put, pu1, pu2, pu3]
    refine sk13 ?_
    try simp only [Act.put, pu1, pu2, pu3]
    refine sk14 ?_
    try simp only [Act.put, pu1, pu2, pu3]
    refine sk15 ?_
    try simp only [Act.put, pu1, pu2, pu3]
    refine sk16 ?_
    try simp only [Act.put, pu1, pu2, pu3]
    refine sk17 ?_
    try simp only [Act.put, pu1, pu2, pu3]
    refine sk18 ?_
    try simp only [Act.put, pu1, pu2, pu3]
    refine sk19 ?_
    try simp only [Act.put, pu1, pu2, pu3]
    refine sk20 ?_
    try simp only [Act.put, pu1, pu2, pu3]
    refine tk21 (.bool false) ?_
    try simp only [Act.put, pu1, pu2, pu3]
    refine tk22 (.bool false) ?_
    try simp only [Act.put, pu1, pu2, pu3]
    refine sk23 ?_
    try simp only [Act.put, pu1, pu2, pu3]
    refine sk24 ?_
    try simp only [Act.put, pu1, pu2, pu3]
    refine sk25 ?_
    try simp only [Act.put, pu1, pu2, pu3]
    refine sk26 ?_
    try simp only [Act.put, pu1, pu2, pu3]
    refine sk27 ?_
    try simp only [Act.put, pu1, pu2, pu3]
    refine sk28 ?_
    try simp only [Act.put, pu1, pu2, pu3]
    refine sk29 ?_
    try simp only [Act.put, pu1, pu2, pu3]
    refine sk30 ?_
    try simp only [Act.put, pu1, pu2, pu3]
    refine sk31 ?_
    try simp only [Act.put, pu1, pu2, pu3]
    refine sk32 ?_
    try simp only [Act.put, pu1, pu2, pu3]
    refine sk33 ?_
    try simp only [Act.put, pu1, pu2, pu3]
    refine sk34 ?_
    try simp only [Act.put, pu1, pu2, pu3]
    refine sk35 ?_
    try simp only [Act.put, pu1, pu2, pu3]
    refine sk36 ?_
    try simp only [Act.put, pu1, pu2, pu3]
    refine sk37 ?_
    try simp only [Act.put, pu1, pu2, pu3]
    refine sk38 ?_
    try simp only [Act.put, pu1, pu2, pu3]
    refine sk39 ?_
    try simp only [Act.put, pu1, pu2, pu3]
    refine sk40 ?_
    try simp only [Act.put, pu1, pu2, pu3]
    refine tk41 (.bool false) ?_
    try simp only [Act.put, pu1, pu2, pu3]
    refine tk42 (.bool false) ?_
    try simp only [Act.put, pu1, pu2, pu3]
    refine wpAnyH_done (by kernel_rfl) ?_ _
    go_wp2
    go_ret
    exact ⟨rfl, undrB2 (Below.refl _ _)⟩
  by_cases h2 : (T.length : Int) ≤ z
  · have e1 : rdB T z = false := by
      unfold rdB
      rw [List.getElem?_eq_none (by omega), Bool.and_false]
    rw [e1]
    have q1 : decide (0 ≤ z) = true := decide_eq_true (by omega)
    have q2 : decide (z < (T.length : Int)) = false := decide_eq_false (by omega)
    subst eT
    clear h e1 c1
    go_enter Try.func33, Try.ntmps33
    go_wp2
    refine wp_region_held_drew (S := (fun w' : World => w'.cell? ⟨D, 0, none⟩ = some (.slice aT T.length cT))) (by kernel_rfl) ?_ (fun hHeld0 => ?_)
    · try dsimp only
      go_keep
    refine tk0 (.int .i64 z) ?_
    try simp only [Act.put, pu1, pu2, pu3]
    refine tk1 (.bool true) ?_
    try simp only [Act.put, pu1, pu2, pu3]
    refine tk2 (.bool true) ?_
    try simp only [Act.put, pu1, pu2, pu3]
    refine tk3 (.int .i64 z) ?_
    try simp only [Act.put, pu1, pu2, pu3]
    refine tk4 (.pointer (some ⟨D, 0, none⟩)) ?_
    try simp only [Act.put, pu1, pu2, pu3]
    refine tk5 (.pointer (some ⟨D, 0, none⟩)) ?_
    try simp only [Act.put, pu1, pu2, pu3]
    refine tk6 (.pointer (some ⟨D, 0, none⟩)) ?_
    try simp only [Act.put, pu1, pu2, pu3]
    refine tk7 (.slice aT T.length cT) ?_
    try simp only [Act.put, pu1, pu2, pu3]
    refine tk8 (.int .i64 (T.length : Int)) ?_
    try simp only [Act.put, pu1, pu2, pu3]
    refine tk9 (.bool false) ?_
    try simp only [Act.put, pu1, pu2, pu3]
    refine tk10 (.bool false) ?_
    try simp only [Act.put, pu1, pu2, pu3]
    refine tk11 (.bool false) ?_
    try simp only [Act.put, pu1, pu2, pu3]
    refine sk12 ?_
    try simp only [Act.put, pu1, pu2, pu3]
    refine sk13 ?_
    try simp only [Act.put, pu1, pu2, pu3]
    refine sk14 ?_
    try simp only [Act.put, pu1, pu2, pu3]
    refine sk15 ?_
    try simp only [Act.put, pu1, pu2, pu3]
    refine sk16 ?_
    try simp only [Act.put, pu1, pu2, pu3]
    refine sk17 ?_
    try simp only [Act.put, pu1, pu2, pu3]
    refine sk18 ?_
    try simp only [Act.put, pu1, pu2, pu3]
    refine sk19 ?_
    try simp only [Act.put, pu1, pu2, pu3]
    refine sk20 ?_
    try simp only [Act.put, pu1, pu2, pu3]
    refine tk21 (.bool false) ?_
    try simp only [Act.put, pu1, pu2, pu3]
    refine tk22 (.bool false) ?_
    try simp only [Act.put, pu1, pu2, pu3]
    refine sk23 ?_
    try simp only [Act.put, pu1, pu2, pu3]
    refine sk24 ?_
    try simp only [Act.put, pu1, pu2, pu3]
    refine sk25 ?_
    try simp only [Act.put, pu1, pu2, pu3]
    refine sk26 ?_
    try simp only [Act.put, pu1, pu2, pu3]
    refine sk27 ?_
    try simp only [Act.put, pu1, pu2, pu3]
    refine sk28 ?_
    try simp only [Act.put, pu1, pu2, pu3]
    refine sk29 ?_
    try simp only [Act.put, pu1, pu2, pu3]
    refine sk30 ?_
    try simp only [Act.put, pu1, pu2, pu3]
    refine sk31 ?_
    try simp only [Act.put, pu1, pu2, pu3]
    refine sk32 ?_
    try simp only [Act.put, pu1, pu2, pu3]
    refine sk33 ?_
    try simp only [Act.put, pu1, pu2, pu3]
    refine sk34 ?_
    try simp only [Act.put, pu1, pu2, pu3]
    refine sk35 ?_
    try simp only [Act.put, pu1, pu2, pu3]
    refine sk36 ?_
    try simp only [Act.put, pu1, pu2, pu3]
    refine sk37 ?_
    try simp only [Act.put, pu1, pu2, pu3]
    refine sk38 ?_
    try simp only [Act.put, pu1, pu2, pu3]
    refine sk39 ?_
    try simp only [Act.put, pu1, pu2, pu3]
    refine sk40 ?_
    try simp only [Act.put, pu1, pu2, pu3]
    refine tk41 (.bool false) ?_
    try simp only [Act.put, pu1, pu2, pu3]
    refine tk42 (.bool false) ?_
    try simp only [Act.put, pu1, pu2, pu3]
    refine wpAnyH_done (by kernel_rfl) ?_ _
    go_wp2
    go_ret
    exact ⟨rfl, undrB2 (Below.refl _ _)⟩
  obtain ⟨k, rfl⟩ : ∃ k : Nat, z = (k : Int) := ⟨z.toNat, by omega⟩
  have hk : k < T.length := by omega
  obtain ⟨bT, off, cap, ao, co, ar, cr, e, hb, z0, z1, z2, z3⟩ := h.task k hk
  have e1 : rdB T (k : Int) = tkR T[k] := by
    unfold rdB
    rw [decide_eq_true (by omega), Bool.true_and, Int.toNat_natCast, List.getElem?_eq_getElem hk]
  rw [e1]
  unfold tkR
  have q1 : decide (0 ≤ (k : Int)) = true := decide_eq_true (by omega)
  have q2 : decide ((k : Int) < (T.length : Int)) = true := decide_eq_true (by omega)
  rw [e] at c0
  clear h e1 eT c1 h1 h2 e z3
  generalize T[k] = t at *
  obtain ⟨ops, tp, bl, runs⟩ := t
  simp only at z0 z1 z2 ⊢
  generalize ops.length = to at *
  cases bl with
  | true =>
    go_enter Try.func33, Try.ntmps33
    go_wp2
    refine wp_region_held_drew (S := (fun w' : World => w'.cell? ⟨D, 0, none⟩ = some (.slice (some ⟨bT, off, none⟩) T.length cap) ∧ w'.cell? ⟨bT, off + k * 4, none⟩ = some (.slice ao to co) ∧ w'.cell? ⟨bT, off + k * 4 + 1, none⟩ = some (.int .i64 (tp : Int)) ∧ w'.cell? ⟨bT, off + k * 4 + 2, none⟩ = some (.bool true))) (by kernel_rfl) ?_ (fun hHeld0 => ?_)
    · try dsimp only
      go_keep
    refine tk0 (.int .i64 (k : Int)) ?_ (fun w hSw => by (try dsimp only at hSw); obtain ⟨q0, q1, q2, q3⟩ := hSw; go_simp)
    try simp only [Act.put, pu1, pu2, pu3]
    refine tk1 (.bool true) ?_ (fun w hSw => by (try dsimp only at hSw); obtain ⟨q0, q1, q2, q3⟩ := hSw; go_simp)
    try simp only [Act.put, pu1, pu2, pu3]
    refine tk2 (.bool true) ?_ (fun w hSw => by (try dsimp only at hSw); obtain ⟨q0, q1, q2, q3⟩ := hSw; go_simp)
    try simp only [Act.put, pu1, pu2, pu3]
    refine tk3 (.int .i64 (k : Int)) ?_ (fun w hSw => by (try dsimp only at hSw); obtain ⟨q0, q1, q2, q3⟩ := hSw; go_simp)
    try simp only [Act.put, pu1, pu2, pu3]
    refine tk4 (.pointer (some ⟨D, 0, none⟩)) ?_ (fun w hSw => by (try dsimp only at hSw); obtain ⟨q0, q1, q2, q3⟩ := hSw; go_simp)
    try simp only [Act.put, pu1, pu2, pu3]
    refine tk5 (.pointer (some ⟨D, 0, none⟩)) ?_ (fun w hSw => by (try dsimp only at hSw); obtain ⟨q0, q1, q2, q3⟩ := hSw; go_simp)
    try simp only [Act.put, pu1, pu2, pu3]
    refine tk6 (.pointer (some ⟨D, 0, none⟩)) ?_ (fun w hSw => by (try dsimp only at hSw); obtain ⟨q0, q1, q2, q3⟩ := hSw; go_simp)
    try simp only [Act.put, pu1, pu2, pu3]
    refine tk7 (.slice (some ⟨bT, off, none⟩) T.length cap) ?_ (fun w hSw => by (try dsimp only at hSw); obtain ⟨q0, q1, q2, q3⟩ := hSw; go_simp)
    try simp only [Act.put, pu1, pu2, pu3]
    refine tk8 (.int .i64 (T.length : Int)) ?_ (fun w hSw => by (try dsimp only at hSw); obtain ⟨q0, q1, q2, q3⟩ := hSw; go_simp)
    try simp only [Act.put, pu1, pu2, pu3]
    refine tk9 (.bool true) ?_ (fun w hSw => by (try dsimp only at hSw); obtain ⟨q0, q1, q2, q3⟩ := hSw; go_simp)
    try simp only [Act.put, pu1, pu2, pu3]
    refine tk10 (.bool true) ?_ (fun w hSw => by (try dsimp only at hSw); obtain ⟨q0, q1, q2, q3⟩ := hSw; go_simp)
    try simp only [Act.put, pu1, pu2, pu3]
    refine tk11 (.bool true) ?_ (fun w hSw => by (try dsimp only at hSw); obtain ⟨q0, q1, q2, q3⟩ := hSw; go_simp)
    try simp only [Act.put, pu1, pu2, pu3]
    refine tk12 (.pointer (some ⟨D, 0, none⟩)) ?_ (fun w hSw => by (try dsimp only at hSw); obtain ⟨q0, q1, q2, q3⟩ := hSw; go_simp)
    try simp only [Act.put, pu1, pu2, pu3]
    refine tk13 (.pointer (some ⟨D, 0, none⟩)) ?_ (fun w hSw => by (try dsimp only at hSw); obtain ⟨q0, q1, q2, q3⟩ := hSw; go_simp)
    try simp only [Act.put, pu1, pu2, pu3]
    refine tk14 (.pointer (some ⟨D, 0, none⟩)) ?_ (fun w hSw => by (try dsimp only at hSw); obtain ⟨q0, q1, q2, q3⟩ := hSw; go_simp)
    try simp only [Act.put, pu1, pu2, pu3]
    refine tk15 (.slice (some ⟨bT, off, none⟩) T.length cap) ?_ (fun w hSw => by (try dsimp only at hSw); obtain ⟨q0, q1, q2, q3⟩ := hSw; go_simp)
    try simp only [Act.put, pu1, pu2, pu3]
    refine tk16 (.int .i64 (k : Int)) ?_ (fun w hSw => by (try dsimp only at hSw); obtain ⟨q0, q1, q2, q3⟩ := hSw; go_simp)
    try simp only [Act.put, pu1, pu2, pu3]
    refine tk17 (.pointer (some ⟨bT, off + k * 4, none⟩)) ?_ (fun w hSw => by (try dsimp only at hSw); obtain ⟨q0, q1, q2, q3⟩ := hSw; go_simp)
    try simp only [Act.put, pu1, pu2, pu3]
    refine tk18 (.pointer (some ⟨bT, off + k * 4 + 2, none⟩)) ?_ (fun w hSw => by (try dsimp only at hSw); obtain ⟨q0, q1, q2, q3⟩ := hSw; go_simp)
    try simp only [Act.put, pu1, pu2, pu3]
    refine tk19 (.bool true) ?_ (fun w hSw => by (try dsimp only at hSw); obtain ⟨q0, q1, q2, q3⟩ := hSw; go_simp)
    try simp only [Act.put, pu1, pu2, pu3]
    refine tk20 (.bool false) ?_ (fun w hSw => by (try dsimp only at hSw); obtain ⟨q0, q1, q2, q3⟩ := hSw; go_simp)
    try simp only [Act.put, pu1, pu2, pu3]
    refine tk21 (.bool false) ?_ (fun w hSw => by (try dsimp only at hSw); obtain ⟨q0, q1, q2, q3⟩ := hSw; go_simp)
    try simp only [Act.put, pu1, pu2, pu3]
    refine tk22 (.bool false) ?_ (fun w hSw => by (try dsimp only at hSw); obtain ⟨q0, q1, q2, q3⟩ := hSw; go_simp)
    try simp only [Act.put, pu1, pu2, pu3]
    refine sk23 ?_
    try simp only [Act.put, pu1, pu2, pu3]
    refine sk24 ?_
    try simp only [Act.put, pu1, pu2, pu3]
    refine sk25 ?_
    try simp only [Act.put, pu1, pu2, pu3]
    refine sk26 ?_
    try simp only [Act.put, pu1, pu2, pu3]
    refine sk27 ?_
    try simp only [Act.put, pu1, pu2, pu3]
    refine sk28 ?_
    try simp only [Act.put, pu1, pu2, pu3]
    refine sk29 ?_
    try simp only [Act.put, pu1, pu2, pu3]
    refine sk30 ?_
    try simp only [Act.put, pu1, pu2, pu3]
    refine sk31 ?_
    try simp only [Act.put, pu1, pu2, pu3]
    refine sk32 ?_
    try simp only [Act.put, pu1, pu2, pu3]
    refine sk33 ?_
    try simp only [Act.put, pu1, pu2, pu3]
    refine sk34 ?_
    try simp only [Act.put, pu1, pu2, pu3]
    refine sk35 ?_
    try simp only [Act.put, pu1, pu2, pu3]
    refine sk36 ?_
    try simp only [Act.put, pu1, pu2, pu3]
    refine sk37 ?_
    try simp only [Act.put, pu1, pu2, pu3]
    refine sk38 ?_
    try simp only [Act.put, pu1, pu2, pu3]
    refine sk39 ?_
    try simp only [Act.put, pu1, pu2, pu3]
    refine sk40 ?_
    try simp only [Act.put, pu1, pu2, pu3]
    refine tk41 (.bool false) ?_ (fun w hSw => by (try dsimp only at hSw); obtain ⟨q0, q1, q2, q3⟩ := hSw; go_simp)
    try simp only [Act.put, pu1, pu2, pu3]
    refine tk42 (.bool false) ?_ (fun w hSw => by (try dsimp only at hSw); obtain ⟨q0, q1, q2, q3⟩ := hSw; go_simp)
    try simp only [Act.put, pu1, pu2, pu3]
    refine wpAnyH_done (by kernel_rfl) ?_ _
    go_wp2
    go_ret
    exact ⟨rfl, undrB2 (Below.refl _ _)⟩
  | false =>
    by_cases h3 : tp < to
    · rw [decide_eq_true h3]
      have q3 : decide ((tp : Int) < (to : Int)) = true := decide_eq_true (by omega)
      go_enter Try.func33, Try.ntmps33
      go_wp2
      refine wp_region_held_drew (S := (fun w' : World => w'.cell? ⟨D, 0, none⟩ = some (.slice (some ⟨bT, off, none⟩) T.length cap) ∧ w'.cell? ⟨bT, off + k * 4, none⟩ = some (.slice ao to co) ∧ w'.cell? ⟨bT, off + k * 4 + 1, none⟩ = some (.int .i64 (tp : Int)) ∧ w'.cell? ⟨bT, off + k * 4 + 2, none⟩ = some (.bool false))) (by kernel_rfl) ?_ (fun hHeld0 => ?_)
      · try dsimp only
        go_keep
      refine tk0 (.int .i64 (k : Int)) ?_ (fun w hSw => by (try dsimp only at hSw); obtain ⟨q0, q1, q2, q3⟩ := hSw; go_simp)
      try simp only [Act.put, pu1, pu2, pu3]
      refine tk1 (.bool true) ?_ (fun w hSw => by (try dsimp only at hSw); obtain ⟨q0, q1, q2, q3⟩ := hSw; go_simp)
      try simp only [Act.put, pu1, pu2, pu3]
      refine tk2 (.bool true) ?_ (fun w hSw => by (try dsimp only at hSw); obtain ⟨q0, q1, q2, q3⟩ := hSw; go_simp)
      try simp only [Act.put, pu1, pu2, pu3]
      refine tk3 (.int .i64 (k : Int)) ?_ (fun w hSw => by (try dsimp only at hSw); obtain ⟨q0, q1, q2, q3⟩ := hSw; go_simp)
      try simp only [Act.put, pu1, pu2, pu3]
      refine tk4 (.pointer (some ⟨D, 0, none⟩)) ?_ (fun w hSw => by (try dsimp only at hSw); obtain ⟨q0, q1, q2, q3⟩ := hSw; go_simp)
      try simp only [Act.put, pu1, pu2, pu3]
      refine tk5 (.pointer (some ⟨D, 0, none⟩)) ?_ (fun w hSw => by (try dsimp only at hSw); obtain ⟨q0, q1, q2, q3⟩ := hSw; go_simp)
      try simp only [Act.put, pu1, pu2, pu3]
      refine tk6 (.pointer (some ⟨D, 0, none⟩)) ?_ (fun w hSw => by (try dsimp only at hSw); obtain ⟨q0, q1, q2, q3⟩ := hSw; go_simp)
      try simp only [Act.put, pu1, pu2, pu3]
      refine tk7 (.slice (some ⟨bT, off, none⟩) T.length cap) ?_ (fun w hSw => by (try dsimp only at hSw); obtain ⟨q0, q1, q2, q3⟩ := hSw; go_simp)
      try simp only [Act.put, pu1, pu2, pu3]
      refine tk8 (.int .i64 (T.length : Int)) ?_ (fun w hSw => by (try dsimp only at hSw); obtain ⟨q0, q1, q2, q3⟩ := hSw; go_simp)
      try simp only [Act.put, pu1, pu2, pu3]
      refine tk9 (.bool true) ?_ (fun w hSw => by (try dsimp only at hSw); obtain ⟨q0, q1, q2, q3⟩ := hSw; go_simp)
      try simp only [Act.put, pu1, pu2, pu3]
      refine tk10 (.bool true) ?_ (fun w hSw => by (try dsimp only at hSw); obtain ⟨q0, q1, q2, q3⟩ := hSw; go_simp)
      try simp only [Act.put, pu1, pu2, pu3]
      refine tk11 (.bool true) ?_ (fun w hSw => by (try dsimp only at hSw); obtain ⟨q0, q1, q2, q3⟩ := hSw; go_simp)
      try simp only [Act.put, pu1, pu2, pu3]
      refine tk12 (.pointer (some ⟨D, 0, none⟩)) ?_ (fun w hSw => by (try dsimp only at hSw); obtain ⟨q0, q1, q2, q3⟩ := hSw; go_simp)
      try simp only [Act.put, pu1, pu2, pu3]
      refine tk13 (.pointer (some ⟨D, 0, none⟩)) ?_ (fun w hSw => by (try dsimp only at hSw); obtain ⟨q0, q1, q2, q3⟩ := hSw; go_simp)
      try simp only [Act.put, pu1, pu2, pu3]
      refine tk14 (.pointer (some ⟨D, 0, none⟩)) ?_ (fun w hSw => by (try dsimp only at hSw); obtain ⟨q0, q1, q2, q3⟩ := hSw; go_simp)
      try simp only [Act.put, pu1, pu2, pu3]
      refine tk15 (.slice (some ⟨bT, off, none⟩) T.length cap) ?_ (fun w hSw => by (try dsimp only at hSw); obtain ⟨q0, q1, q2, q3⟩ := hSw; go_simp)
      try simp only [Act.put, pu1, pu2, pu3]
      refine tk16 (.int .i64 (k : Int)) ?_ (fun w hSw => by (try dsimp only at hSw); obtain ⟨q0, q1, q2, q3⟩ := hSw; go_simp)
      try simp only [Act.put, pu1, pu2, pu3]
      refine tk17 (.pointer (some ⟨bT, off + k * 4, none⟩)) ?_ (fun w hSw => by (try dsimp only at hSw); obtain ⟨q0, q1, q2, q3⟩ := hSw; go_simp)
      try simp only [Act.put, pu1, pu2, pu3]
      refine tk18 (.pointer (some ⟨bT, off + k * 4 + 2, none⟩)) ?_ (fun w hSw => by (try dsimp only at hSw); obtain ⟨q0, q1, q2, q3⟩ := hSw; go_simp)
      try simp only [Act.put, pu1, pu2, pu3]
      refine tk19 (.bool false) ?_ (fun w hSw => by (try dsimp only at hSw); obtain ⟨q0, q1, q2, q3⟩ := hSw; go_simp)
      try simp only [Act.put, pu1, pu2, pu3]
      refine tk20 (.bool true) ?_ (fun w hSw => by (try dsimp only at hSw); obtain ⟨q0, q1, q2, q3⟩ := hSw; go_simp)
      try simp only [Act.put, pu1, pu2, pu3]
      refine tk21 (.bool true) ?_ (fun w hSw => by (try dsimp only at hSw); obtain ⟨q0, q1, q2, q3⟩ := hSw; go_simp)
      try simp only [Act.put, pu1, pu2, pu3]
      refine tk22 (.bool true) ?_ (fun w hSw => by (try dsimp only at hSw); obtain ⟨q0, q1, q2, q3⟩ := hSw; go_simp)
      try simp only [Act.put, pu1, pu2, pu3]
      refine tk23 (.pointer (some ⟨D, 0, none⟩)) ?_ (fun w hSw => by (try dsimp only at hSw); obtain ⟨q0, q1, q2, q3⟩ := hSw; go_simp)
      try simp only [Act.put, pu1, pu2, pu3]
      refine tk24 (.pointer (some ⟨D, 0, none⟩)) ?_ (fun w hSw => by (try dsimp only at hSw); obtain ⟨q0, q1, q2, q3⟩ := hSw; go_simp)
      try simp only [Act.put, pu1, pu2, pu3]
      refine tk25 (.pointer (some ⟨D, 0, none⟩)) ?_ (fun w hSw => by (try dsimp only at hSw); obtain ⟨q0, q1, q2, q3⟩ := hSw; go_simp)
      try simp only [Act.put, pu1, pu2, pu3]
      refine tk26 (.slice (some ⟨bT, off, none⟩) T.length cap) ?_ (fun w hSw => by (try dsimp only at hSw); obtain ⟨q0, q1, q2, q3⟩ := hSw; go_simp)
      try simp only [Act.put, pu1, pu2, pu3]
      refine tk27 (.int .i64 (k : Int)) ?_ (fun w hSw => by (try dsimp only at hSw); obtain ⟨q0, q1, q2, q3⟩ := hSw; go_simp)
      try simp only [Act.put, pu1, pu2, pu3]
      refine tk28 (.pointer (some ⟨bT, off + k * 4, none⟩)) ?_ (fun w hSw => by (try dsimp only at hSw); obtain ⟨q0, q1, q2, q3⟩ := hSw; go_simp)
      try simp only [Act.put, pu1, pu2, pu3]
      refine tk29 (.pointer (some ⟨bT, off + k * 4 + 1, none⟩)) ?_ (fun w hSw => by (try dsimp only at hSw); obtain ⟨q0, q1, q2, q3⟩ := hSw; go_simp)
      try simp only [Act.put, pu1, pu2, pu3]
      refine tk30 (.int .i64 (tp : Int)) ?_ (fun w hSw => by (try dsimp only at hSw); obtain ⟨q0, q1, q2, q3⟩ := hSw; go_simp)
      try simp only [Act.put, pu1, pu2, pu3]
      refine tk31 (.pointer (some ⟨D, 0, none⟩)) ?_ (fun w hSw => by (try dsimp only at hSw); obtain ⟨q0, q1, q2, q3⟩ := hSw; go_simp)
      try simp only [Act.put, pu1, pu2, pu3]
      refine tk32 (.pointer (some ⟨D, 0, none⟩)) ?_ (fun w hSw => by (try dsimp only at hSw); obtain ⟨q0, q1, q2, q3⟩ := hSw; go_simp)
      try simp only [Act.put, pu1, pu2, pu3]
      refine tk33 (.pointer (some ⟨D, 0, none⟩)) ?_ (fun w hSw => by (try dsimp only at hSw); obtain ⟨q0, q1, q2, q3⟩ := hSw; go_simp)
      try simp only [Act.put, pu1, pu2, pu3]
      refine tk34 (.slice (some ⟨bT, off, none⟩) T.length cap) ?_ (fun w hSw => by (try dsimp only at hSw); obtain ⟨q0, q1, q2, q3⟩ := hSw; go_simp)
      try simp only [Act.put, pu1, pu2, pu3]
      refine tk35 (.int .i64 (k : Int)) ?_ (fun w hSw => by (try dsimp only at hSw); obtain ⟨q0, q1, q2, q3⟩ := hSw; go_simp)
      try simp only [Act.put, pu1, pu2, pu3]
      refine tk36 (.pointer (some ⟨bT, off + k * 4, none⟩)) ?_ (fun w hSw => by (try dsimp only at hSw); obtain ⟨q0, q1, q2, q3⟩ := hSw; go_simp)
      try simp only [Act.put, pu1, pu2, pu3]
      refine tk37 (.pointer (some ⟨bT, off + k * 4, none⟩)) ?_ (fun w hSw => by (try dsimp only at hSw); obtain ⟨q0, q1, q2, q3⟩ := hSw; go_simp)
      try simp only [Act.put, pu1, pu2, pu3]
      refine tk38 (.slice ao to co) ?_ (fun w hSw => by (try dsimp only at hSw); obtain ⟨q0, q1, q2, q3⟩ := hSw; go_simp)
      try simp only [Act.put, pu1, pu2, pu3]
      refine tk39 (.int .i64 (to : Int)) ?_ (fun w hSw => by (try dsimp only at hSw); obtain ⟨q0, q1, q2, q3⟩ := hSw; go_simp)
      try simp only [Act.put, pu1, pu2, pu3]
      refine tk40 (.bool true) ?_ (fun w hSw => by (try dsimp only at hSw); obtain ⟨q0, q1, q2, q3⟩ := hSw; go_simp)
      try simp only [Act.put, pu1, pu2, pu3]
      refine tk41 (.bool true) ?_ (fun w hSw => by (try dsimp only at hSw); obtain ⟨q0, q1, q2, q3⟩ := hSw; go_simp)
      try simp only [Act.put, pu1, pu2, pu3]
      refine tk42 (.bool true) ?_ (fun w hSw => by (try dsimp only at hSw); obtain ⟨q0, q1, q2, q3⟩ := hSw; go_simp)
      try simp only [Act.put, pu1, pu2, pu3]
      refine wpAnyH_done (by kernel_rfl) ?_ _
      go_wp2
      go_ret
      exact ⟨rfl, undrB2 (Below.refl _ _)⟩
    · rw [decide_eq_false h3]
      have q3 : decide ((tp : Int) < (to : Int)) = false := decide_eq_false (by omega)
      go_enter Try.func33, Try.ntmps33
      go_wp2
      refine wp_region_held_drew (S := (fun w' : World => w'.cell? ⟨D, 0, none⟩ = some (.slice (some ⟨bT, off, none⟩) T.length cap) ∧ w'.cell? ⟨bT, off + k * 4, none⟩ = some (.slice ao to co) ∧ w'.cell? ⟨bT, off + k * 4 + 1, none⟩ = some (.int .i64 (tp : Int)) ∧ w'.cell? ⟨bT, off + k * 4 + 2, none⟩ = some (.bool false))) (by kernel_rfl) ?_ (fun hHeld0 => ?_)
      · try dsimp only
        go_keep
      refine tk0 (.int .i64 (k : Int)) ?_ (fun w hSw => by (try dsimp only at hSw); obtain ⟨q0, q1, q2, q3⟩ := hSw; go_simp)
      try simp only [Act.put, pu1, pu2, pu3]
      refine tk1 (.bool true) ?_ (fun w hSw => by (try dsimp only at hSw); obtain ⟨q0, q1, q2, q3⟩ := hSw; go_simp)
      try simp only [Act.put, pu1, pu2, pu3]
      refine tk2 (.bool true) ?_ (fun w hSw => by (try dsimp only at hSw); obtain ⟨q0, q1, q2, q3⟩ := hSw; go_simp)
      try simp only [Act.put, pu1, pu2, pu3]
      refine tk3 (.int .i64 (k : Int)) ?_ (fun w hSw => by (try dsimp only at hSw); obtain ⟨q0, q1, q2, q3⟩ := hSw; go_simp)
      try simp only [Act.put, pu1, pu2, pu3]
      refine tk4 (.pointer (some ⟨D, 0, none⟩)) ?_ (fun w hSw => by (try dsimp only at hSw); obtain ⟨q0, q1, q2, q3⟩ := hSw; go_simp)
      try simp only [Act.put, pu1, pu2, pu3]
      refine tk5 (.pointer (some ⟨D, 0, none⟩)) ?_ (fun w hSw => by (try dsimp only at hSw); obtain ⟨q0, q1, q2, q3⟩ := hSw; go_simp)
      try simp only [Act.put, pu1, pu2, pu3]
      refine tk6 (.pointer (some ⟨D, 0, none⟩)) ?_ (fun w hSw => by (try dsimp only at hSw); obtain ⟨q0, q1, q2, q3⟩ := hSw; go_simp)
      try simp only [Act.put, pu1, pu2, pu3]
      refine tk7 (.slice (some ⟨bT, off, none⟩) T.length cap) ?_ (fun w hSw => by (try dsimp only at hSw); obtain ⟨q0, q1, q2, q3⟩ := hSw; go_simp)
      try simp only [Act.put, pu1, pu2, pu3]
      refine tk8 (.int .i64 (T.length : Int)) ?_ (fun w hSw => by (try dsimp only at hSw); obtain ⟨q0, q1, q2, q3⟩ := hSw; go_simp)
      try simp only [Act.put, pu1, pu2, pu3]
      refine tk9 (.bool true) ?_ (fun w hSw => by (try dsimp only at hSw); obtain ⟨q0, q1, q2, q3⟩ := hSw; go_simp)
      try simp only [Act.put, pu1, pu2, pu3]
      refine tk10 (.bool true) ?_ (fun w hSw => by (try dsimp only at hSw); obtain ⟨q0, q1, q2, q3⟩ := hSw; go_simp)
      try simp only [Act.put, pu1, pu2, pu3]
      refine tk11 (.bool true) ?_ (fun w hSw => by (try dsimp only at hSw); obtain ⟨q0, q1, q2, q3⟩ := hSw; go_simp)
      try simp only [Act.put, pu1, pu2, pu3]
      refine tk12 (.pointer (some ⟨D, 0, none⟩)) ?_ (fun w hSw => by (try dsimp only at hSw); obtain ⟨q0, q1, q2, q3⟩ := hSw; go_simp)
      try simp only [Act.put, pu1, pu2, pu3]
      refine tk13 (.pointer (some ⟨D, 0, none⟩)) ?_ (fun w hSw => by (try dsimp only at hSw); obtain ⟨q0, q1, q2, q3⟩ := hSw; go_simp)
      try simp only [Act.put, pu1, pu2, pu3]
      refine tk14 (.pointer (some ⟨D, 0, none⟩)) ?_ (fun w hSw => by (try dsimp only at hSw); obtain ⟨q0, q1, q2, q3⟩ := hSw; go_simp)
      try simp only [Act.put, pu1, pu2, pu3]
      refine tk15 (.slice (some ⟨bT, off, none⟩) T.length cap) ?_ (fun w hSw => by (try dsimp only at hSw); obtain ⟨q0, q1, q2, q3⟩ := hSw; go_simp)
      try simp only [Act.put, pu1, pu2, pu3]
      refine tk16 (.int .i64 (k : Int)) ?_ (fun w hSw => by (try dsimp only at hSw); obtain ⟨q0, q1, q2, q3⟩ := hSw; go_simp)
      try simp only [Act.put, pu1, pu2, pu3]
      refine tk17 (.pointer (some ⟨bT, off + k * 4, none⟩)) ?_ (fun w hSw => by (try dsimp only at hSw); obtain ⟨q0, q1, q2, q3⟩ := hSw; go_simp)
      try simp only [Act.put, pu1, pu2, pu3]
      refine tk18 (.pointer (some ⟨bT, off + k * 4 + 2, none⟩)) ?_ (fun w hSw => by (try dsimp only at hSw); obtain ⟨q0, q1, q2, q3⟩ := hSw; go_simp)
      try simp only [Act.put, pu1, pu2, pu3]
      refine tk19 (.bool false) ?_ (fun w hSw => by (try dsimp only at hSw); obtain ⟨q0, q1, q2, q3⟩ := hSw; go_simp)
      try simp only [Act.put, pu1, pu2, pu3]
      refine tk20 (.bool true) ?_ (fun w hSw => by (try dsimp only at hSw); obtain ⟨q0, q1, q2, q3⟩ := hSw; go_simp)
      try simp only [Act.put, pu1, pu2, pu3]
      refine tk21 (.bool true) ?_ (fun w hSw => by (try dsimp only at hSw); obtain ⟨q0, q1, q2, q3⟩ := hSw; go_simp)
      try simp only [Act.put, pu1, pu2, pu3]
      refine tk22 (.bool true) ?_ (fun w hSw => by (try dsimp only at hSw); obtain ⟨q0, q1, q2, q3⟩ := hSw; go_simp)
      try simp only [Act.put, pu1, pu2, pu3]
      refine tk23 (.pointer (some ⟨D, 0, none⟩)) ?_ (fun w hSw => by (try dsimp only at hSw); obtain ⟨q0, q1, q2, q3⟩ := hSw; go_simp)
      try simp only [Act.put, pu1, pu2, pu3]
      refine tk24 (.pointer (some ⟨D, 0, none⟩)) ?_ (fun w hSw => by (try dsimp only at hSw); obtain ⟨q0, q1, q2, q3⟩ := hSw; go_simp)
      try simp only [Act.put, pu1, pu2, pu3]
      refine tk25 (.pointer (some ⟨D, 0, none⟩)) ?_ (fun w hSw => by (try dsimp only at hSw); obtain ⟨q0, q1, q2, q3⟩ := hSw; go_simp)
      try simp only [Act.put, pu1, pu2, pu3]
      refine tk26 (.slice (some ⟨bT, off, none⟩) T.length cap) ?_ (fun w hSw => by (try dsimp only at hSw); obtain ⟨q0, q1, q2, q3⟩ := hSw; go_simp)
      try simp only [Act.put, pu1, pu2, pu3]
      refine tk27 (.int .i64 (k : Int)) ?_ (fun w hSw => by (try dsimp only at hSw); obtain ⟨q0, q1, q2, q3⟩ := hSw; go_simp)
      try simp only [Act.put, pu1, pu2, pu3]
      refine tk28 (.pointer (some ⟨bT, off + k * 4, none⟩)) ?_ (fun w hSw => by (try dsimp only at hSw); obtain ⟨q0, q1, q2, q3⟩ := hSw; go_simp)
      try simp only [Act.put, pu1, pu2, pu3]
      refine tk29 (.pointer (some ⟨bT, off + k * 4 + 1, none⟩)) ?_ (fun w hSw => by (try dsimp only at hSw); obtain ⟨q0, q1, q2, q3⟩ := hSw; go_simp)
      try simp only [Act.put, pu1, pu2, pu3]
      refine tk30 (.int .i64 (tp : Int)) ?_ (fun w hSw => by (try dsimp only at hSw); obtain ⟨q0, q1, q2, q3⟩ := hSw; go_simp)
      try simp only [Act.put, pu1, pu2, pu3]
      refine tk31 (.pointer (some ⟨D, 0, none⟩)) ?_ (fun w hSw => by (try dsimp only at hSw); obtain ⟨q0, q1, q2, q3⟩ := hSw; go_simp)
      try simp only [Act.put, pu1, pu2, pu3]
      refine tk32 (.pointer (some ⟨D, 0, none⟩)) ?_ (fun w hSw => by (try dsimp only at hSw); obtain ⟨q0, q1, q2, q3⟩ := hSw; go_simp)
      try simp only [Act.put, pu1, pu2, pu3]
      refine tk33 (.pointer (some ⟨D, 0, none⟩)) ?_ (fun w hSw => by (try dsimp only at hSw); obtain ⟨q0, q1, q2, q3⟩ := hSw; go_simp)
      try simp only [Act.put, pu1, pu2, pu3]
      refine tk34 (.slice (some ⟨bT, off, none⟩) T.length cap) ?_ (fun w hSw => by (try dsimp only at hSw); obtain ⟨q0, q1, q2, q3⟩ := hSw; go_simp)
      try simp only [Act.put, pu1, pu2, pu3]
      refine tk35 (.int .i64 (k : Int)) ?_ (fun w hSw => by (try dsimp only at hSw); obtain ⟨q0, q1, q2, q3⟩ := hSw; go_simp)
      try simp only [Act.put, pu1, pu2, pu3]
      refine tk36 (.pointer (some ⟨bT, off + k * 4, none⟩)) ?_ (fun w hSw => by (try dsimp only at hSw); obtain ⟨q0, q1, q2, q3⟩ := hSw; go_simp)
      try simp only [Act.put, pu1, pu2, pu3]
      refine tk37 (.pointer (some ⟨bT, off + k * 4, none⟩)) ?_ (fun w hSw => by (try dsimp only at hSw); obtain ⟨q0, q1, q2, q3⟩ := hSw; go_simp)
      try simp only [Act.put, pu1, pu2, pu3]
      refine tk38 (.slice ao to co) ?_ (fun w hSw => by (try dsimp only at hSw); obtain ⟨q0, q1, q2, q3⟩ := hSw; go_simp)
      try simp only [Act.put, pu1, pu2, pu3]
      refine tk39 (.int .i64 (to : Int)) ?_ (fun w hSw => by (try dsimp only at hSw); obtain ⟨q0, q1, q2, q3⟩ := hSw; go_simp)
      try simp only [Act.put, pu1, pu2, pu3]
      refine tk40 (.bool false) ?_ (fun w hSw => by (try dsimp only at hSw); obtain ⟨q0, q1, q2, q3⟩ := hSw; go_simp)
      try simp only [Act.put, pu1, pu2, pu3]
      refine tk41 (.bool false) ?_ (fun w hSw => by (try dsimp only at hSw); obtain ⟨q0, q1, q2, q3⟩ := hSw; go_simp)
      try simp only [Act.put, pu1, pu2, pu3]
      refine tk42 (.bool false) ?_ (fun w hSw => by (try dsimp only at hSw); obtain ⟨q0, q1, q2, q3⟩ := hSw; go_simp)
      try simp only [Act.put, pu1, pu2, pu3]
      refine wpAnyH_done (by kernel_rfl) ?_ _
      go_wp2
      go_ret
      exact ⟨rfl, undrB2 (Below.refl _ _)⟩
def upto (p : Tk → Bool) : Nat → List Tk → List Int
  | _, [] => []
  | k, t :: l => if p t = true then (k : Int) :: upto p (k + 1) l else upto p (k + 1) l
theorem upto_append (p : Tk → Bool) : ∀ (l m : List Tk) (k : Nat), upto p k (l ++ m) = upto p k l ++ upto p (k + l.length) m
  | [], m, k => by simp [upto]
  | t :: l, m, k => by
    rw [List.cons_append, upto, upto]
    have e : k + (t :: l).length = k + 1 + l.length := by simp; omega
    rw [e, upto_append p l m (k + 1)]
    split
    · rfl
    · rfl
theorem upto_take (p : Tk → Bool) (T : List Tk) (k : Nat) (hk : k < T.length) : upto p 0 (T.take (k + 1)) = upto p 0 (T.take k) ++ (if p T[k] = true then [(k : Int)] else []) := by
  rw [List.take_succ_eq_append_getElem hk, upto_append, Nat.zero_add, List.length_take, Nat.min_eq_left (by omega)]
  congr 1
theorem upto_le (p : Tk → Bool) : ∀ (l : List Tk) (k : Nat), (upto p k l).length ≤ l.length
  | [], k => by simp [upto]
  | t :: l, k => by
    have := upto_le p l (k + 1)
    rw [upto]
    split
    · simp; omega
    · simp; omega
def readyL (T : List Tk) : List Int := upto tkR 0 T
def blockedL (T : List Tk) : List Int := upto (fun t => t.bl) 0 T
def endedB (T : List Tk) : Bool := T.all fun t => !t.bl && !decide (t.pos < t.ops.length)
end
end Go.Proofs.Ythhlglbohibekaa
namespace Go.Proofs.Ythhlglbohibekaa
open Go.RowKit

theorem own_below9 {w w' : World} {base size n : Nat} {e : TypeId} {v : Value} {xs : List Value} (h : w.ownsRow base e size v n xs) (k : Below w.heap.size w w') : w'.ownsRow base e size v n xs := own_keep h (fun g hg => k.block g (World.ownsRow.lt h g hg).2)
section
variable {w w' : World} {base D : Nat} {ro : Nat → Option Nat} {vT vL : Value} {tv : List Tv} {od : List Nat} {T : List Tk} {L : List (Int × Ob)}
set_option maxHeartbeats 6400000 in
set_option maxRecDepth 100000 in
theorem sk_Ready (h : SkAt w base D ro vT vL tv od T L) (hT : T.length ≤ 65536) : Calls Try.prog 17 #[.pointer (some ⟨D, 0, none⟩)] w fun e w' => ∃ u, e = .returned u ∧ RowAt intC w' u (readyL T) ∧ Below w.heap.size w w' := by
  obtain ⟨⟨aT, cT, eT⟩, _, c0, c1, f0, f1, hD⟩ := h.cells
  obtain ⟨i0, hi, hz0, hz1, hz2⟩ := info_parts infoI
  have HS : Hid (SkAt w base D ro vT vL tv od T L) := h
  rw [eT] at c0
  subst eT
  clear h c1
  go_enter Try.func17, Try.ntmps17
  go_wp2
  go_loopw [3, 4] (fun g i wr => ∃ k : Nat, k ≤ T.length ∧ i = .int .i64 k ∧ Hid (wr.ownsRow w.heap.size 3 1 g (upto tkR 0 (T.take k)).length (intL (upto tkR 0 (T.take k)))) ∧ Below w.heap.size w wr) (fun _ i _ => T.length - (RowKit.intOf i).toNat)
  case atStart => exact ⟨0, Nat.zero_le _, rfl, World.ownsRow_nil _ _ _ _, Below.refl _ _⟩
  case round =>
    obtain ⟨k, hk, rfl, HO', bel⟩ := hrel
    obtain ⟨pg, ng, mg, rfl⟩ := own_form HO'.out
    have HO : Hid (World.ownsRow wr w.heap.size 3 1 (.slice pg ng mg) (upto tkR 0 (T.take k)).length (intL (upto tkR 0 (T.take k)))) := HO'
    clear HO'
    have yD := (bel.cell (p := ⟨D, 0, none⟩) (by exact hD)).trans c0
    by_cases hkl : k < T.length
    · have q0 : decide ((k : Int) < (T.length : Int)) = true := decide_eq_true (by omega)
      have HT : Hid _ := upto_take tkR T k hkl
      have hle : (upto tkR 0 (T.take k)).length ≤ 65536 := by
        have := upto_le tkR (T.take k) 0
        rw [List.length_take] at this
        omega
      have hr := sk_ready (HS.out.fresh bel) (k : Int)
      have er : rdB T (k : Int) = tkR T[k] := by
        unfold rdB
        rw [decide_eq_true (by omega), Bool.true_and, Int.toNat_natCast, List.getElem?_eq_getElem hkl]
      rw [er] at hr
      clear er
      cases hp : tkR T[k] with
      | true =>
        rw [hp] at hr
        have HT2 : Hid (upto tkR 0 (T.take (k + 1)) = upto tkR 0 (T.take k) ++ [(k : Int)]) := by
          have := HT.out
          rw [if_pos hp] at this
          exact this
        clear hp HT
        go_wp2_with (first
          | (at_builtin; refine wpList_app_row (k := 1) (enc := intC) (l := [(k : Int)]) rfl (.tmp 17) (.tmp 19) 23 3 rfl i0 _ 8 Try.underlying23 hi hz0 hz1 hz2 rfl (by decide) intC_len intC_one rfl rfl (HO2.out.alloc _) (RowAt.built (heap_alloc_new w2 _) rfl 1 rfl rfl) (by simp; have := b2.size; omega) (by simp; omega) (by simp; omega) ?_; intro u3 w3 h3 k3; obtain ⟨p3, n3, q3, rfl⟩ := own_form h3)
          | (go_at_call 33; refine hr.mono ?_; rintro e w2 ⟨rfl, b2'⟩; have b2 := bmm bel bel.size b2'; have HO2 : Hid (World.ownsRow w2 w.heap.size 3 1 (.slice pg ng mg) _ _) := own_below9 HO.out b2'))
        have b4 : Below w.heap.size w w3 := (b2.alloc b2.size _).trans k3.below
        go_roundw
        case rel =>
          refine ⟨k + 1, hkl, by go_num, ?_, b4⟩
          have e4 : intL (upto tkR 0 (T.take k) ++ [(k : Int)]) = intL (upto tkR 0 (T.take k)) ++ rowL intC [(k : Int)] := by rw [rowL_int]; unfold intL; simp
          show World.ownsRow _ _ _ _ _ _ _
          rw [HT2.out, e4, List.length_append]
          exact h3
        case measure => simp [RowKit.intOf]; omega
      | false =>
        rw [hp] at hr
        have HT2 : Hid (upto tkR 0 (T.take (k + 1)) = upto tkR 0 (T.take k)) := by
          have := HT.out
          rw [if_neg (by rw [hp]; decide), List.append_nil] at this
          exact this
        clear hp HT
        go_wp2_with (go_at_call 33; refine hr.mono ?_; rintro e w2 ⟨rfl, b2'⟩; have b2 := bmm bel bel.size b2'; have HO2 : Hid (World.ownsRow w2 w.heap.size 3 1 (.slice pg ng mg) _ _) := own_below9 HO.out b2')
        go_roundw
        case rel =>
          refine ⟨k + 1, hkl, by go_num, ?_, b2⟩
          show World.ownsRow _ _ _ _ _ _ _
          rw [HT2.out]
          exact HO2.out
        case measure => simp [RowKit.intOf]; omega
    · have q0 : decide ((k : Int) < (T.length : Int)) = false := decide_eq_false (by omega)
      have hke : k = T.length := by omega
      have HF : Hid (RowAt intC wr (.slice pg ng mg) (readyL T)) := RowAt.own (k := 1) (T := 3) (base := w.heap.size) intC_len (by
        have := HO.out
        rw [hke, List.take_length] at this
        rw [rowL_int]
        exact this)
      go_wp2
      go_ret
      exact ⟨_, rfl, HF.out, bel⟩
set_option maxHeartbeats 6400000 in
set_option maxRecDepth 100000 in
theorem sk_Blocked (h : SkAt w base D ro vT vL tv od T L) (hT : T.length ≤ 65536) : Calls Try.prog 19 #[.pointer (some ⟨D, 0, none⟩)] w fun e w' => ∃ u, e = .returned u ∧ RowAt intC w' u (blockedL T) ∧ Below w.heap.size w w' := by
  obtain ⟨⟨aT, cT, eT⟩, _, c0, c1, f0, f1, hD⟩ := h.cells
  obtain ⟨i0, hi, hz0, hz1, hz2⟩ := info_parts infoI
  have HS : Hid (SkAt w base D ro vT vL tv od T L) := h
  rw [eT] at c0
  subst eT
  clear h c1
  go_enter Try.func19, Try.ntmps19
  go_wp2
  go_loopw [3, 4] (fun g i wr => ∃ k : Nat, k ≤ T.length ∧ i = .int .i64 k ∧ Hid (wr.ownsRow w.heap.size 3 1 g (upto (fun t => t.bl) 0 (T.take k)).length (intL (upto (fun t => t.bl) 0 (T.take k)))) ∧ Below w.heap.size w wr) (fun _ i _ => T.length - (RowKit.intOf i).toNat)
  case atStart => exact ⟨0, Nat.zero_le _, rfl, World.ownsRow_nil _ _ _ _, Below.refl _ _⟩
  case round =>
    obtain ⟨k, hk, rfl, HO', bel⟩ := hrel
    obtain ⟨pg, ng, mg, rfl⟩ := own_form HO'.out
    have HO : Hid (World.ownsRow wr w.heap.size 3 1 (.slice pg ng mg) (upto (fun t => t.bl) 0 (T.take k)).length (intL (upto (fun t => t.bl) 0 (T.take k)))) := HO'
    clear HO'
    have yD := (bel.cell (p := ⟨D, 0, none⟩) (by exact hD)).trans c0
    by_cases hkl : k < T.length
    · have q0 : decide ((k : Int) < (T.length : Int)) = true := decide_eq_true (by omega)
      have HT : Hid _ := upto_take (fun t => t.bl) T k hkl
      have hle : (upto (fun t => t.bl) 0 (T.take k)).length ≤ 65536 := by
        have := upto_le (fun t => t.bl) (T.take k) 0
        rw [List.length_take] at this
        omega
      obtain ⟨bT, off, cap, ao, co, ar, cr, e, hb, _, _, z2', _⟩ := HS.out.task k hkl
      have c0' := c0
      rw [e] at c0'
      have y0 := (bel.cell (p := ⟨D, 0, none⟩) (by exact hD)).trans c0'
      have z2 := (bel.cell (p := ⟨bT, off + k * 4 + 2, none⟩) (by exact hb)).trans z2'
      clear z2' e c0'
      cases hp : T[k].bl with
      | true =>
        rw [hp] at z2
        have HT2 : Hid (upto (fun t => t.bl) 0 (T.take (k + 1)) = upto (fun t => t.bl) 0 (T.take k) ++ [(k : Int)]) := by
          have := HT.out
          rw [if_pos hp] at this
          exact this
        clear hp HT yD
        go_wp2_with (at_builtin; refine wpList_app_row (k := 1) (enc := intC) (l := [(k : Int)]) rfl (.tmp 22) (.tmp 24) 23 3 rfl i0 _ 8 Try.underlying23 hi hz0 hz1 hz2 rfl (by decide) intC_len intC_one rfl rfl (HO.out.alloc _) (RowAt.built (heap_alloc_new wr _) rfl 1 rfl rfl) (by simp; have := bel.size; omega) (by simp; omega) (by simp; omega) ?_; intro u3 w3 h3 k3; obtain ⟨p3, n3, q3, rfl⟩ := own_form h3)
        have b4 : Below w.heap.size w w3 := (bel.alloc bel.size _).trans k3.below
        go_roundw
        case rel =>
          refine ⟨k + 1, hkl, by go_num, ?_, b4⟩
          have e4 : intL (upto (fun t => t.bl) 0 (T.take k) ++ [(k : Int)]) = intL (upto (fun t => t.bl) 0 (T.take k)) ++ rowL intC [(k : Int)] := by rw [rowL_int]; unfold intL; simp
          show World.ownsRow _ _ _ _ _ _ _
          rw [HT2.out, e4, List.length_append]
          exact h3
        case measure => simp [RowKit.intOf]; omega
      | false =>
        rw [hp] at z2
        have HT2 : Hid (upto (fun t => t.bl) 0 (T.take (k + 1)) = upto (fun t => t.bl) 0 (T.take k)) := by
          have := HT.out
          rw [if_neg (by rw [hp]; decide), List.append_nil] at this
          exact this
        clear hp HT yD
        go_wp2
        go_roundw
        case rel =>
          refine ⟨k + 1, hkl, by go_num, ?_, bel⟩
          show World.ownsRow _ _ _ _ _ _ _
          rw [HT2.out]
          exact HO.out
        case measure => simp [RowKit.intOf]; omega
    · have q0 : decide ((k : Int) < (T.length : Int)) = false := decide_eq_false (by omega)
      have hke : k = T.length := by omega
      have HF : Hid (RowAt intC wr (.slice pg ng mg) (blockedL T)) := RowAt.own (k := 1) (T := 3) (base := w.heap.size) intC_len (by
        have := HO.out
        rw [hke, List.take_length] at this
        rw [rowL_int]
        exact this)
      go_wp2
      go_ret
      exact ⟨_, rfl, HF.out, bel⟩
set_option maxHeartbeats 6400000 in
set_option maxRecDepth 100000 in
theorem sk_Ended (h : SkAt w base D ro vT vL tv od T L) (hT : T.length ≤ 65536) : Calls Try.prog 21 #[.pointer (some ⟨D, 0, none⟩)] w fun e w' => e = .returned (.bool (endedB T)) ∧ Below w.heap.size w w' := by
  obtain ⟨⟨aT, cT, eT⟩, _, c0, c1, f0, f1, hD⟩ := h.cells
  have HS : Hid (SkAt w base D ro vT vL tv od T L) := h
  rw [eT] at c0
  subst eT
  clear h c1
  go_enter Try.func21, Try.ntmps21
  go_wp2
  go_loopw [3] (fun i wr => ∃ k : Nat, k ≤ T.length ∧ i = .int .i64 k ∧ Hid (∀ j (hj : j < T.length), j < k → (!T[j].bl && !decide (T[j].pos < T[j].ops.length)) = true) ∧ Below w.heap.size w wr) (fun i _ => T.length - (RowKit.intOf i).toNat)
  case atStart => exact ⟨0, Nat.zero_le _, rfl, fun j _ h0 => absurd h0 (Nat.not_lt_zero _), Below.refl _ _⟩
  case round =>
    obtain ⟨k, hk, rfl, HN, bel⟩ := hrel
    have yD := (bel.cell (p := ⟨D, 0, none⟩) (by exact hD)).trans c0
    by_cases hkl : k < T.length
    · have q0 : decide ((k : Int) < (T.length : Int)) = true := decide_eq_true (by omega)
      obtain ⟨bT, off, cap, ao, co, ar, cr, e, hb, z0', z1', z2', _⟩ := HS.out.task k hkl
      have c0' := c0
      rw [e] at c0'
      have y0 := (bel.cell (p := ⟨D, 0, none⟩) (by exact hD)).trans c0'
      have z0 := (bel.cell (p := ⟨bT, off + k * 4, none⟩) (by exact hb)).trans z0'
      have z1 := (bel.cell (p := ⟨bT, off + k * 4 + 1, none⟩) (by exact hb)).trans z1'
      have z2 := (bel.cell (p := ⟨bT, off + k * 4 + 2, none⟩) (by exact hb)).trans z2'
      have HE : Hid ((!T[k].bl && !decide (T[k].pos < T[k].ops.length)) = false → endedB T = false) := fun e => by
        unfold endedB
        rw [List.all_eq_false]
        exact ⟨T[k], List.getElem_mem hkl, by rw [e]; decide⟩
      have HN1 : Hid ((!T[k].bl && !decide (T[k].pos < T[k].ops.length)) = true → ∀ j (hj : j < T.length), j < k + 1 → (!T[j].bl && !decide (T[j].pos < T[j].ops.length)) = true) := fun e j hj h0 => by
        by_cases ej : j = k
        · subst ej
          exact e
        · exact HN.out j hj (by omega)
      clear z0' z1' z2' e c0' yD HN
      generalize T[k] = t at z0 z1 z2 HE HN1
      obtain ⟨ops, tp, bl, runs⟩ := t
      simp only at z0 z1 z2
      have HE' : Hid ((!bl && !decide (tp < ops.length)) = false → endedB T = false) := HE.out
      have HN1' : Hid ((!bl && !decide (tp < ops.length)) = true → ∀ j (hj : j < T.length), j < k + 1 → (!T[j].bl && !decide (T[j].pos < T[j].ops.length)) = true) := HN1.out
      clear HE HN1
      generalize ops.length = to at z0 HE' HN1'
      cases bl with
      | true =>
        have HF : Hid (endedB T = false) := HE'.out rfl
        clear HE' HN1'
        go_wp2
        refine wp_region_held_drew (S := (fun w' : World => w'.cell? ⟨D, 0, none⟩ = some (.slice (some ⟨bT, off, none⟩) T.length cap) ∧ w'.cell? ⟨bT, off + k * 4, none⟩ = some (.slice ao to co) ∧ w'.cell? ⟨bT, off + k * 4 + 1, none⟩ = some (.int .i64 (tp : Int)) ∧ w'.cell? ⟨bT, off + k * 4 + 2, none⟩ = some (.bool true))) (by kernel_rfl) ?_ (fun hHeld0 => ?_)
        · try dsimp only
          go_keep
        refine tk0 (.pointer (some ⟨D, 0, none⟩)) ?_ (fun w hSw => by (try dsimp only at hSw); obtain ⟨q0, q1, q2, q3⟩ := hSw; go_simp)
        try simp only [Act.put, pu1, pu2, pu3]
        refine tk1 (.pointer (some ⟨D, 0, none⟩)) ?_ (fun w hSw => by (try dsimp only at hSw); obtain ⟨q0, q1, q2, q3⟩ := hSw; go_simp)
        try simp only [Act.put, pu1, pu2, pu3]
        refine tk2 (.pointer (some ⟨D, 0, none⟩)) ?_ (fun w hSw => by (try dsimp only at hSw); obtain ⟨q0, q1, q2, q3⟩ := hSw; go_simp)
        try simp only [Act.put, pu1, pu2, pu3]
        refine tk3 (.slice (some ⟨bT, off, none⟩) T.length cap) ?_ (fun w hSw => by (try dsimp only at hSw); obtain ⟨q0, q1, q2, q3⟩ := hSw; go_simp)
        try simp only [Act.put, pu1, pu2, pu3]
        refine tk4 (.int .i64 (k : Int)) ?_ (fun w hSw => by (try dsimp only at hSw); obtain ⟨q0, q1, q2, q3⟩ := hSw; go_simp)
        try simp only [Act.put, pu1, pu2, pu3]
        refine tk5 (.pointer (some ⟨bT, off + k * 4, none⟩)) ?_ (fun w hSw => by (try dsimp only at hSw); obtain ⟨q0, q1, q2, q3⟩ := hSw; go_simp)
        try simp only [Act.put, pu1, pu2, pu3]
        refine tk6 (.pointer (some ⟨bT, off + k * 4 + 2, none⟩)) ?_ (fun w hSw => by (try dsimp only at hSw); obtain ⟨q0, q1, q2, q3⟩ := hSw; go_simp)
        try simp only [Act.put, pu1, pu2, pu3]
        refine tk7 (.bool true) ?_ (fun w hSw => by (try dsimp only at hSw); obtain ⟨q0, q1, q2, q3⟩ := hSw; go_simp)
        try simp only [Act.put, pu1, pu2, pu3]
        refine tk8 (.bool true) ?_ (fun w hSw => by (try dsimp only at hSw); obtain ⟨q0, q1, q2, q3⟩ := hSw; go_simp)
        try simp only [Act.put, pu1, pu2, pu3]
        refine sk9 ?_
        try simp only [Act.put, pu1, pu2, pu3]
        refine sk10 ?_
        try simp only [Act.put, pu1, pu2, pu3]
        refine sk11 ?_
        try simp only [Act.put, pu1, pu2, pu3]
        refine sk12 ?_
        try simp only [Act.put, pu1, pu2, pu3]
        refine sk13 ?_
        try simp only [Act.put, pu1, pu2, pu3]
        refine sk14 ?_
        try simp only [Act.put, pu1, pu2, pu3]
        refine sk15 ?_
        try simp only [Act.put, pu1, pu2, pu3]
        refine sk16 ?_
        try simp only [Act.put, pu1, pu2, pu3]
        refine sk17 ?_
        try simp only [Act.put, pu1, pu2, pu3]
        refine sk18 ?_
        try simp only [Act.put, pu1, pu2, pu3]
        refine sk19 ?_
        try simp only [Act.put, pu1, pu2, pu3]
        refine sk20 ?_
        try simp only [Act.put, pu1, pu2, pu3]
        refine sk21 ?_
        try simp only [Act.put, pu1, pu2, pu3]
        refine sk22 ?_
        try simp only [Act.put, pu1, pu2, pu3]
        refine sk23 ?_
        try simp only [Act.put, pu1, pu2, pu3]
        refine sk24 ?_
        try simp only [Act.put, pu1, pu2, pu3]
        refine sk25 ?_
        try simp only [Act.put, pu1, pu2, pu3]
        refine sk26 ?_
        try simp only [Act.put, pu1, pu2, pu3]
        refine tk27 (.bool true) ?_ (fun w hSw => by (try dsimp only at hSw); obtain ⟨q0, q1, q2, q3⟩ := hSw; go_simp)
        try simp only [Act.put, pu1, pu2, pu3]
        refine wpAnyH_done (by kernel_rfl) ?_ _
        go_wp2
        go_ret
        exact ⟨by rw [HF.out]; rfl, undrB2 bel⟩
      | false =>
        by_cases h3 : tp < to
        · have q3 : decide ((tp : Int) < (to : Int)) = true := decide_eq_true (by omega)
          have HF : Hid (endedB T = false) := HE'.out (by rw [decide_eq_true h3]; rfl)
          clear HE' HN1'
          go_wp2
          refine wp_region_held_drew (S := (fun w' : World => w'.cell? ⟨D, 0, none⟩ = some (.slice (some ⟨bT, off, none⟩) T.length cap) ∧ w'.cell? ⟨bT, off + k * 4, none⟩ = some (.slice ao to co) ∧ w'.cell? ⟨bT, off + k * 4 + 1, none⟩ = some (.int .i64 (tp : Int)) ∧ w'.cell? ⟨bT, off + k * 4 + 2, none⟩ = some (.bool false))) (by kernel_rfl) ?_ (fun hHeld0 => ?_)
          · try dsimp only
            go_keep
          refine tk0 (.pointer (some ⟨D, 0, none⟩)) ?_ (fun w hSw => by (try dsimp only at hSw); obtain ⟨q0, q1, q2, q3⟩ := hSw; go_simp)
          try simp only [Act.put, pu1, pu2, pu3]
          refine tk1 (.pointer (some ⟨D, 0, none⟩)) ?_ (fun w hSw => by (try dsimp only at hSw); obtain ⟨q0, q1, q2, q3⟩ := hSw; go_simp)
          try simp only [Act.put, pu1, pu2, pu3]
          refine tk2 (.pointer (some ⟨D, 0, none⟩)) ?_ (fun w hSw => by (try dsimp only at hSw); obtain ⟨q0, q1, q2, q3⟩ := hSw; go_simp)
          try simp only [Act.put, pu1, pu2, pu3]
          refine tk3 (.slice (some ⟨bT, off, none⟩) T.length cap) ?_ (fun w hSw => by (try dsimp only at hSw); obtain ⟨q0, q1, q2, q3⟩ := hSw; go_simp)
          try simp only [Act.put, pu1, pu2, pu3]
          refine tk4 (.int .i64 (k : Int)) ?_ (fun w hSw => by (try dsimp only at hSw); obtain ⟨q0, q1, q2, q3⟩ := hSw; go_simp)
          try simp only [Act.put, pu1, pu2, pu3]
          refine tk5 (.pointer (some ⟨bT, off + k * 4, none⟩)) ?_ (fun w hSw => by (try dsimp only at hSw); obtain ⟨q0, q1, q2, q3⟩ := hSw; go_simp)
          try simp only [Act.put, pu1, pu2, pu3]
          refine tk6 (.pointer (some ⟨bT, off + k * 4 + 2, none⟩)) ?_ (fun w hSw => by (try dsimp only at hSw); obtain ⟨q0, q1, q2, q3⟩ := hSw; go_simp)
          try simp only [Act.put, pu1, pu2, pu3]
          refine tk7 (.bool false) ?_ (fun w hSw => by (try dsimp only at hSw); obtain ⟨q0, q1, q2, q3⟩ := hSw; go_simp)
          try simp only [Act.put, pu1, pu2, pu3]
          refine tk8 (.bool false) ?_ (fun w hSw => by (try dsimp only at hSw); obtain ⟨q0, q1, q2, q3⟩ := hSw; go_simp)
          try simp only [Act.put, pu1, pu2, pu3]
          refine tk9 (.pointer (some ⟨D, 0, none⟩)) ?_ (fun w hSw => by (try dsimp only at hSw); obtain ⟨q0, q1, q2, q3⟩ := hSw; go_simp)
          try simp only [Act.put, pu1, pu2, pu3]
          refine tk10 (.pointer (some ⟨D, 0, none⟩)) ?_ (fun w hSw => by (try dsimp only at hSw); obtain ⟨q0, q1, q2, q3⟩ := hSw; go_simp)
          try simp only [Act.put, pu1, pu2, pu3]
          refine tk11 (.pointer (some ⟨D, 0, none⟩)) ?_ (fun w hSw => by (try dsimp only at hSw); obtain ⟨q0, q1, q2, q3⟩ := hSw; go_simp)
          try simp only [Act.put, pu1, pu2, pu3]
          refine tk12 (.slice (some ⟨bT, off, none⟩) T.length cap) ?_ (fun w hSw => by (try dsimp only at hSw); obtain ⟨q0, q1, q2, q3⟩ := hSw; go_simp)
          try simp only [Act.put, pu1, pu2, pu3]
          refine tk13 (.int .i64 (k : Int)) ?_ (fun w hSw => by (try dsimp only at hSw); obtain ⟨q0, q1, q2, q3⟩ := hSw; go_simp)
          try simp only [Act.put, pu1, pu2, pu3]
          refine tk14 (.pointer (some ⟨bT, off + k * 4, none⟩)) ?_ (fun w hSw => by (try dsimp only at hSw); obtain ⟨q0, q1, q2, q3⟩ := hSw; go_simp)
          try simp only [Act.put, pu1, pu2, pu3]
          refine tk15 (.pointer (some ⟨bT, off + k * 4 + 1, none⟩)) ?_ (fun w hSw => by (try dsimp only at hSw); obtain ⟨q0, q1, q2, q3⟩ := hSw; go_simp)
          try simp only [Act.put, pu1, pu2, pu3]
          refine tk16 (.int .i64 (tp : Int)) ?_ (fun w hSw => by (try dsimp only at hSw); obtain ⟨q0, q1, q2, q3⟩ := hSw; go_simp)
          try simp only [Act.put, pu1, pu2, pu3]
          refine tk17 (.pointer (some ⟨D, 0, none⟩)) ?_ (fun w hSw => by (try dsimp only at hSw); obtain ⟨q0, q1, q2, q3⟩ := hSw; go_simp)
          try simp only [Act.put, pu1, pu2, pu3]
          refine tk18 (.pointer (some ⟨D, 0, none⟩)) ?_ (fun w hSw => by (try dsimp only at hSw); obtain ⟨q0, q1, q2, q3⟩ := hSw; go_simp)
          try simp only [Act.put, pu1, pu2, pu3]
          refine tk19 (.pointer (some ⟨D, 0, none⟩)) ?_ (fun w hSw => by (try dsimp only at hSw); obtain ⟨q0, q1, q2, q3⟩ := hSw; go_simp)
          try simp only [Act.put, pu1, pu2, pu3]
          refine tk20 (.slice (some ⟨bT, off, none⟩) T.length cap) ?_ (fun w hSw => by (try dsimp only at hSw); obtain ⟨q0, q1, q2, q3⟩ := hSw; go_simp)
          try simp only [Act.put, pu1, pu2, pu3]
          refine tk21 (.int .i64 (k : Int)) ?_ (fun w hSw => by (try dsimp only at hSw); obtain ⟨q0, q1, q2, q3⟩ := hSw; go_simp)
          try simp only [Act.put, pu1, pu2, pu3]
          refine tk22 (.pointer (some ⟨bT, off + k * 4, none⟩)) ?_ (fun w hSw => by (try dsimp only at hSw); obtain ⟨q0, q1, q2, q3⟩ := hSw; go_simp)
          try simp only [Act.put, pu1, pu2, pu3]
          refine tk23 (.pointer (some ⟨bT, off + k * 4, none⟩)) ?_ (fun w hSw => by (try dsimp only at hSw); obtain ⟨q0, q1, q2, q3⟩ := hSw; go_simp)
          try simp only [Act.put, pu1, pu2, pu3]
          refine tk24 (.slice ao to co) ?_ (fun w hSw => by (try dsimp only at hSw); obtain ⟨q0, q1, q2, q3⟩ := hSw; go_simp)
          try simp only [Act.put, pu1, pu2, pu3]
          refine tk25 (.int .i64 (to : Int)) ?_ (fun w hSw => by (try dsimp only at hSw); obtain ⟨q0, q1, q2, q3⟩ := hSw; go_simp)
          try simp only [Act.put, pu1, pu2, pu3]
          refine tk26 (.bool true) ?_ (fun w hSw => by (try dsimp only at hSw); obtain ⟨q0, q1, q2, q3⟩ := hSw; go_simp)
          try simp only [Act.put, pu1, pu2, pu3]
          refine tk27 (.bool true) ?_ (fun w hSw => by (try dsimp only at hSw); obtain ⟨q0, q1, q2, q3⟩ := hSw; go_simp)
          try simp only [Act.put, pu1, pu2, pu3]
          refine wpAnyH_done (by kernel_rfl) ?_ _
          go_wp2
          go_ret
          exact ⟨by rw [HF.out]; rfl, undrB2 bel⟩
        · have q3 : decide ((tp : Int) < (to : Int)) = false := decide_eq_false (by omega)
          have HN2 : Hid (∀ j (hj : j < T.length), j < k + 1 → (!T[j].bl && !decide (T[j].pos < T[j].ops.length)) = true) := HN1'.out (by rw [decide_eq_false h3]; rfl)
          clear HE' HN1'
          go_wp2
          refine wp_region_held_drew (S := (fun w' : World => w'.cell? ⟨D, 0, none⟩ = some (.slice (some ⟨bT, off, none⟩) T.length cap) ∧ w'.cell? ⟨bT, off + k * 4, none⟩ = some (.slice ao to co) ∧ w'.cell? ⟨bT, off + k * 4 + 1, none⟩ = some (.int .i64 (tp : Int)) ∧ w'.cell? ⟨bT, off + k * 4 + 2, none⟩ = some (.bool false))) (by kernel_rfl) ?_ (fun hHeld0 => ?_)
          · try dsimp only
            go_keep
          refine tk0 (.pointer (some ⟨D, 0, none⟩)) ?_ (fun w hSw => by (try dsimp only at hSw); obtain ⟨q0, q1, q2, q3⟩ := hSw; go_simp)
          try simp only [Act.put, pu1, pu2, pu3]
          refine tk1 (.pointer (some ⟨D, 0, none⟩)) ?_ (fun w hSw => by (try dsimp only at hSw); obtain ⟨q0, q1, q2, q3⟩ := hSw; go_simp)
          try simp only [Act.put, pu1, pu2, pu3]
          refine tk2 (.pointer (some ⟨D, 0, none⟩)) ?_ (fun w hSw => by (try dsimp only at hSw); obtain ⟨q0, q1, q2, q3⟩ := hSw; go_simp)
          try simp only [Act.put, pu1, pu2, pu3]
          refine tk3 (.slice (some ⟨bT, off, none⟩) T.length cap) ?_ (fun w hSw => by (try dsimp only at hSw); obtain ⟨q0, q1, q2, q3⟩ := hSw; go_simp)
          try simp only [Act.put, pu1, pu2, pu3]
          refine tk4 (.int .i64 (k : Int)) ?_ (fun w hSw => by (try dsimp only at hSw); obtain ⟨q0, q1, q2, q3⟩ := hSw; go_simp)
          try simp only [Act.put, pu1, pu2, pu3]
          refine tk5 (.pointer (some ⟨bT, off + k * 4, none⟩)) ?_ (fun w hSw => by (try dsimp only at hSw); obtain ⟨q0, q1, q2, q3⟩ := hSw; go_simp)
          try simp only [Act.put, pu1, pu2, pu3]
          refine tk6 (.pointer (some ⟨bT, off + k * 4 + 2, none⟩)) ?_ (fun w hSw => by (try dsimp only at hSw); obtain ⟨q0, q1, q2, q3⟩ := hSw; go_simp)
          try simp only [Act.put, pu1, pu2, pu3]
          refine tk7 (.bool false) ?_ (fun w hSw => by (try dsimp only at hSw); obtain ⟨q0, q1, q2, q3⟩ := hSw; go_simp)
          try simp only [Act.put, pu1, pu2, pu3]
          refine tk8 (.bool false) ?_ (fun w hSw => by (try dsimp only at hSw); obtain ⟨q0, q1, q2, q3⟩ := hSw; go_simp)
          try simp only [Act.put, pu1, pu2, pu3]
          refine tk9 (.pointer (some ⟨D, 0, none⟩)) ?_ (fun w hSw => by (try dsimp only at hSw); obtain ⟨q0, q1, q2, q3⟩ := hSw; go_simp)
          try simp only [Act.put, pu1, pu2, pu3]
          refine tk10 (.pointer (some ⟨D, 0, none⟩)) ?_ (fun w hSw => by (try dsimp only at hSw); obtain ⟨q0, q1, q2, q3⟩ := hSw; go_simp)
          try simp only [Act.put, pu1, pu2, pu3]
          refine tk11 (.pointer (some ⟨D, 0, none⟩)) ?_ (fun w hSw => by (try dsimp only at hSw); obtain ⟨q0, q1, q2, q3⟩ := hSw; go_simp)
          try simp only [Act.put, pu1, pu2, pu3]
          refine tk12 (.slice (some ⟨bT, off, none⟩) T.length cap) ?_ (fun w hSw => by (try dsimp only at hSw); obtain ⟨q0, q1, q2, q3⟩ := hSw; go_simp)
          try simp only [Act.put, pu1, pu2, pu3]
          refine tk13 (.int .i64 (k : Int)) ?_ (fun w hSw => by (try dsimp only at hSw); obtain ⟨q0, q1, q2, q3⟩ := hSw; go_simp)
          try simp only [Act.put, pu1, pu2, pu3]
          refine tk14 (.pointer (some ⟨bT, off + k * 4, none⟩)) ?_ (fun w hSw => by (try dsimp only at hSw); obtain ⟨q0, q1, q2, q3⟩ := hSw; go_simp)
          try simp only [Act.put, pu1, pu2, pu3]
          refine tk15 (.pointer (some ⟨bT, off + k * 4 + 1, none⟩)) ?_ (fun w hSw => by (try dsimp only at hSw); obtain ⟨q0, q1, q2, q3⟩ := hSw; go_simp)
          try simp only [Act.put, pu1, pu2, pu3]
          refine tk16 (.int .i64 (tp : Int)) ?_ (fun w hSw => by (try dsimp only at hSw); obtain ⟨q0, q1, q2, q3⟩ := hSw; go_simp)
          try simp only [Act.put, pu1, pu2, pu3]
          refine tk17 (.pointer (some ⟨D, 0, none⟩)) ?_ (fun w hSw => by (try dsimp only at hSw); obtain ⟨q0, q1, q2, q3⟩ := hSw; go_simp)
          try simp only [Act.put, pu1, pu2, pu3]
          refine tk18 (.pointer (some ⟨D, 0, none⟩)) ?_ (fun w hSw => by (try dsimp only at hSw); obtain ⟨q0, q1, q2, q3⟩ := hSw; go_simp)
          try simp only [Act.put, pu1, pu2, pu3]
          refine tk19 (.pointer (some ⟨D, 0, none⟩)) ?_ (fun w hSw => by (try dsimp only at hSw); obtain ⟨q0, q1, q2, q3⟩ := hSw; go_simp)
          try simp only [Act.put, pu1, pu2, pu3]
          refine tk20 (.slice (some ⟨bT, off, none⟩) T.length cap) ?_ (fun w hSw => by (try dsimp only at hSw); obtain ⟨q0, q1, q2, q3⟩ := hSw; go_simp)
          try simp only [Act.put, pu1, pu2, pu3]
          refine tk21 (.int .i64 (k : Int)) ?_ (fun w hSw => by (try dsimp only at hSw); obtain ⟨q0, q1, q2, q3⟩ := hSw; go_simp)
          try simp only [Act.put, pu1, pu2, pu3]
          refine tk22 (.pointer (some ⟨bT, off + k * 4, none⟩)) ?_ (fun w hSw => by (try dsimp only at hSw); obtain ⟨q0, q1, q2, q3⟩ := hSw; go_simp)
          try simp only [Act.put, pu1, pu2, pu3]
          refine tk23 (.pointer (some ⟨bT, off + k * 4, none⟩)) ?_ (fun w hSw => by (try dsimp only at hSw); obtain ⟨q0, q1, q2, q3⟩ := hSw; go_simp)
          try simp only [Act.put, pu1, pu2, pu3]
          refine tk24 (.slice ao to co) ?_ (fun w hSw => by (try dsimp only at hSw); obtain ⟨q0, q1, q2, q3⟩ := hSw; go_simp)
          try simp only [Act.put, pu1, pu2, pu3]
          refine tk25 (.int .i64 (to : Int)) ?_ (fun w hSw => by (try dsimp only at hSw); obtain ⟨q0, q1, q2, q3⟩ := hSw; go_simp)
          try simp only [Act.put, pu1, pu2, pu3]
          refine tk26 (.bool false) ?_ (fun w hSw => by (try dsimp only at hSw); obtain ⟨q0, q1, q2, q3⟩ := hSw; go_simp)
          try simp only [Act.put, pu1, pu2, pu3]
          refine tk27 (.bool false) ?_ (fun w hSw => by (try dsimp only at hSw); obtain ⟨q0, q1, q2, q3⟩ := hSw; go_simp)
          try simp only [Act.put, pu1, pu2, pu3]
          refine wpAnyH_done (by kernel_rfl) ?_ _
          go_wp2
          go_roundw
          case rel => exact ⟨k + 1, hkl, by go_num, HN2, undrB2 bel⟩
          case measure => simp [RowKit.intOf]; omega
    · have q0 : decide ((k : Int) < (T.length : Int)) = false := decide_eq_false (by omega)
      have HF : Hid (endedB T = true) := by
        show _ = _
        unfold endedB
        rw [List.all_eq_true]
        intro t ht
        obtain ⟨j, hj, rfl⟩ := List.getElem_of_mem ht
        exact HN.out j hj (by omega)
      clear HN
      go_wp2
      go_ret
      exact ⟨by rw [HF.out]; rfl, bel⟩
end
end Go.Proofs.Ythhlglbohibekaa
