/-
  Package locks: a session taken out of the lock of a name, the grants that follow. The conditions: lists are short; who waits does not hold the lock.
-/
import Derived.Test.YtmfadmhbkgemmaaQLcAll
import Derived.Deep.CutBlock
import Derived.Deep.LoopGhost
namespace Go.Proofs.Ytmfadmhbkgemmaa
open Go.RowKit

abbrev SrvR := Int × List Int × Bool × List Wq × List SeR
def frontR (rs : List SeR) (s : SrvR) : SrvR := (s.1, s.2.1, s.2.2.1, s.2.2.2.1, rs ++ s.2.2.2.2)
theorem srvH_stop {c : Int} {h : List Int} {b : Bool} {y : Wq} {q : List Wq} (hf : fitH h b y.rd = false) : srvH (y :: q) c h b = (c, h, b, y :: q, []) := by
  unfold srvH
  rw [if_neg (by rw [hf]; decide)]
theorem srvH_go {c : Int} {h : List Int} {b : Bool} {y : Wq} {q : List Wq} (hf : fitH h b y.rd = true) (rs : List SeR) : frontR rs (srvH (y :: q) c h b) = frontR (rs ++ [(giveH c h b y).2.2.2]) (srvH q (giveH c h b y).1 (giveH c h b y).2.1 (giveH c h b y).2.2.1) := by
  conv => lhs; unfold srvH
  rw [if_pos hf]
  unfold frontR
  simp only [List.append_assoc, List.singleton_append]
theorem putL_len (h : List Int) (s : Int) : (putL h s).length = h.length + 1 := by
  have := (putL_perm (List.Perm.refl h) s).length_eq
  simp only [List.length_append, List.length_singleton] at this
  omega
theorem putL_has (h : List Int) (s a : Int) : hasB (putL h s) a = (hasB h a || decide (a = s)) := by
  unfold hasB
  rw [Bool.eq_iff_iff, Bool.or_eq_true, decide_eq_true_eq, decide_eq_true_eq, decide_eq_true_eq, ← (putL_perm (List.Perm.refl h) s).mem_iff, List.mem_append, List.mem_singleton]
theorem giveH_has {c : Int} {h : List Int} {b : Bool} {x : Wq} {a : Int} (hn : hasB h a = false) (ha : a ≠ x.s) : hasB (giveH c h b x).2.1 a = false := by
  unfold giveH
  split
  · rw [putL_has, hn, decide_eq_false ha]; rfl
  · split
    · exact hn
    · rw [putL_has, hn, decide_eq_false ha]; rfl
theorem giveH_le (c : Int) (h : List Int) (b : Bool) (x : Wq) : (giveH c h b x).2.1.length ≤ h.length + 1 := by
  unfold giveH
  split
  · rw [putL_len]; exact Nat.le_refl _
  · split
    · exact Nat.le_succ _
    · rw [putL_len]; exact Nat.le_refl _
theorem giveH_c {c : Int} {h : List Int} {b : Bool} {x : Wq} (h0 : 0 ≤ c) (h1 : c ≤ 18446744073709551615) : 0 ≤ (giveH c h b x).1 ∧ (giveH c h b x).1 ≤ 18446744073709551615 := by
  unfold giveH
  split
  · exact ⟨h0, h1⟩
  · split
    · exact ⟨h0, h1⟩
    · exact ⟨by show 0 ≤ c + 1; omega, by show c + 1 ≤ _; omega⟩
/-- Within the loop: pe: a grant that is not in the row yet. -/
structure PdI (w wr : World) (X D M : Nat) (S0 S1 : Nat → Prop) (s : SrvR) (m : Nat) (u : Value) (rs pe : List SeR) (c : Int) (h : List Int) (b : Bool) (q : List Wq) : Prop where
  out : wr.ownsRow w.heap.size rpT 5 u rs.length (rowL rpC rs)
  at' : LcAt wr X S1 h b q
  d : wr.heap[D]? = some (.cells (pgA M c) pgT (0, 0))
  k : Kept w wr (fun g => S0 g ∨ g = D) (fun g => S1 g ∨ g = D)
  sep : ∀ g, u.ownBlock = some g → ¬ S1 g ∧ g ≠ D
  sS : ∀ g, S1 g → S0 g ∨ w.heap.size ≤ g
  nd : ¬ S1 D
  eq : s = frontR (rs ++ pe) (srvH q c h b)
  wt : ∀ y ∈ q, hasB h y.s = false
  hq : h.length + q.length ≤ m
  rq : rs.length + pe.length + q.length ≤ m
  c0 : 0 ≤ c
  c1 : c ≤ 18446744073709551615
  dw : D < w.heap.size
theorem LcAt.qs {w : World} {X : Nat} {S : Nat → Prop} {h : List Int} {b : Bool} {q : List Wq} (I : LcAt w X S h b q) : (q.map (·.s)).Nodup ∧ ∀ y ∈ q, inI y.s := by
  obtain ⟨H, P, L, hs, ps, M⟩ := I.ex
  exact ⟨M.qd, M.qi⟩
section
variable {w wr w1 w2 wr' w' : World} {X D M m : Nat} {S0 S1 S2 : Nat → Prop} {s : SrvR} {u u' : Value} {rs pe : List SeR} {c : Int} {h h' : List Int} {b b' : Bool} {q q' : List Wq} {y : Wq} {r : SeR}
theorem PdI.dl (I : PdI w wr X D M S0 S1 s m u rs pe c h b q) : D < wr.heap.size := lt_of_block I.d
theorem PdI.fresh (I : PdI w wr X D M S0 S1 s m u rs pe c h b q) (k : Below wr.heap.size wr wr') : PdI w wr' X D M S0 S1 s m u rs pe c h b q :=
  ⟨own_keep I.out fun g e => k.block g (I.out.lt g e).2, I.at'.fresh k, (k.block D I.dl).trans I.d, I.k.trans (Kept.of k), I.sep, I.sS, I.nd, I.eq, I.wt, I.hq, I.rq, I.c0, I.c1, I.dw⟩
theorem PdI.behindL (I : PdI w wr X D M S0 S1 s m u rs pe c h b q) (k1 : Kept wr w1 S1 S2) : w1.heap[D]? = some (.cells (pgA M c) pgT (0, 0)) ∧ ¬ S2 D :=
  ⟨(k1.kept D I.dl I.nd).trans I.d, fun e => by
    have := I.dl
    rcases k1.old D e with e | e
    · exact I.nd e
    · omega⟩
/-- The first that waits is taken out and granted the lock. -/
theorem PdI.mid (I : PdI w wr X D M S0 S1 s m u rs [] c h b (y :: q)) (hf : fitH h b y.rd = true) (k1 : Kept wr w1 S1 S2) (G : GraQ w1 X D S2 q M (giveH c h b y) w2) : PdI w w2 X D M S0 S2 s m u rs [(giveH c h b y).2.2.2] (giveH c h b y).1 (giveH c h b y).2.1 (giveH c h b y).2.2.1 q := by
  have hD := I.dl
  have n2 : ∀ g, S2 g → S1 g ∨ wr.heap.size ≤ g := k1.old
  have nd2 : ¬ S2 D := fun e => by
    rcases n2 D e with e | e
    · exact I.nd e
    · omega
  have sep2 : ∀ g, u.ownBlock = some g → ¬ S2 g := fun g e e2 => by
    have := (I.out.lt g e).2
    rcases n2 g e2 with e3 | e3
    · exact (I.sep g e).1 e3
    · omega
  have ho : ∀ g, u.ownBlock = some g → w2.heap[g]? = wr.heap[g]? := fun g e => by
    have hl := (I.out.lt g e).2
    rw [G.k.kept g (Nat.lt_of_lt_of_le hl k1.size) (fun e2 => by
      rcases e2 with e2 | e2
      · exact sep2 g e e2
      · exact (I.sep g e).2 e2), k1.kept g hl (I.sep g e).1]
  have hqs := I.at'.qs.1
  rw [List.map_cons, List.nodup_cons] at hqs
  refine ⟨own_keep I.out ho, G.at', G.d, I.k.trans ((⟨k1.os, k1.tape, k1.output, k1.size, fun g hg => by
      rcases hg with hg | hg
      · rcases k1.old g hg with h1 | h1
        · exact Or.inl (Or.inl h1)
        · exact Or.inr h1
      · exact Or.inl (Or.inr hg), fun g hg hn => k1.kept g hg (fun e => hn (Or.inl e))⟩ : Kept wr w1 (fun g => S1 g ∨ g = D) (fun g => S2 g ∨ g = D)).trans G.k), fun g e => ⟨sep2 g e, (I.sep g e).2⟩, fun g hg => ?_, nd2, ?_, fun z hz => ?_, ?_, ?_, ?_, ?_, I.dw⟩
  · rcases n2 g hg with h1 | h1
    · exact I.sS g h1
    · exact Or.inr (Nat.le_trans I.k.size h1)
  · rw [I.eq, List.append_nil]
    exact srvH_go hf rs
  · refine giveH_has (I.wt z (List.mem_cons_of_mem _ hz)) (fun e => hqs.1 ?_)
    rw [← e]
    exact List.mem_map.2 ⟨z, hz, rfl⟩
  · have := I.hq
    have := giveH_le c h b y
    simp only [List.length_cons] at *
    omega
  · have := I.rq
    simp only [List.length_cons, List.length_nil] at *
    omega
  · exact (giveH_c I.c0 I.c1).1
  · exact (giveH_c I.c0 I.c1).2
/-- The grant is put behind. -/
theorem PdI.app (I : PdI w wr X D M S0 S1 s m u rs pe c h b q) (o : wr'.ownsRow w.heap.size rpT 5 u' (rs ++ pe).length (rowL rpC (rs ++ pe))) (a : Appended w.heap.size wr wr' u u') : PdI w wr' X D M S0 S1 s m u' (rs ++ pe) [] c h b q := by
  have hk : ∀ g, g < wr.heap.size → u.ownBlock ≠ some g → wr'.heap[g]? = wr.heap[g]? := fun g h1 h2 => a.rest g h1 (fun e => h2 e.symm)
  refine ⟨o, I.at'.keep fun g hg => hk g (I.at'.bd g hg) (fun e => (I.sep g e).1 hg), (hk D I.dl (fun e => (I.sep D e).2 rfl)).trans I.d, ⟨a.below.os.trans I.k.os, a.below.tape.trans I.k.tape, a.below.output.trans I.k.output, Nat.le_trans I.k.size a.below.size, I.k.old, fun g hg hn => (hk g (Nat.lt_of_lt_of_le hg I.k.size) (fun e => ?_)).trans (I.k.kept g hg hn)⟩, fun g e => ?_, I.sS, I.nd, by rw [List.append_nil]; exact I.eq, I.wt, I.hq, by have := I.rq; rw [List.length_append, List.length_nil]; omega, I.c0, I.c1, I.dw⟩
  · have := (I.out.lt g e).1
    omega
  · rcases a.lies with h1 | h1
    · exact I.sep g (h1.symm.trans e)
    · rw [h1] at e
      have e : wr.heap.size = g := Option.some.inj e
      refine ⟨fun h2 => ?_, fun h2 => ?_⟩
      · have := I.at'.bd g h2
        omega
      · have := I.dl
        omega
end
def pdK (x : Lk) (c s : Int) : Int × Lk × List SeR := ((srvH (lessQ x.q s) c (dropL x.h s) x.wr).1, { x with h := (srvH (lessQ x.q s) c (dropL x.h s) x.wr).2.1, wr := (srvH (lessQ x.q s) c (dropL x.h s) x.wr).2.2.1, q := (srvH (lessQ x.q s) c (dropL x.h s) x.wr).2.2.2.1 }, (srvH (lessQ x.q s) c (dropL x.h s) x.wr).2.2.2.2)
def liveO (x : Lk) : Option Lk := if 0 < x.h.length then some x else none
theorem updK_twice (K : ByteArray → Option Lk) (nm : ByteArray) (a b : Option Lk) : updK (updK K nm a) nm b = updK K nm b := by
  funext n
  unfold updK
  by_cases h : n = nm
  · rw [if_pos h, if_pos h]
  · rw [if_neg h, if_neg h, if_neg h]
theorem updO_twice (own : ByteArray → Nat → Prop) (nm : ByteArray) (A B : Nat → Prop) : updO (updO own nm A) nm B = updO own nm B := by
  funext n
  unfold updO
  by_cases h : n = nm
  · rw [if_pos h, if_pos h]
  · rw [if_neg h, if_neg h, if_neg h]
theorem setL_struck {D M g : Nat} {own : ByteArray → Nat → Prop} {nm : ByteArray} {S1 : Nat → Prop} (h : setL D M (updO (updO own nm S1) nm fun _ => False) g) : setL D M (updO own nm S1) g := by
  rcases h with h | h | ⟨n, h⟩
  · exact Or.inl h
  · exact Or.inr (Or.inl h)
  · by_cases e : n = nm
    · subst e
      rw [updO_same] at h
      exact h.elim
    · rw [updO_ne _ _ e] at h
      exact Or.inr (Or.inr ⟨n, h⟩)
theorem kept_struck {w w' : World} {D M : Nat} {own : ByteArray → Nat → Prop} {nm : ByteArray} (hg : w.grownBy w' (some M)) (S1 : Nat → Prop) : Kept w w' (setL D M (updO own nm S1)) (setL D M (updO (updO own nm S1) nm fun _ => False)) :=
  ⟨hg.os, hg.tape, hg.output, hg.size, fun _ h => Or.inl (setL_struck h), fun g hlt hn => hg.block g hlt (fun e => hn (Or.inr (Or.inl (Option.some.inj e))))⟩
theorem wt_field (y : Wq) (w : World) : (Instr.field lcWT (.agg (lcWA y)) 2).run Try.prog w = .ok (.bool y.rd) w := by kernel_rfl
structure PdP (w : World) (base D M : Nat) (K : ByteArray → Option Lk) (own : ByteArray → Nat → Prop) (nm : ByteArray) (t : Int × Lk × List SeR) (e : Ending) (w' : World) : Prop where
  ex : ∃ u T' own', e = .returned u ∧ w'.ownsRow w.heap.size rpT 5 u t.2.2.length (rowL rpC t.2.2) ∧ LcL w' base D M t.1 (updK K nm (liveO t.2.1)) T' own' ∧ Kept w w' (setL D M own) (setL D M own') ∧ ∀ g, u.ownBlock = some g → ¬ setL D M own' g
section
variable {w : World} {base D M : Nat} {c : Int} {K : ByteArray → Option Lk} {T : List (ByteArray × Nat)} {own : ByteArray → Nat → Prop}
set_option maxRecDepth 100000 in
set_option maxHeartbeats 8000000 in
theorem pdrop_any (I : LcL w base D M c K T own) {nm : ByteArray} {x : Lk} (hx : K nm = some x) (hn : nm.size ≤ maxLen) {s : Int} (hi : inI s) (hw : ∀ y ∈ x.q, hasB x.h y.s = false) {m : Nat} (hq : x.h.length + x.q.length ≤ m) (hm : m < 65536) :
    Calls Try.prog 38 #[.pointer (some ⟨D, 0, none⟩), .string nm, .int .i64 s] w (PdP w base D M K own nm (pdK x c s)) := by
  obtain ⟨X, hX, hA⟩ := I.at' nm x hx
  have c0 := I.cellM
  have hlk := I.look1 hn
  rw [hX] at hlk
  change _ = Result.ok (Value.pointer (some ⟨X, 0, none⟩)) w at hlk
  have hd := ldrop_any hA hi
  have HI : Hid _ := I
  have HX : Hid (lookM T nm = some X) := hX
  have HN : Hid (nm.size ≤ maxLen) := hn
  obtain ⟨sv, hsv⟩ : ∃ sv, sv = srvH (lessQ x.q s) c (dropL x.h s) x.wr := ⟨_, rfl⟩
  have ht : pdK x c s = (sv.1, { x with h := sv.2.1, wr := sv.2.2.1, q := sv.2.2.2.1 }, sv.2.2.2.2) := by rw [hsv]; rfl
  rw [ht]
  have hJ : ∀ w1 S1, LcAt w1 X S1 (dropL x.h s) x.wr (lessQ x.q s) → Kept w w1 (own nm) S1 → PdI w w1 X D M (own nm) S1 sv m (.slice none 0 0) [] [] c (dropL x.h s) x.wr (lessQ x.q s) := fun w1 S1 h1 h2 => by
    have hnd : ¬ S1 D := fun e => by
      rcases h2.old D e with e | e
      · exact I.nD nm e
      · have := lt_of_block I.blk
        omega
    refine ⟨World.ownsRow_nil _ _ _ _, h1, (h2.kept D (lt_of_block I.blk) (I.nD nm)).trans I.blk, ⟨h2.os, h2.tape, h2.output, h2.size, fun g hg => ?_, fun g hg hn => h2.kept g hg (fun e => hn (Or.inl e))⟩, fun g e => (by cases e), h2.old, hnd, hsv, fun y hy => ?_, ?_, ?_, I.c0, I.c1, lt_of_block I.blk⟩
    · rcases hg with hg | hg
      · rcases h2.old g hg with e | e
        · exact Or.inl (Or.inl e)
        · exact Or.inr e
      · exact Or.inl (Or.inr hg)
    · have hyq := (List.mem_filter.1 hy).1
      have := hw y hyq
      unfold hasB at this ⊢
      rw [decide_eq_false_iff_not] at this ⊢
      exact fun e => this (List.mem_filter.1 e).1
    · have h3 : (dropL x.h s).length ≤ x.h.length := List.length_filter_le _ _
      have h4 : (lessQ x.q s).length ≤ x.q.length := List.length_filter_le _ _
      omega
    · have h4 : (lessQ x.q s).length ≤ x.q.length := List.length_filter_le _ _
      simp only [List.length_nil]
      omega
  have HJ : Hid _ := hJ
  have HM : Hid (m < 65536) := hm
  clear I hX hA hw hq hm hsv ht hJ hn hi
  go_enter Try.func38, Try.ntmps38
  go_upto_block 0 with (go_at_call 56; refine hd.mono ?_; rintro e w1 ⟨⟨v1, rfl⟩, S1, i1, k1⟩)
  have J1 : Hid _ := HJ.out w1 S1 i1 k1
  clear i1 k1 hd c0 hlk HJ
  go_wp2
  go_loopg [8] (lessQ x.q s).length (fun gh ou wr => ∃ (rs : List SeR) (c : Int) (h : List Int) (b : Bool) (q : List Wq) (S1 : Nat → Prop) (pa : Option Addr) (n pc : Nat), gh = q.length ∧ ou = .slice pa n pc ∧ Hid (PdI w wr X D M (own nm) S1 sv m (.slice pa n pc) rs [] c h b q))
  case atStart => exact ⟨[], c, dropL x.h s, x.wr, lessQ x.q s, S1, none, 0, 0, rfl, rfl, J1⟩
  case round =>
    clear J1 S1
    obtain ⟨rs, c, h, b, q2, S1, pa, n, pc, rfl, rfl, J⟩ := hrel
    have hany := anybody_any J.out.at'
    cases q2 with
    | nil =>
      rw [show decide (0 < ([] : List Wq).length) = false from rfl] at hany
      have HSE : Hid (sv = (c, h, b, [], rs)) := (show sv = _ from by rw [J.out.eq]; unfold srvH frontR; rw [List.append_nil, List.append_nil])
      go_upto_region 6 with (go_at_call 27; refine hany.mono ?_; rintro e w2 ⟨rfl, hz2⟩; obtain rfl : wr = w2 := hz2.symm)
      have HT : Hid (LcL wr base D M c (updK K nm (some { x with h := h, wr := b, q := [] })) T (updO own nm S1) ∧ Kept w wr (setL D M own) (setL D M (updO own nm S1))) := HI.out.turn HX.out (x := { x with h := h, wr := b, q := [] }) J.out.at' J.out.d J.out.k J.out.sS J.out.c0 J.out.c1
      have hh := held_any J.out.at'
      have z0 : wr.cell? ⟨D, 0, none⟩ = some (.map (some M)) := HT.out.1.cellM
      have HSP : Hid (∀ g, (Value.slice pa n pc).ownBlock = some g → w.heap.size ≤ g ∧ g < wr.heap.size ∧ ¬ setL D M (updO own nm S1) g) := fun g e => ⟨(J.out.out.lt g e).1, (J.out.out.lt g e).2, fun h2 => by
        have h3 := (J.out.out.lt g e).1
        rcases h2 with h2 | h2 | ⟨n2, h2⟩
        · exact (J.out.sep g e).2 h2
        · have := HI.out.map.lt
          omega
        · by_cases e2 : n2 = nm
          · subst e2
            rw [updO_same] at h2
            exact (J.out.sep g e).1 h2
          · rw [updO_ne own S1 e2] at h2
            have := HI.out.bdO h2
            omega⟩
      by_cases hl : 0 < h.length
      · rw [decide_eq_true hl] at hh
        have HL : Hid (0 < h.length) := hl
        clear hl
        go_wp2_with (go_at_call 31; refine hh.mono ?_; rintro e w5 ⟨rfl, rfl⟩)
        go_ret
        rw [HSE.out]
        refine ⟨_, T, _, rfl, J.out.out, ?_, HT.out.2, fun g e => (HSP.out g e).2.2⟩
        rw [show liveO { x with h := h, wr := b, q := [] } = some { x with h := h, wr := b, q := [] } from if_pos HL.out]
        exact HT.out.1
      · rw [decide_eq_false hl] at hh
        have HL : Hid (¬ 0 < h.length) := hl
        obtain ⟨w9, hdel, hm9, hg9, hz9⟩ := MapOf.del mNm_is HT.out.1.map HN.out 0
        change (Builtin.delete_ _ _ #[_, .string nm]).run _ _ = _ at hdel
        have H9 : Hid (LcL w9 base D M c (updK (updK K nm (some { x with h := h, wr := b, q := [] })) nm none) (delM T nm) (updO (updO own nm S1) nm fun _ => False) ∧ wr.grownBy w9 (some M)) := (show Hid _ from (⟨HT.out.1.del hm9 hg9, hg9⟩ : _ ∧ _))
        clear hl hm9 hg9 hz9
        go_wp2_with (go_at_call 31; refine hh.mono ?_; rintro e w5 ⟨rfl, rfl⟩)
        go_ret
        rw [HSE.out]
        refine ⟨_, delM T nm, _, rfl, own_keep J.out.out fun g e => H9.out.2.block g (HSP.out g e).2.1 (fun e2 => (HSP.out g e).2.2 (by rw [← Option.some.inj e2]; exact Or.inr (Or.inl rfl))), ?_, HT.out.2.trans (kept_struck H9.out.2 S1), fun g e h2 => (HSP.out g e).2.2 (setL_struck h2)⟩
        have h9 := H9.out.1
        rw [updK_twice, updO_twice] at h9
        rw [show liveO { x with h := h, wr := b, q := [] } = none from if_neg HL.out, updO_twice]
        exact h9
    | cons y q2 =>
      rw [show decide (0 < (y :: q2).length) = true from decide_eq_true (by simp)] at hany
      have hfst := first_any J.out.at'
      have hfd := wt_field y
      cases hf : fitH h b y.rd with
      | false =>
        have HSE : Hid (sv = (c, h, b, (y :: q2), rs)) := (show sv = _ from by rw [J.out.eq, srvH_stop hf]; unfold frontR; rw [List.append_nil, List.append_nil])
        go_upto_region 6 with (first | (go_at_call 28; refine (hasRoom_any J3.out.at' y.rd).mono ?_; rintro e w4 ⟨rfl, hz4⟩; obtain rfl : w3 = w4 := hz4.symm) | (go_at_call 57; refine hfst.mono ?_; rintro e w3 ⟨rfl, b3⟩; have J3 : Hid _ := J.out.fresh b3) | (go_at_call 27; refine hany.mono ?_; rintro e w2 ⟨rfl, hz2⟩; obtain rfl : wr = w2 := hz2.symm))
        have HT : Hid (LcL w3 base D M c (updK K nm (some { x with h := h, wr := b, q := (y :: q2) })) T (updO own nm S1) ∧ Kept w w3 (setL D M own) (setL D M (updO own nm S1))) := HI.out.turn HX.out (x := { x with h := h, wr := b, q := (y :: q2) }) J3.out.at' J3.out.d J3.out.k J3.out.sS J3.out.c0 J3.out.c1
        have hh := held_any J3.out.at'
        have z0 : w3.cell? ⟨D, 0, none⟩ = some (.map (some M)) := HT.out.1.cellM
        have HSP : Hid (∀ g, (Value.slice pa n pc).ownBlock = some g → w.heap.size ≤ g ∧ g < w3.heap.size ∧ ¬ setL D M (updO own nm S1) g) := fun g e => ⟨(J3.out.out.lt g e).1, (J3.out.out.lt g e).2, fun h2 => by
          have h3 := (J3.out.out.lt g e).1
          rcases h2 with h2 | h2 | ⟨n2, h2⟩
          · exact (J3.out.sep g e).2 h2
          · have := HI.out.map.lt
            omega
          · by_cases e2 : n2 = nm
            · subst e2
              rw [updO_same] at h2
              exact (J3.out.sep g e).1 h2
            · rw [updO_ne own S1 e2] at h2
              have := HI.out.bdO h2
              omega⟩
        by_cases hl : 0 < h.length
        · rw [decide_eq_true hl] at hh
          have HL : Hid (0 < h.length) := hl
          clear hl
          go_wp2_with (go_at_call 31; refine hh.mono ?_; rintro e w5 ⟨rfl, rfl⟩)
          go_ret
          rw [HSE.out]
          refine ⟨_, T, _, rfl, J3.out.out, ?_, HT.out.2, fun g e => (HSP.out g e).2.2⟩
          rw [show liveO { x with h := h, wr := b, q := (y :: q2) } = some { x with h := h, wr := b, q := (y :: q2) } from if_pos HL.out]
          exact HT.out.1
        · rw [decide_eq_false hl] at hh
          have HL : Hid (¬ 0 < h.length) := hl
          obtain ⟨w9, hdel, hm9, hg9, hz9⟩ := MapOf.del mNm_is HT.out.1.map HN.out 0
          change (Builtin.delete_ _ _ #[_, .string nm]).run _ _ = _ at hdel
          have H9 : Hid (LcL w9 base D M c (updK (updK K nm (some { x with h := h, wr := b, q := (y :: q2) })) nm none) (delM T nm) (updO (updO own nm S1) nm fun _ => False) ∧ w3.grownBy w9 (some M)) := (show Hid _ from (⟨HT.out.1.del hm9 hg9, hg9⟩ : _ ∧ _))
          clear hl hm9 hg9 hz9
          go_wp2_with (go_at_call 31; refine hh.mono ?_; rintro e w5 ⟨rfl, rfl⟩)
          go_ret
          rw [HSE.out]
          refine ⟨_, delM T nm, _, rfl, own_keep J3.out.out fun g e => H9.out.2.block g (HSP.out g e).2.1 (fun e2 => (HSP.out g e).2.2 (by rw [← Option.some.inj e2]; exact Or.inr (Or.inl rfl))), ?_, HT.out.2.trans (kept_struck H9.out.2 S1), fun g e h2 => (HSP.out g e).2.2 (setL_struck h2)⟩
          have h9 := H9.out.1
          rw [updK_twice, updO_twice] at h9
          rw [show liveO { x with h := h, wr := b, q := (y :: q2) } = none from if_neg HL.out, updO_twice]
          exact h9
      | true =>
        go_wp2_with (first | (go_at_call 25; rw [HW7.out]; refine (behind_any J7.out.out R7.out (Nat.le_trans J7.out.k.size (Nat.le_refl _)) (by have := J7.out.rq; have := HM.out; simp only [List.length_singleton] at *; omega)).mono ?_; rintro e w8 ⟨u8, rfl, o8, a8⟩; have J8 := J7.out.app o8 a8; obtain ⟨p8, n8, c8, rfl⟩ := own_form o8) | (go_at_call 30; refine (grant_any i5 hd5 nd5 J3.out.c0 J3.out.c1 y (J3.out.at'.qs.2 y List.mem_cons_self) (J3.out.wt y List.mem_cons_self) (by have := J3.out.hq; have := HM.out; simp only [List.length_cons] at *; omega)).mono ?_; rintro e w6 ⟨rfl, G6⟩; have J6 := J3.out.mid hf k5 G6; generalize giveH c h b y = gv at *; obtain ⟨c6, h6, b6, r6⟩ := gv; obtain ⟨w7, hw7⟩ : ∃ w7, w7 = w6.alloc (.cells (rpA r6) rpT) := ⟨_, rfl⟩; have b7 : Below w6.heap.size w6 w7 := (by rw [hw7]; exact (Below.refl _ w6).alloc (Nat.le_refl _) _); have n7 : w7.heap[w6.heap.size]? = some (.cells (rpA r6) rpT (0, 0)) := (by rw [hw7]; exact heap_alloc_new w6 _); have J7 : Hid (PdI w w7 X D M (own nm) S2 sv m (.slice pa n pc) rs [r6] c6 h6 b6 q2) := J6.fresh b7; have R7 : Hid (RowAt rpC w7 (.slice (some ⟨w6.heap.size, 0, none⟩) 1 1) [r6]) := RowAt.built n7 (by simp [rowL, rpC]) 1 rfl rfl; have HW7 : Hid (w6.alloc (.cells #[.int .i64 r6.session, .int .i64 r6.seq, .int .i64 r6.err, .int .u64 r6.token, .int .i64 r6.n] rpT) = w7) := hw7.symm; clear hw7 b7 n7 J6 G6 i5 hd5 nd5 k5) | (go_at_call 58; refine (leave_any J3.out.at').mono ?_; rintro e w5 ⟨rfl, S2, i5, k5⟩; obtain ⟨hd5, nd5⟩ := J3.out.behindL k5) | (go_at_call 28; refine (hasRoom_any J3.out.at' y.rd).mono ?_; rintro e w4 ⟨rfl, hz4⟩; obtain rfl : w3 = w4 := hz4.symm) | (go_at_call 57; refine hfst.mono ?_; rintro e w3 ⟨rfl, b3⟩; have J3 : Hid _ := J.out.fresh b3) | (go_at_call 27; refine hany.mono ?_; rintro e w2 ⟨rfl, hz2⟩; obtain rfl : wr = w2 := hz2.symm))
        go_roundg q2.length
        case measure => simp
        case rel => exact ⟨rs ++ [r6], c6, h6, b6, q2, S2, p8, n8, c8, rfl, rfl, J8⟩
end
end Go.Proofs.Ytmfadmhbkgemmaa
