/-
  Package session: Client, Close, begin, Begin, End, as plain data. The condition: numbers are ints.
-/
import Derived.Test.YthokbififjhflaaSeLife
import Derived.Test.YthokbififjhflaaGStore
namespace Go.Proofs.Ythokbififjhflaa
open Go.RowKit

theorem results_rep {fn : Func} {p q : Tmp} {ty : TypeId} (h : fn.results = #[.cell p ty, .tmp q]) (tmps : Array Value) (w : World) (g : Nat) (cs : Array Value)
    (hp : tmps.getD p undef = .pointer (some ⟨g, 0, none⟩)) (hl : (loadVar ty ⟨g, 0, none⟩).run Try.prog w = .ok (.agg cs) w) :
    (results fn tmps).run Try.prog w = .ok (.tuple #[.agg cs, tmps.getD q undef]) w := by
  have hp' : tmps[p]?.getD undef = .pointer (some ⟨g, 0, none⟩) := by simpa using hp
  simp [results, h, hp', asAddr, hl]
theorem sizeRep : (Try.prog.info? 36).map (·.size) = some 5 := by kernel_rfl
theorem load_rep {w : World} {g : Nat} {r : SeR} (hg : w.heap[g]? = some (.cells (seRA r) 36 (0, 0))) : (loadVar 36 ⟨g, 0, none⟩).run Try.prog w = .ok (.agg (seRA r)) w :=
  run_loadVar_row w g 36 36 _ (0, 0) _ hg Try.underlying36 rfl sizeRep
set_option maxRecDepth 100000 in
set_option maxHeartbeats 2000000 in
theorem client_any {w : World} {base X : Nat} {S : Nat → Prop} {l : List SeX} (h : SeAt w base X S l) {id : Int} (hi : okI id) : Calls Try.prog 17 #[.pointer (some ⟨X, 0, none⟩), .int .i64 id] w fun e w' => e = .returned (.tuple #[.int .i64 (seCli l id).1, .int .i64 (seCli l id).2.1, .bool (seCli l id).2.2]) ∧ Below w.heap.size w w' := by
  obtain ⟨ma, mo, la, lo, ps, L, hM⟩ := h.ex
  have c0 : w.cell? ⟨X, 0, none⟩ = some (.map (some ma)) := hM.cell 0 _ rfl
  have hlk := hM.lookA hi
  cases hx : seAt l id with
  | none =>
    have e1 : sePt ps id = none := sePt_none hM.nps hx
    have e2 : seCli l id = (0, 0, false) := by unfold seCli; rw [hx]
    rw [e2]
    rw [e1] at hlk
    simp only [seV, Option.isSome_none] at hlk
    clear hM h e1 hx e2
    go_enter Try.func17, Try.ntmps17
    go_wp2
    go_ret3
    exact ⟨rfl, Below.refl _ _⟩
  | some x =>
    obtain ⟨b, e1, _, _, hB⟩ := hM.sess hx
    have e2 : seCli l id = (x.client, x.life, true) := by unfold seCli; rw [hx]
    rw [e2]
    rw [e1] at hlk
    simp only [seV, Option.isSome_some] at hlk
    have x0 : w.cell? ⟨b, 0, none⟩ = some (.int .i64 x.client) := hB.cell 0 _ rfl
    have x1 : w.cell? ⟨b, 1, none⟩ = some (.int .i64 x.life) := hB.cell 1 _ rfl
    clear hM h e1 hx hB e2
    go_enter Try.func17, Try.ntmps17
    go_wp2
    go_quiet (fail)
    go_wp2
    go_ret3
    exact ⟨rfl, below_drewN (Below.refl _ _) _⟩
structure SeClP (w : World) (base X : Nat) (S : Nat → Prop) (q : List SeX × Bool) (e : Ending) (w' : World) : Prop where
  ex : e = .returned (.bool q.2) ∧ SeAt w' base X S q.1 ∧ Kept w w' S S
theorem kept_grown {w w' : World} {S : Nat → Prop} {b : Nat} (hg : w.grownBy w' (some b)) (hb : S b) : Kept w w' S S :=
  ⟨hg.os, hg.tape, hg.output, hg.size, fun _ h => Or.inl h, fun g hlt hn => hg.block g hlt (fun e => hn (by cases e; exact hb))⟩
theorem delM_none {l : List (Int × Nat)} {n : Int} (h : lookM l n = none) : delM l n = l := by
  unfold delM
  exact List.filter_eq_self.2 fun p hp => by simpa using lookM_no h p hp
theorem set_self {α : Type} {l : List α} {k : Nat} {x : α} (h : l[k]? = some x) : l.set k x = l := by
  apply List.ext_getElem?
  intro i
  rw [set_at h]
  by_cases e : i = k
  · rw [if_pos e, e, h]
  · rw [if_neg e]
set_option maxRecDepth 100000 in
set_option maxHeartbeats 2000000 in
theorem close_any {w : World} {base X : Nat} {S : Nat → Prop} {l : List SeX} (h : SeAt w base X S l) {id : Int} (hi : okI id) : Calls Try.prog 25 #[.pointer (some ⟨X, 0, none⟩), .int .i64 id] w (SeClP w base X S (seClo l id)) := by
  obtain ⟨ma, mo, la, lo, ps, L, hM⟩ := h.ex
  have c1 : w.cell? ⟨X, 1, none⟩ = some (.map (some mo)) := hM.cell 1 _ rfl
  have hlk := hM.lookO hi
  obtain ⟨W', hdel, hm', hg', hz'⟩ := MapOf.del mSe_is hM.opn hi 0
  have hop : seOp l id = (seClo l id).2 := by
    unfold seOp seClo
    cases hx : seAt l id with
    | none => rfl
    | some x => cases ho : x.op <;> simp [ho]
  obtain ⟨v, hv⟩ : ∃ v, v = seV (if seOp l id = true then sePt ps id else none) := ⟨_, rfl⟩
  rw [← hv, hop] at hlk
  have hend : SeAt W' base X S (seClo l id).1 := by
    have hok := h.ok.clo id
    have hlen : (seClo l id).1.length ≤ 1000000 := by rw [seClo_len]; exact h.len
    unfold seOp at hop
    unfold seClo at hok hlen hop ⊢
    cases hx : seAt l id with
    | none =>
      simp only [hx] at hok hlen hop ⊢
      have e2 : lookM lo id = none := by rw [hM.lko]; unfold seOp; rw [hx]; rfl
      rw [delM_none e2] at hm'
      exact ⟨⟨ma, mo, la, lo, ps, L, (hM.keep2 hm' hg')⟩, hok, hlen⟩
    | some x =>
      simp only [hx] at hok hlen hop ⊢
      by_cases ho : x.op = true
      · rw [if_pos ho] at hok hlen ⊢
        exact ⟨⟨ma, mo, la, _, ps, L, hM.shut hx hm' hg'⟩, hok, hlen⟩
      · rw [if_neg ho] at hok hlen ⊢
        have e2 : lookM lo id = none := by rw [hM.lko]; unfold seOp; rw [hx, if_neg ho]
        rw [delM_none e2] at hm'
        exact ⟨⟨ma, mo, la, lo, ps, L, (hM.keep2 hm' hg')⟩, hok, hlen⟩
  have HE : Hid (SeAt W' base X S (seClo l id).1 ∧ Kept w W' S S) := (show Hid _ from (⟨hend, kept_grown hg' hM.inO⟩ : _ ∧ _))
  obtain ⟨a, ha⟩ : ∃ a, a = (seClo l id).2 := ⟨_, rfl⟩
  rw [← ha] at hlk
  have HA : Hid (a = (seClo l id).2) := ha
  clear hend hm' hg' hz' hM h hv hop ha
  go_enter Try.func25, Try.ntmps25
  go_wp2
  go_ret
  exact ⟨by rw [← HA.out]; rfl, HE.out.1, HE.out.2⟩
theorem grown_rf (w : World) (row : Option Nat) : w.grownBy w row := ⟨rfl, rfl, rfl, Nat.le_refl _, fun _ _ _ => rfl⟩
theorem grown_cell {w w1 : World} {b j : Nat} {v : Value} (h : w.grownBy w1 (some b)) : w.grownBy (w1.setCell ⟨b, j, none⟩ v) (some b) :=
  ⟨h.os, h.tape, h.output, by simpa using h.size, fun g hg hn => (heap_setCell_other _ _ _ _ (fun e => hn (by rw [e]))).trans (h.block g hg hn)⟩
/-- What begin tells, what it leaves. -/
def seCode (x : SeX) (q : Int) : Int := if q = x.seq then 2 else if q < x.seq then 3 else if 0 < x.seq ∧ x.said = false then 5 else 0
def seNext (x : SeX) (q : Int) : SeX := if seCode x q = 0 then { x with seq := q, said := false, r := SeR.zero } else x
structure SeBgP (w : World) (b : Nat) (x : SeX) (q : Int) (e : Ending) (w' : World) : Prop where
  ex : e = .returned (.int .i64 (seCode x q)) ∧ SeB w' b (seNext x q) ∧ w.grownBy w' (some b)
set_option maxRecDepth 100000 in
set_option maxHeartbeats 2000000 in
theorem sbegin_in {w : World} {b : Nat} {x : SeX} (h : SeB w b x) (q : Int) : Calls Try.prog 51 #[.pointer (some ⟨b, 0, none⟩), .int .i64 q] w (SeBgP w b x q) := by
  have c2 : w.cell? ⟨b, 2, none⟩ = some (.int .i64 x.seq) := h.cell 2 _ rfl
  have c3 : w.cell? ⟨b, 3, none⟩ = some (.bool x.said) := h.cell 3 _ rfl
  have fz := h.fz
  have HB : Hid (SeB w b x) := h
  by_cases h1 : q = x.seq
  · have e1 : seCode x q = 2 := by unfold seCode; rw [if_pos h1]
    have e2 : seNext x q = x := by unfold seNext; rw [e1, if_neg (by decide)]
    have t1 : (q == x.seq) = true := by simpa using h1
    have HE : Hid (seCode x q = 2 ∧ seNext x q = x) := (show Hid _ from (⟨e1, e2⟩ : _ ∧ _))
    clear h h1 e1 e2
    go_enter Try.func51, Try.ntmps51
    go_wp2
    go_ret
    exact ⟨by rw [HE.out.1]; rfl, by rw [HE.out.2]; exact HB.out, grown_rf _ _⟩
  have t1 : (q == x.seq) = false := by simpa using h1
  by_cases h2 : q < x.seq
  · have e1 : seCode x q = 3 := by unfold seCode; rw [if_neg h1, if_pos h2]
    have e2 : seNext x q = x := by unfold seNext; rw [e1, if_neg (by decide)]
    have t2 : decide (q < x.seq) = true := decide_eq_true h2
    have HE : Hid (seCode x q = 3 ∧ seNext x q = x) := (show Hid _ from (⟨e1, e2⟩ : _ ∧ _))
    clear h h1 h2 e1 e2
    go_enter Try.func51, Try.ntmps51
    go_wp2
    go_ret
    exact ⟨by rw [HE.out.1]; rfl, by rw [HE.out.2]; exact HB.out, grown_rf _ _⟩
  have t2 : decide (q < x.seq) = false := decide_eq_false h2
  by_cases h3 : 0 < x.seq ∧ x.said = false
  · have e1 : seCode x q = 5 := by unfold seCode; rw [if_neg h1, if_neg h2, if_pos h3]
    have e2 : seNext x q = x := by unfold seNext; rw [e1, if_neg (by decide)]
    have t3 : decide (0 < x.seq) = true := decide_eq_true h3.1
    rw [h3.2] at c3
    have HE : Hid (seCode x q = 5 ∧ seNext x q = x) := (show Hid _ from (⟨e1, e2⟩ : _ ∧ _))
    clear h h1 h2 h3 e1 e2
    go_enter Try.func51, Try.ntmps51
    go_wp2
    go_ret
    exact ⟨by rw [HE.out.1]; rfl, by rw [HE.out.2]; exact HB.out, grown_rf _ _⟩
  have e1 : seCode x q = 0 := by unfold seCode; rw [if_neg h1, if_neg h2, if_neg h3]
  have e2 : seNext x q = { x with seq := q, said := false, r := SeR.zero } := by unfold seNext; rw [if_pos e1]
  have x0 : w.cell? ⟨b, 4, none⟩ = some (.int .i64 x.r.session) := h.cell 4 _ rfl
  have x1 : w.cell? ⟨b, 5, none⟩ = some (.int .i64 x.r.seq) := h.cell 5 _ rfl
  have x2 : w.cell? ⟨b, 6, none⟩ = some (.int .i64 x.r.err) := h.cell 6 _ rfl
  have x3 : w.cell? ⟨b, 7, none⟩ = some (.int .u64 x.r.token) := h.cell 7 _ rfl
  have x4 : w.cell? ⟨b, 8, none⟩ = some (.int .i64 x.r.n) := h.cell 8 _ rfl
  have HE : Hid (seCode x q = 0 ∧ seNext x q = { x with seq := q, said := false, r := SeR.zero }) := (show Hid _ from (⟨e1, e2⟩ : _ ∧ _))
  by_cases h4 : 0 < x.seq
  · have h5 : x.said = true := by
      cases hs : x.said with
      | true => rfl
      | false => exact absurd ⟨h4, hs⟩ h3
    have t3 : decide (0 < x.seq) = true := decide_eq_true h4
    rw [h5] at c3
    clear h h1 h2 h3 h4 e1 e2 h5
    go_enter Try.func51, Try.ntmps51
    go_wp2
    go_ret
    refine ⟨by rw [HE.out.1]; rfl, ?_, grown_cell (grown_cell (grown_cell (grown_cell (grown_cell (grown_cell (grown_cell (grown_rf _ _)))))))⟩
    rw [HE.out.2]
    have h1 := heap_setCell_same w b 2 _ _ (.int .i64 q) HB.out
    have h2 := heap_setCell_same _ b 3 _ _ (.bool false) h1
    have h3 := heap_setCell_same _ b 4 _ _ (.int .i64 0) h2
    have h4 := heap_setCell_same _ b 5 _ _ (.int .i64 0) h3
    have h5 := heap_setCell_same _ b 6 _ _ (.int .i64 0) h4
    have h6 := heap_setCell_same _ b 7 _ _ (.int .u64 0) h5
    have h7 := heap_setCell_same _ b 8 _ _ (.int .i64 0) h6
    exact h7
  · have t3 : decide (0 < x.seq) = false := decide_eq_false h4
    clear h h1 h2 h3 h4 e1 e2
    go_enter Try.func51, Try.ntmps51
    go_wp2
    go_ret
    refine ⟨by rw [HE.out.1]; rfl, ?_, grown_cell (grown_cell (grown_cell (grown_cell (grown_cell (grown_cell (grown_cell (grown_rf _ _)))))))⟩
    rw [HE.out.2]
    have h1 := heap_setCell_same w b 2 _ _ (.int .i64 q) HB.out
    have h2 := heap_setCell_same _ b 3 _ _ (.bool false) h1
    have h3 := heap_setCell_same _ b 4 _ _ (.int .i64 0) h2
    have h4 := heap_setCell_same _ b 5 _ _ (.int .i64 0) h3
    have h5 := heap_setCell_same _ b 6 _ _ (.int .i64 0) h4
    have h6 := heap_setCell_same _ b 7 _ _ (.int .u64 0) h5
    have h7 := heap_setCell_same _ b 8 _ _ (.int .i64 0) h6
    exact h7
theorem seBeg_none {l : List SeX} {id : Int} (q : Int) (h : seAt l id = none) : seBeg l id q = (l, SeR.zero, 4) := by
  unfold seBeg
  rw [h]
theorem seBeg_said {l : List SeX} {id q : Int} {x : SeX} (h : seAt l id = some x) (hs : x.said = true ∧ x.seq = q) : seBeg l id q = (l, x.r, 1) := by
  unfold seBeg
  rw [h]
  simp only
  rw [if_pos hs]
theorem seBeg_shut {l : List SeX} {id q : Int} {x : SeX} (h : seAt l id = some x) (hs : ¬ (x.said = true ∧ x.seq = q)) (ho : x.op = false) : seBeg l id q = (l, SeR.zero, 4) := by
  unfold seBeg
  rw [h]
  simp only
  rw [if_neg hs, if_pos ho]
theorem seBeg_open {l : List SeX} {id q : Int} {x : SeX} (h : seAt l id = some x) (hs : ¬ (x.said = true ∧ x.seq = q)) (ho : ¬ x.op = false) : seBeg l id q = (l.set (id.toNat - 1) (seNext x q), SeR.zero, seCode x q) := by
  have hself := set_self (seAt_some h).2.2
  unfold seBeg
  rw [h]
  simp only
  rw [if_neg hs, if_neg ho]
  unfold seNext
  by_cases h1 : q = x.seq
  · have e1 : seCode x q = 2 := by unfold seCode; rw [if_pos h1]
    rw [if_pos h1, e1, if_neg (by decide), hself]
  rw [if_neg h1]
  by_cases h2 : q < x.seq
  · have e1 : seCode x q = 3 := by unfold seCode; rw [if_neg h1, if_pos h2]
    rw [if_pos h2, e1, if_neg (by decide), hself]
  rw [if_neg h2]
  by_cases h3 : 0 < x.seq ∧ x.said = false
  · have e1 : seCode x q = 5 := by unfold seCode; rw [if_neg h1, if_neg h2, if_pos h3]
    rw [if_pos h3, e1, if_neg (by decide), hself]
  rw [if_neg h3]
  have e1 : seCode x q = 0 := by unfold seCode; rw [if_neg h1, if_neg h2, if_neg h3]
  rw [e1, if_pos rfl]
theorem seNext_client (x : SeX) (q : Int) : (seNext x q).client = x.client := by unfold seNext; split <;> rfl
theorem seNext_op (x : SeX) (q : Int) : (seNext x q).op = x.op := by unfold seNext; split <;> rfl
structure SeBeP (w : World) (base X : Nat) (S : Nat → Prop) (q : List SeX × SeR × Int) (e : Ending) (w' : World) : Prop where
  ex : e = .returned (.tuple #[.agg (seRA q.2.1), .int .i64 q.2.2]) ∧ SeAt w' base X S q.1 ∧ Kept w w' S S
/-- A call's own block written behind it. -/
theorem below_out {w W w4 : World} (bW : Below w.heap.size w W) (g4 : W.grownBy w4 (some w.heap.size)) : Below w.heap.size w w4 :=
  bW.grown g4 bW.size (fun k hk => by have := Option.some.inj hk; omega)
set_option maxRecDepth 100000 in
set_option maxHeartbeats 4000000 in
theorem sbegin_any {w : World} {base X : Nat} {S : Nat → Prop} {l : List SeX} (h : SeAt w base X S l) {id q : Int} (hi : okI id) (hq : okI q) : Calls Try.prog 23 #[.pointer (some ⟨X, 0, none⟩), .int .i64 id, .int .i64 q] w (SeBeP w base X S (seBeg l id q)) := by
  obtain ⟨W, hW⟩ : ∃ W, W = w.alloc (.cells (seRA SeR.zero) 36) := ⟨_, rfl⟩
  have bW : Below w.heap.size w W := by rw [hW]; exact (Below.refl _ w).alloc (Nat.le_refl _) _
  have rW : W.heap[w.heap.size]? = some (.cells (seRA SeR.zero) 36 (0, 0)) := by rw [hW]; exact heap_alloc_new w _
  have HW : Hid (w.alloc (.cells #[.int .i64 0, .int .i64 0, .int .i64 0, .int .u64 0, .int .i64 0] 36) = W) := hW.symm
  have hA := h.fresh bW
  obtain ⟨ma, mo, la, lo, ps, L, hM⟩ := hA.ex
  have c0 : W.cell? ⟨X, 0, none⟩ = some (.map (some ma)) := hM.cell 0 _ rfl
  have c1 : W.cell? ⟨X, 1, none⟩ = some (.map (some mo)) := hM.cell 1 _ rfl
  have hlk := hM.lookA hi
  have hlo := hM.lookO hi
  have HR : Hid (Below w.heap.size w W ∧ W.heap[w.heap.size]? = some (.cells (seRA SeR.zero) 36 (0, 0))) := (show Hid _ from (⟨bW, rW⟩ : _ ∧ _))
  have HA : Hid (SeAt w base X S l) := h
  clear hW bW rW
  cases hx : seAt l id with
  | none =>
    have e1 : sePt ps id = none := sePt_none hM.nps hx
    have e2 : seOp l id = false := by unfold seOp; rw [hx]
    rw [seBeg_none q hx]
    rw [e1] at hlk
    rw [e2, if_neg (by decide)] at hlo
    simp only [seV, Option.isSome_none] at hlk hlo
    clear hM h hA e1 hx e2
    go_enter Try.func23, Try.ntmps23
    go_upto_region 1 with fail
    rw [HW.out]
    go_wp2_with (show wpList _ _ _ (⟨_, Op.store 36 _ _, _, _, _, _⟩ :: _) _ _; refine store_row_g rfl 36 _ _ rfl w.heap.size (seRA SeR.zero) rfl rfl 36 _ HR.out.2 sizeRep rfl (by simp [Value.oneCell']) ?_; intro w4 h4 g4)
    refine bodyPost_ret (results_rep Try.results23 _ _ w.heap.size _ rfl (load_rep h4)) rfl ?_
    have b4 := below_out HR.out.1 g4
    exact ⟨rfl, HA.out.fresh b4, Kept.of b4⟩
  | some x =>
    obtain ⟨b, e1, e4, e5, hB⟩ := hM.sess hx
    have e2 : seOp l id = x.op := by unfold seOp; rw [hx]
    rw [e1] at hlk
    rw [e2, e1] at hlo
    have x2 : W.cell? ⟨b, 2, none⟩ = some (.int .i64 x.seq) := hB.cell 2 _ rfl
    have x3 : W.cell? ⟨b, 3, none⟩ = some (.bool x.said) := hB.cell 3 _ rfl
    simp only [seV, Option.isSome_some] at hlk
    by_cases hs : x.said = true ∧ x.seq = q
    · rw [seBeg_said hx hs]
      have x4 : W.cell? ⟨b, 4, none⟩ = some (.int .i64 x.r.session) := hB.cell 4 _ rfl
      have x5 : W.cell? ⟨b, 5, none⟩ = some (.int .i64 x.r.seq) := hB.cell 5 _ rfl
      have x6 : W.cell? ⟨b, 6, none⟩ = some (.int .i64 x.r.err) := hB.cell 6 _ rfl
      have x7 : W.cell? ⟨b, 7, none⟩ = some (.int .u64 x.r.token) := hB.cell 7 _ rfl
      have x8 : W.cell? ⟨b, 8, none⟩ = some (.int .i64 x.r.n) := hB.cell 8 _ rfl
      have t1 : (x.seq == q) = true := by simpa using hs.2
      rw [hs.1] at x3
      clear hM h hA e1 hx e2 e4 e5 hs hB
      go_enter Try.func23, Try.ntmps23
      go_upto_region 1 with fail
      rw [HW.out]
      go_wp2_with (show wpList _ _ _ (⟨_, Op.store 36 _ _, _, _, _, _⟩ :: _) _ _; refine store_row_g rfl 36 _ _ rfl w.heap.size (seRA x.r) rfl rfl 36 _ HR.out.2 sizeRep rfl (by simp [Value.oneCell']) ?_; intro w4 h4 g4)
      refine bodyPost_ret (results_rep Try.results23 _ _ w.heap.size _ rfl (load_rep h4)) rfl ?_
      have b4 := below_out HR.out.1 g4
      exact ⟨rfl, HA.out.fresh b4, Kept.of b4⟩
    · have t1 : x.said = false ∨ x.said = true ∧ (x.seq == q) = false := by
        cases h1 : x.said with
        | false => exact Or.inl rfl
        | true => exact Or.inr ⟨rfl, by simpa using fun e => hs ⟨h1, e⟩⟩
      by_cases ho : x.op = false
      · rw [seBeg_shut hx hs ho]
        rw [ho, if_neg (by decide)] at hlo
        simp only [seV] at hlo
        clear hM h hA e1 hx e2 e4 e5 hs hB ho
        rcases t1 with t1 | ⟨t1, t2⟩
        all_goals
          rw [t1] at x3
          clear t1
          go_enter Try.func23, Try.ntmps23
          go_upto_region 1 with fail
          rw [HW.out]
          go_wp2_with (show wpList _ _ _ (⟨_, Op.store 36 _ _, _, _, _, _⟩ :: _) _ _; refine store_row_g rfl 36 _ _ rfl w.heap.size (seRA SeR.zero) rfl rfl 36 _ HR.out.2 sizeRep rfl (by simp [Value.oneCell']) ?_; intro w4 h4 g4)
          refine bodyPost_ret (results_rep Try.results23 _ _ w.heap.size _ rfl (load_rep h4)) rfl ?_
          have b4 := below_out HR.out.1 g4
          exact ⟨rfl, HA.out.fresh b4, Kept.of b4⟩
      · have ho' : x.op = true := by simpa using ho
        rw [ho', if_pos rfl] at hlo
        simp only [seV] at hlo
        have hok := h.ok.beg id q hq.2
        have hln := h.len
        rw [seBeg_open hx hs ho] at hok ⊢
        have hmb : b < w.heap.size := (h.bd b (hM.inP e5)).2
        have HC : Hid _ := sbegin_in hB q
        have HF : Hid (∀ w3 w4 : World, SeB w3 b (seNext x q) → W.grownBy w3 (some b) → w3.grownBy w4 (some w.heap.size) → SeAt w4 base X S (l.set (id.toNat - 1) (seNext x q)) ∧ Kept w w4 S S) := by
          intro w3 w4 h3 g3 g4
          have hM3 := hM.setX (seAt_some hx).2.2 e4 (seNext_client x q) (seNext_op x q) h3 g3
          have hk : ∀ g, S g → w4.heap[g]? = w3.heap[g]? := fun g hg => g4.block g (hM3.bd g hg) (fun e => by have := Option.some.inj e; have := (h.bd g hg).2; omega)
          refine ⟨⟨⟨ma, mo, la, lo, ps, L, hM3.keep hk⟩, hok, by rw [List.length_set]; exact hln⟩, ?_⟩
          have k1 : Kept w W S S := Kept.of HR.out.1
          have k2 : Kept W w3 S S := kept_grown g3 (hM.inP e5)
          refine ⟨g4.os.trans (k2.os.trans k1.os), g4.tape.trans (k2.tape.trans k1.tape), g4.output.trans (k2.output.trans k1.output), Nat.le_trans k1.size (Nat.le_trans k2.size g4.size), fun _ hg => Or.inl hg, fun g hg hn => ?_⟩
          exact (g4.block g (by have := k1.size; have := k2.size; omega) (fun e => by have := Option.some.inj e; omega)).trans ((k2.kept g (by have := k1.size; omega) hn).trans (k1.kept g hg hn))
        have HN : Hid (b < w.heap.size) := hmb
        clear hM h hA e1 hx e2 e4 e5 hs hB ho ho' hok hmb hln
        rcases t1 with t1 | ⟨t1, t2⟩
        all_goals
          rw [t1] at x3
          clear t1
          go_enter Try.func23, Try.ntmps23
          go_upto_region 1 with fail
          rw [HW.out]
          go_wp2_with (first
            | (show wpList _ _ _ (⟨_, Op.store 36 _ _, _, _, _, _⟩ :: _) _ _; refine store_row_g rfl 36 _ _ rfl w.heap.size (seRA SeR.zero) rfl rfl 36 _ R3.out sizeRep rfl (by simp [Value.oneCell']) ?_; intro w4 h4 g4)
            | (go_at_call 51; refine Calls.mono HC.out ?_; rintro r w3 ⟨rfl, h3, g3⟩; have R3 : Hid (w3.heap[w.heap.size]? = some (.cells (seRA SeR.zero) 36 (0, 0))) := (g3.block _ (lt_of_block HR.out.2) (fun e => by have := Option.some.inj e; have := HN.out; omega)).trans HR.out.2; have H3 : Hid _ := h3; have G3 : Hid _ := g3; clear h3 g3))
          refine bodyPost_ret (results_rep Try.results23 _ _ w.heap.size _ rfl (load_rep h4)) rfl ?_
          have hf := HF.out w3 w4 H3.out G3.out g4
          exact ⟨rfl, hf.1, hf.2⟩
end Go.Proofs.Ythokbififjhflaa
