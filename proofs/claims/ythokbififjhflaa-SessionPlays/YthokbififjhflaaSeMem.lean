/-
  The program's sessions in memory: their block, the map of all, the map of those that are open, a block each. No condition.
-/
import Derived.Test.YthokbififjhflaaGMapR
import Derived.Test.YthokbififjhflaaGInts
import Derived.Test.YthokbififjhflaaSePlain
namespace Go.Proofs.Ythokbififjhflaa
open Go.RowKit

abbrev seRA (r : SeR) : Array Value := #[.int .i64 r.session, .int .i64 r.seq, .int .i64 r.err, .int .u64 r.token, .int .i64 r.n]
abbrev seXA (x : SeX) : Array Value := #[.int .i64 x.client, .int .i64 x.life, .int .i64 x.seq, .bool x.said, .int .i64 x.r.session, .int .i64 x.r.seq, .int .i64 x.r.err, .int .u64 x.r.token, .int .i64 x.r.n]
theorem seKey : Maps.Keyed Try.prog 3 := Maps.int_keyed Try.underlying3
theorem seKey_of {n : Int} (h : okI n) : keyOf Try.prog 3 (.int .i64 n) = some (.int .i64 n) := Maps.keyOf_int_mk Try.underlying3 (by
  obtain ⟨h1, h2⟩ := h
  simp [Lit.wf, IntKind.min, IntKind.max, IntKind.signed, IntKind.bits]
  omega)
abbrev sePtr (b : Nat) : Value := .pointer (some ⟨b, 0, none⟩)
/-- Sessions' blocks by ids. -/
abbrev mSe : MapOf Int Nat := ⟨62, 3, 79, fun n => .int .i64 n, sePtr, okI, .pointer none⟩
theorem mSe_is : mSe.Is := ⟨Try.underlying62, seKey, fun _ h => ⟨_, seKey_of h⟩, fun a b h => by injection h, fun w => by kernel_rfl⟩
abbrev seA (ma mo : Nat) (L : Nat → Int) : Array Value := #[.map (some ma), .map (some mo), .int .i64 (L 0), .int .i64 (L 1), .int .i64 (L 2), .int .i64 (L 3), .int .i64 (L 4), .int .i64 (L 5), .int .i64 (L 6), .int .i64 (L 7)]
def sePt (ps : List Nat) (id : Int) : Option Nat := if 1 ≤ id then ps[id.toNat - 1]? else none
def seV : Option Nat → Value
  | some b => sePtr b
  | none => .pointer none
theorem mSe_got (l : List (Int × Nat)) (n : Int) : mSe.got l n = seV (lookM l n) := by
  unfold MapOf.got
  cases lookM l n <;> rfl
def seOp (l : List SeX) (id : Int) : Bool := match seAt l id with | some x => x.op | none => false
abbrev SeB (w : World) (b : Nat) (x : SeX) : Prop := w.heap[b]? = some (.cells (seXA x) 82 (0, 0))
theorem SeB.cell {w : World} {b : Nat} {x : SeX} (h : SeB w b x) (j : Nat) (u : Value) (hu : (seXA x)[j]? = some u) : w.cell? ⟨b, j, none⟩ = some u := by
  simp only [World.cell?, h]
  simpa using hu
theorem SeB.fz {w : World} {b : Nat} {x : SeX} (h : SeB w b x) (j : Nat) : w.frozen? ⟨b, j, none⟩ = false := by simp [World.frozen?, h]
structure SeM (w : World) (base X : Nat) (S : Nat → Prop) (l : List SeX) (ma mo : Nat) (la lo : List (Int × Nat)) (ps : List Nat) (L : Nat → Int) : Prop where
  blk : w.heap[X]? = some (.cells (seA ma mo L) 65 (0, 0))
  lat : ∀ c : Nat, c < 8 → L c = seLat l c
  all : mSe.At w ma la
  opn : mSe.At w mo lo
  lka : ∀ id, lookM la id = sePt ps id
  lko : ∀ id, lookM lo id = if seOp l id = true then sePt ps id else none
  nps : ps.length = l.length
  nd : ps.Nodup
  each : ∀ (i : Nat) (x : SeX) (b : Nat), l[i]? = some x → ps[i]? = some b → SeB w b x
  ne : ma ≠ mo
  lo : ∀ g, S g → base ≤ g
  set : ∀ g, S g ↔ g = X ∨ g = ma ∨ g = mo ∨ g ∈ ps
section
variable {w w' : World} {base X : Nat} {S : Nat → Prop} {l : List SeX} {ma mo : Nat} {la lo : List (Int × Nat)} {ps : List Nat} {L : Nat → Int}
theorem SeM.inX (h : SeM w base X S l ma mo la lo ps L) : S X := (h.set X).2 (Or.inl rfl)
theorem SeM.inA (h : SeM w base X S l ma mo la lo ps L) : S ma := (h.set ma).2 (Or.inr (Or.inl rfl))
theorem SeM.inO (h : SeM w base X S l ma mo la lo ps L) : S mo := (h.set mo).2 (Or.inr (Or.inr (Or.inl rfl)))
theorem SeM.inP (h : SeM w base X S l ma mo la lo ps L) {g : Nat} (hg : g ∈ ps) : S g := (h.set g).2 (Or.inr (Or.inr (Or.inr hg)))
theorem SeM.blkP (h : SeM w base X S l ma mo la lo ps L) {g : Nat} (hg : g ∈ ps) : ∃ x, SeB w g x := by
  obtain ⟨i, hi, rfl⟩ := List.mem_iff_getElem.1 hg
  have hl : i < l.length := by rw [← h.nps]; exact hi
  exact ⟨l[i], h.each i _ _ (List.getElem?_eq_getElem hl) (List.getElem?_eq_getElem hi)⟩
theorem SeM.bd (h : SeM w base X S l ma mo la lo ps L) : ∀ g, S g → g < w.heap.size := fun g hg => by
  rcases (h.set g).1 hg with rfl | rfl | rfl | e
  · exact lt_of_block h.blk
  · exact h.all.lt
  · exact h.opn.lt
  · obtain ⟨x, hx⟩ := h.blkP e
    exact lt_of_block hx
theorem SeM.neAX (h : SeM w base X S l ma mo la lo ps L) : ma ≠ X := h.all.ne h.blk
theorem SeM.neOX (h : SeM w base X S l ma mo la lo ps L) : mo ≠ X := h.opn.ne h.blk
theorem SeM.neAP (h : SeM w base X S l ma mo la lo ps L) {g : Nat} (hg : g ∈ ps) : ma ≠ g := by
  obtain ⟨x, hx⟩ := h.blkP hg
  exact h.all.ne hx
theorem SeM.neOP (h : SeM w base X S l ma mo la lo ps L) {g : Nat} (hg : g ∈ ps) : mo ≠ g := by
  obtain ⟨x, hx⟩ := h.blkP hg
  exact h.opn.ne hx
theorem SeM.neXP (h : SeM w base X S l ma mo la lo ps L) {g : Nat} (hg : g ∈ ps) : X ≠ g := fun e => by
  obtain ⟨x, hx⟩ := h.blkP hg
  have hb := h.blk
  have hx' : w.heap[g]? = some (.cells (seXA x) 82 (0, 0)) := hx
  rw [e, hx'] at hb
  injection hb with hb
  injection hb with _ hb
  exact absurd hb (by decide)
theorem SeM.keep (h : SeM w base X S l ma mo la lo ps L) (hk : ∀ g, S g → w'.heap[g]? = w.heap[g]?) : SeM w' base X S l ma mo la lo ps L :=
  ⟨(hk X h.inX).trans h.blk, h.lat, h.all.keep (hk ma h.inA), h.opn.keep (hk mo h.inO), h.lka, h.lko, h.nps, h.nd, fun i x b hx hb => (hk b (h.inP (List.mem_of_getElem? hb))).trans (h.each i x b hx hb), h.ne, h.lo, h.set⟩
theorem SeM.fresh (h : SeM w base X S l ma mo la lo ps L) (k : Below w.heap.size w w') : SeM w' base X S l ma mo la lo ps L := h.keep fun g hg => k.block g (h.bd g hg)
theorem SeM.cell (h : SeM w base X S l ma mo la lo ps L) (i : Nat) (u : Value) (hu : (seA ma mo L)[i]? = some u) : w.cell? ⟨X, i, none⟩ = some u := by
  simp only [World.cell?, h.blk]
  simpa using hu
theorem SeM.fz (h : SeM w base X S l ma mo la lo ps L) (i : Nat) : w.frozen? ⟨X, i, none⟩ = false := by simp [World.frozen?, h.blk]
/-- A client's latest session, by the client's number. -/
theorem SeM.cellL (h : SeM w base X S l ma mo la lo ps L) (c : Nat) (hc : c < 8) : w.cell? ⟨X, 2 + c, none⟩ = some (.int .i64 (seLat l c)) := by
  rw [← h.lat c hc]
  refine h.cell _ _ ?_
  match c, hc with
  | 0, _ => rfl
  | 1, _ => rfl
  | 2, _ => rfl
  | 3, _ => rfl
  | 4, _ => rfl
  | 5, _ => rfl
  | 6, _ => rfl
  | 7, _ => rfl
theorem sePt_none {id : Int} (hn : ps.length = l.length) (h : seAt l id = none) : sePt ps id = none := by
  unfold sePt
  unfold seAt at h
  by_cases h1 : 1 ≤ id
  · rw [if_pos h1] at h ⊢
    rw [List.getElem?_eq_none_iff] at h ⊢
    omega
  · rw [if_neg h1]
theorem sePt_some {id : Int} {x : SeX} (hn : ps.length = l.length) (h : seAt l id = some x) : ∃ b, sePt ps id = some b ∧ ps[id.toNat - 1]? = some b := by
  obtain ⟨h1, h2, h3⟩ := seAt_some h
  have hi := (List.getElem?_eq_some_iff.1 h3).1
  refine ⟨ps[id.toNat - 1], ?_, List.getElem?_eq_getElem (by omega)⟩
  unfold sePt
  rw [if_pos h1]
  exact List.getElem?_eq_getElem (by omega)
theorem SeM.sess (h : SeM w base X S l ma mo la lo ps L) {id : Int} {x : SeX} (hx : seAt l id = some x) : ∃ b, sePt ps id = some b ∧ ps[id.toNat - 1]? = some b ∧ b ∈ ps ∧ SeB w b x := by
  obtain ⟨b, h1, h2⟩ := sePt_some h.nps hx
  exact ⟨b, h1, h2, List.mem_of_getElem? h2, h.each _ _ _ (seAt_some hx).2.2 h2⟩
/-- Looked up among all, among those that are open. -/
theorem SeM.lookA (h : SeM w base X S l ma mo la lo ps L) {id : Int} (hi : okI id) : (Instr.lookup 62 (.map (some ma)) (.int .i64 id) true).run Try.prog w = .ok (.tuple #[seV (sePt ps id), .bool (sePt ps id).isSome]) w := by
  have := MapOf.look2 mSe_is h.all hi
  rw [mSe_got, h.lka] at this
  exact this
theorem SeM.lookA1 (h : SeM w base X S l ma mo la lo ps L) {id : Int} (hi : okI id) : (Instr.lookup 62 (.map (some ma)) (.int .i64 id) false).run Try.prog w = .ok (seV (sePt ps id)) w := by
  have := MapOf.look1 mSe_is h.all hi
  rw [mSe_got, h.lka] at this
  exact this
theorem SeM.lookO (h : SeM w base X S l ma mo la lo ps L) {id : Int} (hi : okI id) : (Instr.lookup 62 (.map (some mo)) (.int .i64 id) true).run Try.prog w = .ok (.tuple #[seV (if seOp l id = true then sePt ps id else none), .bool (seOp l id)]) w := by
  have := MapOf.look2 mSe_is h.opn hi
  rw [mSe_got, h.lko] at this
  have e : (if seOp l id = true then sePt ps id else none).isSome = seOp l id := by
    cases ho : seOp l id with
    | false => rfl
    | true =>
      unfold seOp at ho
      cases hx : seAt l id with
      | none => rw [hx] at ho; cases ho
      | some x =>
        obtain ⟨b, hb, _⟩ := sePt_some h.nps hx
        rw [if_pos rfl, hb]
        rfl
  rw [e] at this
  exact this
/-- The keys of a map whose look-ups are told. -/
theorem keys_perm {l : List (Int × Nat)} {ks : List Int} (hn : (l.map (·.1)).Nodup) (hk : ks.Nodup) (h : ∀ a, (lookM l a).isSome = true ↔ a ∈ ks) : (l.map (·.1)).Perm ks := by
  refine (List.perm_ext_iff_of_nodup hn hk).2 fun a => ?_
  rw [← h a]
  constructor
  · intro ha
    obtain ⟨p, hp, rfl⟩ := List.mem_map.1 ha
    rw [lookM_some hn (c := p.2) hp]
    rfl
  · intro ha
    obtain ⟨c, hc⟩ := Option.isSome_iff_exists.1 ha
    exact List.mem_map.2 ⟨_, lookM_mem hc, rfl⟩
theorem SeM.permO (h : SeM w base X S l ma mo la lo ps L) : (lo.map (·.1)).Perm (seAll l) := by
  refine keys_perm h.opn.nodup (seAllN_nodup _ _) fun a => ?_
  rw [h.lko, seAll_mem]
  cases ho : seOp l a with
  | false =>
    simp only [Bool.false_eq_true, if_false, Option.isSome_none, false_iff]
    rintro ⟨x, hx, h1⟩
    unfold seOp at ho
    rw [hx] at ho
    simp only at ho
    rw [ho] at h1
    cases h1
  | true =>
    unfold seOp at ho
    cases hx : seAt l a with
    | none => rw [hx] at ho; cases ho
    | some x =>
      rw [hx] at ho
      obtain ⟨b, hb, _⟩ := sePt_some h.nps hx
      rw [if_pos rfl, hb]
      exact ⟨fun _ => ⟨x, rfl, ho⟩, fun _ => rfl⟩
theorem SeM.lenO (h : SeM w base X S l ma mo la lo ps L) : lo.length = (seAll l).length := by
  have := h.permO.length_eq
  simpa using this
theorem sePt_isSome {id : Int} : (sePt ps id).isSome = true ↔ id ∈ (List.range ps.length).map (fun i : Nat => (i : Int) + 1) := by
  rw [List.mem_map]
  unfold sePt
  constructor
  · intro h
    by_cases h1 : 1 ≤ id
    · rw [if_pos h1] at h
      obtain ⟨b, hb⟩ := Option.isSome_iff_exists.1 h
      exact ⟨id.toNat - 1, List.mem_range.2 (List.getElem?_eq_some_iff.1 hb).1, by omega⟩
    · rw [if_neg h1] at h
      cases h
  · rintro ⟨i, hi, rfl⟩
    rw [if_pos (by omega), show ((i : Int) + 1).toNat - 1 = i by omega, List.getElem?_eq_getElem (List.mem_range.1 hi)]
    rfl
theorem SeM.lenA (h : SeM w base X S l ma mo la lo ps L) : la.length = l.length := by
  have hp := keys_perm (ks := (List.range ps.length).map (fun i : Nat => (i : Int) + 1)) h.all.nodup (by
    rw [List.nodup_iff_pairwise_ne, List.pairwise_map]
    exact List.nodup_range.imp fun h e => h (by omega)) fun a => by rw [h.lka]; exact sePt_isSome
  have := hp.length_eq
  simp only [List.length_map, List.length_range] at this
  rw [this, h.nps]
/-- A session's block written anew. -/
theorem SeM.setX (h : SeM w base X S l ma mo la lo ps L) {k : Nat} {x y : SeX} {b : Nat} (hx : l[k]? = some x) (hb : ps[k]? = some b) (hc : y.client = x.client) (ho : y.op = x.op) (hy : SeB w' b y) (hg : w.grownBy w' (some b)) : SeM w' base X S (l.set k y) ma mo la lo ps L := by
  have hbp : b ∈ ps := List.mem_of_getElem? hb
  have hk : ∀ g, S g → g ≠ b → w'.heap[g]? = w.heap[g]? := fun g hg' hne => hg.block g (h.bd g hg') (fun e => hne (Option.some.inj e))
  refine ⟨(hk X h.inX (h.neXP hbp)).trans h.blk, fun c hc' => by rw [seLat_set hx hc]; exact h.lat c hc', h.all.keep (hk ma h.inA (h.neAP hbp)), h.opn.keep (hk mo h.inO (h.neOP hbp)), h.lka, fun id => ?_, by rw [List.length_set]; exact h.nps, h.nd, fun i z c hz hcb => ?_, h.ne, h.lo, h.set⟩
  · rw [h.lko]
    have e : seOp (l.set k y) id = seOp l id := by
      unfold seOp seAt
      by_cases h1 : 1 ≤ id
      · rw [if_pos h1, if_pos h1, set_at hx]
        by_cases h2 : id.toNat - 1 = k
        · rw [if_pos h2, h2, hx]
          exact ho
        · rw [if_neg h2]
      · rw [if_neg h1, if_neg h1]
    rw [e]
  · rw [set_at hx] at hz
    by_cases e : i = k
    · subst e
      rw [if_pos rfl] at hz
      cases hz
      rw [hb] at hcb
      cases hcb
      exact hy
    · rw [if_neg e] at hz
      have hcm : c ∈ ps := List.mem_of_getElem? hcb
      have hne : c ≠ b := fun e2 => by
        subst e2
        have h1 := (List.getElem?_eq_some_iff.1 hcb)
        have h2 := (List.getElem?_eq_some_iff.1 hb)
        obtain ⟨h1a, h1b⟩ := h1
        obtain ⟨h2a, h2b⟩ := h2
        have := List.pairwise_iff_getElem.1 h.nd
        rcases Nat.lt_or_gt_of_ne e with c1 | c1
        · exact this i k h1a h2a c1 (by rw [h1b, h2b])
        · exact this k i h2a h1a c1 (by rw [h1b, h2b])
      exact (hk c (h.inP hcm) hne).trans (h.each i z c hz hcb)
/-- The map of those that are open written as it was. -/
theorem SeM.keep2 (h : SeM w base X S l ma mo la lo ps L) (hm : mSe.At w' mo lo) (hg : w.grownBy w' (some mo)) : SeM w' base X S l ma mo la lo ps L := by
  have hk : ∀ g, S g → g ≠ mo → w'.heap[g]? = w.heap[g]? := fun g hg' hne => hg.block g (h.bd g hg') (fun e => hne (Option.some.inj e))
  exact ⟨(hk X h.inX h.neOX.symm).trans h.blk, h.lat, h.all.keep (hk ma h.inA h.ne), hm, h.lka, h.lko, h.nps, h.nd, fun i x b hx hb => (hk b (h.inP (List.mem_of_getElem? hb)) (h.neOP (List.mem_of_getElem? hb)).symm).trans (h.each i x b hx hb), h.ne, h.lo, h.set⟩
/-- One struck from those that are open. -/
theorem SeM.shut (h : SeM w base X S l ma mo la lo ps L) {id : Int} {x : SeX} (hx : seAt l id = some x) (hm : mSe.At w' mo (delM lo id)) (hg : w.grownBy w' (some mo)) : SeM w' base X S (l.set (id.toNat - 1) { x with op := false }) ma mo la (delM lo id) ps L := by
  obtain ⟨h1, h2, h3⟩ := seAt_some hx
  have hk : ∀ g, S g → g ≠ mo → w'.heap[g]? = w.heap[g]? := fun g hg' hne => hg.block g (h.bd g hg') (fun e => hne (Option.some.inj e))
  refine ⟨(hk X h.inX h.neOX.symm).trans h.blk, fun c hc' => by rw [seLat_set (y := { x with op := false }) h3 rfl]; exact h.lat c hc', h.all.keep (hk ma h.inA h.ne), hm, h.lka, fun a => ?_, by rw [List.length_set]; exact h.nps, h.nd, fun i z c hz hcb => ?_, h.ne, h.lo, h.set⟩
  · rw [lookM_del, h.lko]
    by_cases e : a = id
    · subst e
      rw [if_pos rfl]
      have : seOp (l.set (a.toNat - 1) { x with op := false }) a = false := by
        unfold seOp seAt
        rw [if_pos h1, set_at h3, if_pos rfl]
      rw [this, if_neg (by decide)]
    · rw [if_neg e]
      have : seOp (l.set (id.toNat - 1) { x with op := false }) a = seOp l a := by
        unfold seOp seAt
        by_cases h4 : 1 ≤ a
        · rw [if_pos h4, if_pos h4, set_at h3, if_neg (by omega)]
        · rw [if_neg h4, if_neg h4]
      rw [this]
  · have hcm : c ∈ ps := List.mem_of_getElem? hcb
    have hk' := hk c (h.inP hcm) (h.neOP hcm).symm
    rw [set_at h3] at hz
    by_cases e : i = id.toNat - 1
    · subst e
      rw [if_pos rfl] at hz
      cases hz
      exact hk'.trans (h.each _ x c h3 hcb)
    · rw [if_neg e] at hz
      exact hk'.trans (h.each i z c hz hcb)
/-- One more. -/
theorem SeM.app (h : SeM w base X S l ma mo la lo ps L) {x : SeX} {b : Nat} {lo' : List (Int × Nat)} {L' : Nat → Int} (hX : w'.heap[X]? = some (.cells (seA ma mo L') 65 (0, 0))) (hL : ∀ c : Nat, c < 8 → L' c = if x.client = c then (l.length : Int) + 1 else L c)
    (ha : mSe.At w' ma (putM la ((l.length : Int) + 1) b)) (ho : mSe.At w' mo lo') (ho' : lo' = if x.op = true then putM lo ((l.length : Int) + 1) b else lo) (hb : SeB w' b x) (hnew : ∀ g, S g → g < b) (hbase : base ≤ b)
    (hk : ∀ g ∈ ps, w'.heap[g]? = w.heap[g]?) : SeM w' base X (fun g => S g ∨ g = b) (l ++ [x]) ma mo (putM la ((l.length : Int) + 1) b) lo' (ps ++ [b]) L' := by
  have hpt : ∀ a, sePt (ps ++ [b]) a = if a = (l.length : Int) + 1 then some b else sePt ps a := fun a => by
    unfold sePt
    by_cases h1 : 1 ≤ a
    · rw [if_pos h1, if_pos h1]
      by_cases h2 : a = (l.length : Int) + 1
      · rw [if_pos h2, h2, show ((l.length : Int) + 1).toNat - 1 = ps.length by have := h.nps; omega]
        simp
      · rw [if_neg h2]
        by_cases h3 : a.toNat - 1 < ps.length
        · rw [List.getElem?_append_left h3]
        · have := h.nps
          rw [List.getElem?_eq_none (l := ps) (by omega), List.getElem?_eq_none (by rw [List.length_append, List.length_singleton]; omega)]
    · rw [if_neg h1, if_neg h1, if_neg (by omega)]
  have hop : ∀ a, seOp (l ++ [x]) a = if a = (l.length : Int) + 1 then x.op else seOp l a := fun a => by
    unfold seOp seAt
    by_cases h1 : 1 ≤ a
    · rw [if_pos h1, if_pos h1]
      by_cases h2 : a = (l.length : Int) + 1
      · rw [if_pos h2, h2, show ((l.length : Int) + 1).toNat - 1 = l.length by omega]
        simp
      · rw [if_neg h2]
        by_cases h3 : a.toNat - 1 < l.length
        · rw [List.getElem?_append_left h3]
        · rw [List.getElem?_eq_none (l := l) (by omega), List.getElem?_eq_none (by rw [List.length_append, List.length_singleton]; omega)]
    · rw [if_neg h1, if_neg h1, if_neg (by omega)]
  refine ⟨hX, fun c hc => ?_, ha, ho, fun a => ?_, fun a => ?_, by simp [h.nps], ?_, fun i z c hz hcb => ?_, h.ne, fun g hg => ?_, fun g => ?_⟩
  · rw [hL c hc, seLat_app]
    split
    · simp
    · exact h.lat c hc
  · rw [lookM_put, hpt, h.lka]
  · rw [hop, hpt, ho']
    by_cases e : a = (l.length : Int) + 1
    · rw [if_pos e, if_pos e]
      cases hxo : x.op with
      | true => rw [if_pos rfl, lookM_put, if_pos e, if_pos rfl]
      | false =>
        rw [if_neg (by decide), if_neg (by decide), h.lko]
        have : seOp l a = false := by
          unfold seOp seAt
          rw [e, if_pos (by omega), List.getElem?_eq_none (by omega)]
        rw [this]
        rfl
    · rw [if_neg e, if_neg e, ← h.lko]
      cases hxo : x.op with
      | true => rw [if_pos rfl, lookM_put, if_neg e]
      | false => rw [if_neg (by decide)]
  · rw [List.nodup_append]
    refine ⟨h.nd, by simp, fun a ha' c hc => ?_⟩
    rw [List.mem_singleton] at hc
    have := hnew a (h.inP ha')
    omega
  · by_cases hi : i < l.length
    · rw [List.getElem?_append_left hi] at hz
      rw [List.getElem?_append_left (by rw [h.nps]; exact hi)] at hcb
      exact (hk c (List.mem_of_getElem? hcb)).trans (h.each i z c hz hcb)
    · have hi2 := (List.getElem?_eq_some_iff.1 hz).1
      rw [List.length_append, List.length_singleton] at hi2
      obtain rfl : i = l.length := by omega
      rw [List.getElem?_append_right (Nat.le_refl _), Nat.sub_self] at hz
      rw [← h.nps, List.getElem?_append_right (Nat.le_refl _), Nat.sub_self] at hcb
      simp only [List.getElem?_cons_zero, Option.some.injEq] at hz hcb
      subst hz hcb
      exact hb
  · rcases hg with hg | hg
    · exact h.lo g hg
    · omega
  · rw [h.set g, List.mem_append, List.mem_singleton]
    constructor
    · rintro ((h1 | h1 | h1 | h1) | h1)
      · exact Or.inl h1
      · exact Or.inr (Or.inl h1)
      · exact Or.inr (Or.inr (Or.inl h1))
      · exact Or.inr (Or.inr (Or.inr (Or.inl h1)))
      · exact Or.inr (Or.inr (Or.inr (Or.inr h1)))
    · rintro (h1 | h1 | h1 | h1 | h1)
      · exact Or.inl (Or.inl h1)
      · exact Or.inl (Or.inr (Or.inl h1))
      · exact Or.inl (Or.inr (Or.inr (Or.inl h1)))
      · exact Or.inl (Or.inr (Or.inr (Or.inr h1)))
      · exact Or.inr h1
end
/-- The program's sessions as plain data. -/
structure SeAt (w : World) (base X : Nat) (S : Nat → Prop) (l : List SeX) : Prop where
  ex : ∃ ma mo la lo ps L, SeM w base X S l ma mo la lo ps L
  ok : SeOk l
  len : l.length ≤ 1000000
section
variable {w w' : World} {base X : Nat} {S : Nat → Prop} {l : List SeX}
theorem SeAt.bd (h : SeAt w base X S l) : ∀ g, S g → base ≤ g ∧ g < w.heap.size := fun g hg => by
  obtain ⟨ma, mo, la, lo, ps, L, hM⟩ := h.ex
  exact ⟨hM.lo g hg, hM.bd g hg⟩
theorem SeAt.fresh (h : SeAt w base X S l) (k : Below w.heap.size w w') : SeAt w' base X S l := by
  obtain ⟨ma, mo, la, lo, ps, L, hM⟩ := h.ex
  exact ⟨⟨ma, mo, la, lo, ps, L, hM.fresh k⟩, h.ok, h.len⟩
theorem SeAt.keep (h : SeAt w base X S l) (hk : ∀ g, S g → w'.heap[g]? = w.heap[g]?) : SeAt w' base X S l := by
  obtain ⟨ma, mo, la, lo, ps, L, hM⟩ := h.ex
  exact ⟨⟨ma, mo, la, lo, ps, L, hM.keep hk⟩, h.ok, h.len⟩
end
end Go.Proofs.Ythokbififjhflaa
