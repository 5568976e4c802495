/-
  Parts of the proof, laid together: SoObj, SoKind. The conditions stand at each part.
-/
import Derived.Test.YthhlglbohibekaaSPackV
import Derived.Test.YthhlglbohibekaaSPackE
import Derived.Test.YthhlglbohibekaaSPackF
import Derived.Test.YthhlglbohibekaaSPackG
namespace Go.Proofs.Ythhlglbohibekaa
open Go.RowKit

structure ObP (w : World) (base D : Nat) (S : Nat → Prop) (o : Ob) : Prop where
  mx : o.k = 0 → PMx w base D S o.h o.l
  rw : o.k = 1 → PRw w base D S o.l o.b o.q
  gr : o.k = 2 → PGr w base D S o.h o.l
  on : o.k = 3 → POn w base D S o.h o.b o.l
  bd : ∀ b, S b → base ≤ b ∧ b < w.heap.size
  kk : 0 ≤ o.k ∧ o.k ≤ 3
section
variable {w w' : World} {base base' D : Nat} {S S' : Nat → Prop} {o : Ob}
theorem ObP.keep (h : ObP w base D S o) (hs : w.heap.size ≤ w'.heap.size) (hk : ∀ b, S b → w'.heap[b]? = w.heap[b]?) : ObP w' base D S o :=
  ⟨fun e => (h.mx e).keep hs hk, fun e => (h.rw e).keep hs hk, fun e => (h.gr e).keep hs hk, fun e => (h.on e).keep hs hk, fun b hb => ⟨(h.bd b hb).1, Nat.lt_of_lt_of_le (h.bd b hb).2 hs⟩, h.kk⟩
theorem ObP.fresh (h : ObP w base D S o) (k : Below w.heap.size w w') : ObP w' base D S o := h.keep k.size (fun b hb => k.block b (h.bd b hb).2)
theorem ObP.low (h : ObP w base D S o) (hb : base' ≤ base) : ObP w base' D S o :=
  ⟨fun e => (h.mx e).low hb, fun e => (h.rw e).low hb, fun e => (h.gr e).low hb, fun e => (h.on e).low hb, fun b hs => ⟨Nat.le_trans hb (h.bd b hs).1, (h.bd b hs).2⟩, h.kk⟩
theorem ObP.ofMx (hk : o.k = 0) (h : PMx w base D S o.h o.l) : ObP w base D S o :=
  ⟨fun _ => h, fun e => absurd (hk.symm.trans e) (by decide), fun e => absurd (hk.symm.trans e) (by decide), fun e => absurd (hk.symm.trans e) (by decide), h.bd, by rw [hk]; decide⟩
theorem ObP.ofRw (hk : o.k = 1) (h : PRw w base D S o.l o.b o.q) : ObP w base D S o :=
  ⟨fun e => absurd (hk.symm.trans e) (by decide), fun _ => h, fun e => absurd (hk.symm.trans e) (by decide), fun e => absurd (hk.symm.trans e) (by decide), h.bd, by rw [hk]; decide⟩
theorem ObP.ofGr (hk : o.k = 2) (h : PGr w base D S o.h o.l) : ObP w base D S o :=
  ⟨fun e => absurd (hk.symm.trans e) (by decide), fun e => absurd (hk.symm.trans e) (by decide), fun _ => h, fun e => absurd (hk.symm.trans e) (by decide), h.bd, by rw [hk]; decide⟩
theorem ObP.ofOn (hk : o.k = 3) (h : POn w base D S o.h o.b o.l) : ObP w base D S o :=
  ⟨fun e => absurd (hk.symm.trans e) (by decide), fun e => absurd (hk.symm.trans e) (by decide), fun e => absurd (hk.symm.trans e) (by decide), fun _ => h, h.bd, by rw [hk]; decide⟩
end
def hwA (b : Bool) (z : Int) : Int := if z ≠ 0 then 0 else if b = true then 1 else 3
def onA (o : Ob) (t : Int) : Int := if oDZ o.h o.l t ≠ 0 then 0 else if oDR o.h o.b o.l t = true then 2 else if oDW o.h o.b o.l t = true then 3 else 4
def askA (o : Ob) (t : Int) (x : Opx) : Int × Int × Ob :=
  if o.k = 0 then (hwA (lockB o.h o.l t) (lockZ o.h o.l t), lockZ o.h o.l t, mxLk o t)
  else if o.k = 1 then (hwA (rwB o.l o.b o.q t (x.1 == 3)) (rwZ o.l o.q t), rwZ o.l o.q t, rwLk o t (x.1 == 3))
  else if o.k = 2 then (hwA (gWB o.h o.l t) (gWZ o.l t), gWZ o.l t, grWt o t)
  else (onA o t, oDZ o.h o.l t, onDo o t)
def freeA (o : Ob) (t : Int) (x : Opx) : List Int × Int × Ob :=
  if o.k = 0 then (if unZ o.h t ≠ 0 ∨ unN o.h o.l t < 0 then [] else [unN o.h o.l t], unZ o.h t, mxUn o t)
  else if o.k = 1 then ((rwU o.l o.b o.q t (x.1 == 4)).1, rwUZ o.l o.b t (x.1 == 4), rwUn o t (x.1 == 4))
  else if o.k = 2 then (gAO o.h o.l x.2.2, gAZ o.h x.2.2, grAd o x.2.2)
  else (oEO o.h o.l t, oEZ o.h t, onEnd o t)
theorem askA_k (o : Ob) (t : Int) (x : Opx) : (askA o t x).2.2.k = o.k := by
  unfold askA
  split
  · rfl
  · split
    · rfl
    · split
      · rfl
      · rfl
theorem freeA_k (o : Ob) (t : Int) (x : Opx) : (freeA o t x).2.2.k = o.k := by
  unfold freeA
  split
  · rfl
  · split
    · rfl
    · split
      · rfl
      · rfl
set_option maxHeartbeats 3200000 in
set_option maxRecDepth 100000 in
theorem how_any (b : Bool) (z : Int) (w : World) : Calls Try.prog 92 #[.bool b, .int .i64 z] w fun e w' => e = .returned (.tuple #[.int .i64 (hwA b z), .int .i64 z]) ∧ w = w' := by
  unfold hwA
  by_cases hz : z = 0
  · subst hz
    cases b with
    | true =>
      go_enter Try.func92, Try.ntmps92
      go_wp2
      go_returns
      exact ⟨rfl, rfl⟩
    | false =>
      go_enter Try.func92, Try.ntmps92
      go_wp2
      go_returns
      exact ⟨rfl, rfl⟩
  · rw [if_pos hz]
    have q0 : (z != 0) = true := bne_iff_ne.2 hz
    go_enter Try.func92, Try.ntmps92
    go_wp2
    go_returns
    exact ⟨rfl, rfl⟩
section
variable {w w' : World} {base D : Nat} {S S' : Nat → Prop} {o : Ob}
set_option maxHeartbeats 3200000 in
set_option maxRecDepth 100000 in
theorem ask_mx (h : ObP w base D S o) (hk : o.k = 0) (t : Int) (ht : okI t) (x : Opx) (hx : okI x.2.2) (hl : o.l.length + o.q.length < 65536) (hg : o.k = 2 → 0 ≤ o.h ∧ o.h ≤ 1073741824) : Calls Try.prog 90 #[.agg #[.pointer (some ⟨D, 0, none⟩)], .int .i64 t, .agg #[.int .i64 x.1, .int .i64 x.2.1, .int .i64 x.2.2]] w fun e w' => e = .returned (.tuple #[.int .i64 (askA o t x).1, .int .i64 (askA o t x).2.1]) ∧ ∃ S', ObP w' base D S' (askA o t x).2.2 ∧ Kept w w' S S' := by
  have bx : Below w.heap.size w ((w.alloc (.cells #[.pointer (some ⟨D, 0, none⟩)] 129)).alloc (.cells #[.int .i64 x.1, .int .i64 x.2.1, .int .i64 x.2.2] 45)) := ((Below.refl _ w).alloc (Nat.le_refl _) _).alloc (by simp) _
  have BX : Hid _ := bx
  have hu := And.intro ht (And.intro hx (And.intro hl hg))
  clear hu
  have eA : askA o t x = (hwA (lockB o.h o.l t) (lockZ o.h o.l t), lockZ o.h o.l t, mxLk o t) := by unfold askA; rw [hk]; rfl
  rw [eA]
  have hc := pm_lock ((h.mx hk).fresh bx) t ht (by omega)
  have HFIN : Hid (∀ w' S', PMx w' base D S' (mxLk o t).h (mxLk o t).l → ObP w' base D S' (mxLk o t)) := fun w' S' h9 => ObP.ofMx hk h9
  have HH : Hid _ := h
  clear h eA hk bx hl hg
  obtain ⟨x1, x2, x3⟩ := x
  have hw1 := how_any
  go_enter Try.func90, Try.ntmps90
  go_wp2_with (first
    | (go_at_call 92; refine (hw1 _ _ w2).mono ?_; rintro e w3 ⟨rfl, rfl⟩)
    | (go_at_call 93; refine hc.mono ?_; rintro e w2 ⟨rfl, S2, h2', k2⟩; have h2 : Hid _ := h2'; clear h2'))
  go_returns
  exact ⟨rfl, S2, HFIN.out _ _ h2.out, (Kept.of BX.out).trans k2⟩
set_option maxHeartbeats 3200000 in
set_option maxRecDepth 100000 in
theorem ask_rw (h : ObP w base D S o) (hk : o.k = 1) (t : Int) (ht : okI t) (x : Opx) (hx : okI x.2.2) (hl : o.l.length + o.q.length < 65536) (hg : o.k = 2 → 0 ≤ o.h ∧ o.h ≤ 1073741824) : Calls Try.prog 101 #[.agg #[.pointer (some ⟨D, 0, none⟩)], .int .i64 t, .agg #[.int .i64 x.1, .int .i64 x.2.1, .int .i64 x.2.2]] w fun e w' => e = .returned (.tuple #[.int .i64 (askA o t x).1, .int .i64 (askA o t x).2.1]) ∧ ∃ S', ObP w' base D S' (askA o t x).2.2 ∧ Kept w w' S S' := by
  have bx : Below w.heap.size w ((w.alloc (.cells #[.pointer (some ⟨D, 0, none⟩)] 133)).alloc (.cells #[.int .i64 x.1, .int .i64 x.2.1, .int .i64 x.2.2] 45)) := ((Below.refl _ w).alloc (Nat.le_refl _) _).alloc (by simp) _
  have BX : Hid _ := bx
  have hu := And.intro ht (And.intro hx (And.intro hl hg))
  clear hu
  have eA : askA o t x = (hwA (rwB o.l o.b o.q t (x.1 == 3)) (rwZ o.l o.q t), rwZ o.l o.q t, rwLk o t (x.1 == 3)) := by unfold askA; rw [hk]; rfl
  rw [eA]
  have hc := pr_lock ((h.rw hk).fresh bx) t ht (x.1 == 3) (by omega)
  have HFIN : Hid (∀ w' S', PRw w' base D S' (rwLk o t (x.1 == 3)).l (rwLk o t (x.1 == 3)).b (rwLk o t (x.1 == 3)).q → ObP w' base D S' (rwLk o t (x.1 == 3))) := fun w' S' h9 => ObP.ofRw hk h9
  have HH : Hid _ := h
  clear h eA hk bx hl hg
  obtain ⟨x1, x2, x3⟩ := x
  have hw1 := how_any
  go_enter Try.func101, Try.ntmps101
  go_wp2_with (first
    | (go_at_call 92; refine (hw1 _ _ w2).mono ?_; rintro e w3 ⟨rfl, rfl⟩)
    | (go_at_call 103; refine hc.mono ?_; rintro e w2 ⟨rfl, S2, h2', k2⟩; have h2 : Hid _ := h2'; clear h2'))
  go_returns
  exact ⟨rfl, S2, HFIN.out _ _ h2.out, (Kept.of BX.out).trans k2⟩
set_option maxHeartbeats 3200000 in
set_option maxRecDepth 100000 in
theorem ask_gr (h : ObP w base D S o) (hk : o.k = 2) (t : Int) (ht : okI t) (x : Opx) (hx : okI x.2.2) (hl : o.l.length + o.q.length < 65536) (hg : o.k = 2 → 0 ≤ o.h ∧ o.h ≤ 1073741824) : Calls Try.prog 109 #[.agg #[.pointer (some ⟨D, 0, none⟩)], .int .i64 t, .agg #[.int .i64 x.1, .int .i64 x.2.1, .int .i64 x.2.2]] w fun e w' => e = .returned (.tuple #[.int .i64 (askA o t x).1, .int .i64 (askA o t x).2.1]) ∧ ∃ S', ObP w' base D S' (askA o t x).2.2 ∧ Kept w w' S S' := by
  have bx : Below w.heap.size w ((w.alloc (.cells #[.pointer (some ⟨D, 0, none⟩)] 137)).alloc (.cells #[.int .i64 x.1, .int .i64 x.2.1, .int .i64 x.2.2] 45)) := ((Below.refl _ w).alloc (Nat.le_refl _) _).alloc (by simp) _
  have BX : Hid _ := bx
  have hu := And.intro ht (And.intro hx (And.intro hl hg))
  clear hu
  have eA : askA o t x = (hwA (gWB o.h o.l t) (gWZ o.l t), gWZ o.l t, grWt o t) := by unfold askA; rw [hk]; rfl
  rw [eA]
  have hc := pg_wait ((h.gr hk).fresh bx) t ht (by omega)
  have HFIN : Hid (∀ w' S', PGr w' base D S' (grWt o t).h (grWt o t).l → ObP w' base D S' (grWt o t)) := fun w' S' h9 => ObP.ofGr hk h9
  have HH : Hid _ := h
  clear h eA hk bx hl hg
  obtain ⟨x1, x2, x3⟩ := x
  have hw1 := how_any
  go_enter Try.func109, Try.ntmps109
  go_wp2_with (first
    | (go_at_call 92; refine (hw1 _ _ w2).mono ?_; rintro e w3 ⟨rfl, rfl⟩)
    | (go_at_call 111; refine hc.mono ?_; rintro e w2 ⟨rfl, S2, h2', k2⟩; have h2 : Hid _ := h2'; clear h2'))
  go_returns
  exact ⟨rfl, S2, HFIN.out _ _ h2.out, (Kept.of BX.out).trans k2⟩
set_option maxHeartbeats 3200000 in
set_option maxRecDepth 100000 in
theorem ask_on (h : ObP w base D S o) (hk : o.k = 3) (t : Int) (ht : okI t) (x : Opx) (hx : okI x.2.2) (hl : o.l.length + o.q.length < 65536) (hg : o.k = 2 → 0 ≤ o.h ∧ o.h ≤ 1073741824) : Calls Try.prog 117 #[.agg #[.pointer (some ⟨D, 0, none⟩)], .int .i64 t, .agg #[.int .i64 x.1, .int .i64 x.2.1, .int .i64 x.2.2]] w fun e w' => e = .returned (.tuple #[.int .i64 (askA o t x).1, .int .i64 (askA o t x).2.1]) ∧ ∃ S', ObP w' base D S' (askA o t x).2.2 ∧ Kept w w' S S' := by
  have bx : Below w.heap.size w ((w.alloc (.cells #[.pointer (some ⟨D, 0, none⟩)] 141)).alloc (.cells #[.int .i64 x.1, .int .i64 x.2.1, .int .i64 x.2.2] 45)) := ((Below.refl _ w).alloc (Nat.le_refl _) _).alloc (by simp) _
  have BX : Hid _ := bx
  have hu := And.intro ht (And.intro hx (And.intro hl hg))
  clear hu
  have eA : askA o t x = (onA o t, oDZ o.h o.l t, onDo o t) := by unfold askA; rw [hk]; rfl
  rw [eA]
  have hc := po_do ((h.on hk).fresh bx) t ht (by omega)
  have HFIN : Hid (∀ w' S', POn w' base D S' (onDo o t).h (onDo o t).b (onDo o t).l → ObP w' base D S' (onDo o t)) := fun w' S' h9 => ObP.ofOn hk h9
  have HH : Hid _ := h
  clear h eA hk bx hl hg
  obtain ⟨x1, x2, x3⟩ := x
  unfold onA
  generalize oDZ o.h o.l t = Z at *
  generalize oDR o.h o.b o.l t = R at *
  generalize oDW o.h o.b o.l t = W at *
  by_cases hz : Z = 0
  · subst hz
    rw [if_neg (by decide)]
    cases R with
    | true =>
      rw [if_pos rfl]
      go_enter Try.func117, Try.ntmps117
      go_wp2_with (go_at_call 119; refine hc.mono ?_; rintro e w2 ⟨rfl, S2, h2', k2⟩; have h2 : Hid _ := h2'; clear h2')
      go_returns
      exact ⟨rfl, S2, HFIN.out _ _ h2.out, (Kept.of BX.out).trans k2⟩
    | false =>
      rw [if_neg (by decide)]
      cases W with
      | true =>
        rw [if_pos rfl]
        go_enter Try.func117, Try.ntmps117
        go_wp2_with (go_at_call 119; refine hc.mono ?_; rintro e w2 ⟨rfl, S2, h2', k2⟩; have h2 : Hid _ := h2'; clear h2')
        go_returns
        exact ⟨rfl, S2, HFIN.out _ _ h2.out, (Kept.of BX.out).trans k2⟩
      | false =>
        rw [if_neg (by decide)]
        go_enter Try.func117, Try.ntmps117
        go_wp2_with (go_at_call 119; refine hc.mono ?_; rintro e w2 ⟨rfl, S2, h2', k2⟩; have h2 : Hid _ := h2'; clear h2')
        go_returns
        exact ⟨rfl, S2, HFIN.out _ _ h2.out, (Kept.of BX.out).trans k2⟩
  · rw [if_pos hz]
    have q0 : (Z != 0) = true := bne_iff_ne.2 hz
    go_enter Try.func117, Try.ntmps117
    go_wp2_with (go_at_call 119; refine hc.mono ?_; rintro e w2 ⟨rfl, S2, h2', k2⟩; have h2 : Hid _ := h2'; clear h2')
    go_returns
    exact ⟨rfl, S2, HFIN.out _ _ h2.out, (Kept.of BX.out).trans k2⟩
set_option maxHeartbeats 3200000 in
set_option maxRecDepth 100000 in
theorem free_mx (h : ObP w base D S o) (hk : o.k = 0) (t : Int) (ht : okI t) (x : Opx) (hx : okI x.2.2) (hl : o.l.length + o.q.length < 65536) (hg : o.k = 2 → 0 ≤ o.h ∧ o.h ≤ 1073741824) : Calls Try.prog 91 #[.agg #[.pointer (some ⟨D, 0, none⟩)], .int .i64 t, .agg #[.int .i64 x.1, .int .i64 x.2.1, .int .i64 x.2.2]] w fun e w' => ∃ u, e = .returned (.tuple #[u, .int .i64 (freeA o t x).2.1]) ∧ RowAt intC w' u (freeA o t x).1 ∧ OutOf S w.heap.size u ∧ ∃ S', ObP w' base D S' (freeA o t x).2.2 ∧ Kept w w' S S' := by
  have bx : Below w.heap.size w ((w.alloc (.cells #[.pointer (some ⟨D, 0, none⟩)] 129)).alloc (.cells #[.int .i64 x.1, .int .i64 x.2.1, .int .i64 x.2.2] 45)) := ((Below.refl _ w).alloc (Nat.le_refl _) _).alloc (by simp) _
  have BX : Hid _ := bx
  have hu := And.intro ht (And.intro hx (And.intro hl hg))
  clear hu
  have eA : freeA o t x = (if unZ o.h t ≠ 0 ∨ unN o.h o.l t < 0 then [] else [unN o.h o.l t], unZ o.h t, mxUn o t) := by unfold freeA; rw [hk]; rfl
  rw [eA]
  have hc := pm_unlock ((h.mx hk).fresh bx) t
  have HFIN : Hid (∀ w' S', PMx w' base D S' (mxUn o t).h (mxUn o t).l → ObP w' base D S' (mxUn o t)) := fun w' S' h9 => ObP.ofMx hk h9
  have HH : Hid _ := h
  have hbs : w.heap.size ≤ ((w.alloc (.cells #[.pointer (some ⟨D, 0, none⟩)] 129)).alloc (.cells #[.int .i64 x.1, .int .i64 x.2.1, .int .i64 x.2.2] 45)).heap.size := bx.size
  have HBS : Hid _ := hbs
  clear h eA hk bx hl hg hbs
  obtain ⟨x1, x2, x3⟩ := x
  generalize unZ o.h t = Z at *
  generalize unN o.h o.l t = n at *
  by_cases hz : Z = 0
  case neg =>
    rw [if_pos (Or.inl hz)]
    have q0 : (Z != 0) = true := bne_iff_ne.2 hz
    go_enter Try.func91, Try.ntmps91
    go_wp2_with (go_at_call 94; refine hc.mono ?_; rintro e w2 ⟨rfl, S2, h2', k2⟩; have h2 : Hid _ := h2'; clear h2')
    go_returns
    exact ⟨_, rfl, RowAt.nil _, OutOf.nil _ _, S2, HFIN.out _ _ h2.out, (Kept.of BX.out).trans k2⟩
  case pos =>
    subst hz
    by_cases hn : n < 0
    · rw [if_pos (Or.inr hn)]
      have q1 : decide (n < 0) = true := decide_eq_true hn
      go_enter Try.func91, Try.ntmps91
      go_wp2_with (go_at_call 94; refine hc.mono ?_; rintro e w2 ⟨rfl, S2, h2', k2⟩; have h2 : Hid _ := h2'; clear h2')
      go_returns
      exact ⟨_, rfl, RowAt.nil _, OutOf.nil _ _, S2, HFIN.out _ _ h2.out, (Kept.of BX.out).trans k2⟩
    · rw [if_neg (by intro h; rcases h with h | h; exact absurd rfl h; exact hn h)]
      have q1 : decide (n < 0) = false := decide_eq_false hn
      go_enter Try.func91, Try.ntmps91
      go_wp2_with (go_at_call 94; refine hc.mono ?_; rintro e w2 ⟨rfl, S2, h2', k2⟩; have h2 : Hid _ := h2'; clear h2'; have K2 : Hid _ := k2; clear k2)
      go_returns
      have b3 : Below w2.heap.size w2 (w2.alloc (.cells #[.int .i64 n] 3)) := (Below.refl _ w2).alloc (Nat.le_refl _) _
      exact ⟨.slice (some ⟨w2.heap.size, 0, none⟩) 1 1, rfl, RowAt.built (heap_alloc_new w2 _) rfl 1 rfl rfl, fun bk off m cap _ e => Or.inr (by
        simp only [Value.slice.injEq, Option.some.injEq, Addr.mk.injEq] at e
        have h5 := ((Kept.of BX.out).trans K2.out).size
        omega), S2, (HFIN.out _ _ h2.out).fresh b3, ((Kept.of BX.out).trans K2.out).trans (Kept.of b3)⟩
set_option maxHeartbeats 3200000 in
set_option maxRecDepth 100000 in
theorem free_rw (h : ObP w base D S o) (hk : o.k = 1) (t : Int) (ht : okI t) (x : Opx) (hx : okI x.2.2) (hl : o.l.length + o.q.length < 65536) (hg : o.k = 2 → 0 ≤ o.h ∧ o.h ≤ 1073741824) : Calls Try.prog 102 #[.agg #[.pointer (some ⟨D, 0, none⟩)], .int .i64 t, .agg #[.int .i64 x.1, .int .i64 x.2.1, .int .i64 x.2.2]] w fun e w' => ∃ u, e = .returned (.tuple #[u, .int .i64 (freeA o t x).2.1]) ∧ RowAt intC w' u (freeA o t x).1 ∧ OutOf S w.heap.size u ∧ ∃ S', ObP w' base D S' (freeA o t x).2.2 ∧ Kept w w' S S' := by
  have bx : Below w.heap.size w ((w.alloc (.cells #[.pointer (some ⟨D, 0, none⟩)] 133)).alloc (.cells #[.int .i64 x.1, .int .i64 x.2.1, .int .i64 x.2.2] 45)) := ((Below.refl _ w).alloc (Nat.le_refl _) _).alloc (by simp) _
  have BX : Hid _ := bx
  have hu := And.intro ht (And.intro hx (And.intro hl hg))
  clear hu
  have eA : freeA o t x = ((rwU o.l o.b o.q t (x.1 == 4)).1, rwUZ o.l o.b t (x.1 == 4), rwUn o t (x.1 == 4)) := by unfold freeA; rw [hk]; rfl
  rw [eA]
  have hc := pr_unlock ((h.rw hk).fresh bx) t ht (x.1 == 4) (by omega)
  have HFIN : Hid (∀ w' S', PRw w' base D S' (rwUn o t (x.1 == 4)).l (rwUn o t (x.1 == 4)).b (rwUn o t (x.1 == 4)).q → ObP w' base D S' (rwUn o t (x.1 == 4))) := fun w' S' h9 => ObP.ofRw hk h9
  have HH : Hid _ := h
  have hbs : w.heap.size ≤ ((w.alloc (.cells #[.pointer (some ⟨D, 0, none⟩)] 133)).alloc (.cells #[.int .i64 x.1, .int .i64 x.2.1, .int .i64 x.2.2] 45)).heap.size := bx.size
  have HBS : Hid _ := hbs
  clear h eA hk bx hl hg hbs
  obtain ⟨x1, x2, x3⟩ := x
  go_enter Try.func102, Try.ntmps102
  go_wp2_with (go_at_call 104; refine hc.mono ?_; rintro e w2 ⟨u, rfl, r2', n2', S2, h2', k2⟩; have n2 : Hid _ := n2'; have r2 : Hid _ := r2'; have h2 : Hid _ := h2'; clear h2' n2' r2'; obtain ⟨au, cu, rfl⟩ := r2.out.form)
  go_returns
  exact ⟨_, rfl, r2.out, fun bk off m cap h0 e => Or.inr (Nat.le_trans HBS.out (n2.out bk off m cap h0 e)), S2, HFIN.out _ _ h2.out, (Kept.of BX.out).trans k2⟩
set_option maxHeartbeats 3200000 in
set_option maxRecDepth 100000 in
theorem free_gr (h : ObP w base D S o) (hk : o.k = 2) (t : Int) (ht : okI t) (x : Opx) (hx : okI x.2.2) (hl : o.l.length + o.q.length < 65536) (hg : o.k = 2 → 0 ≤ o.h ∧ o.h ≤ 1073741824) : Calls Try.prog 110 #[.agg #[.pointer (some ⟨D, 0, none⟩)], .int .i64 t, .agg #[.int .i64 x.1, .int .i64 x.2.1, .int .i64 x.2.2]] w fun e w' => ∃ u, e = .returned (.tuple #[u, .int .i64 (freeA o t x).2.1]) ∧ RowAt intC w' u (freeA o t x).1 ∧ OutOf S w.heap.size u ∧ ∃ S', ObP w' base D S' (freeA o t x).2.2 ∧ Kept w w' S S' := by
  have bx : Below w.heap.size w ((w.alloc (.cells #[.pointer (some ⟨D, 0, none⟩)] 137)).alloc (.cells #[.int .i64 x.1, .int .i64 x.2.1, .int .i64 x.2.2] 45)) := ((Below.refl _ w).alloc (Nat.le_refl _) _).alloc (by simp) _
  have BX : Hid _ := bx
  have hu := And.intro ht (And.intro hx (And.intro hl hg))
  clear hu
  have eA : freeA o t x = (gAO o.h o.l x.2.2, gAZ o.h x.2.2, grAd o x.2.2) := by unfold freeA; rw [hk]; rfl
  rw [eA]
  have hc := pg_add ((h.gr hk).fresh bx) x.2.2 hx (hg hk) (by omega)
  have HFIN : Hid (∀ w' S', PGr w' base D S' (grAd o x.2.2).h (grAd o x.2.2).l → ObP w' base D S' (grAd o x.2.2)) := fun w' S' h9 => ObP.ofGr hk h9
  have HH : Hid _ := h
  have hbs : w.heap.size ≤ ((w.alloc (.cells #[.pointer (some ⟨D, 0, none⟩)] 137)).alloc (.cells #[.int .i64 x.1, .int .i64 x.2.1, .int .i64 x.2.2] 45)).heap.size := bx.size
  have HBS : Hid _ := hbs
  clear h eA hk bx hl hg hbs
  obtain ⟨x1, x2, x3⟩ := x
  go_enter Try.func110, Try.ntmps110
  go_wp2_with (go_at_call 112; refine hc.mono ?_; rintro e w2 ⟨u, rfl, r2', S2, h2', k2, n2'⟩; have n2 : Hid _ := n2'; have r2 : Hid _ := r2'; have h2 : Hid _ := h2'; clear h2' n2' r2'; obtain ⟨au, cu, rfl⟩ := r2.out.form)
  go_returns
  exact ⟨_, rfl, r2.out, fun bk off m cap h0 e => (n2.out bk off m cap h0 e).1.imp id (fun h => Nat.le_trans HBS.out h), S2, HFIN.out _ _ h2.out, (Kept.of BX.out).trans k2⟩
set_option maxHeartbeats 3200000 in
set_option maxRecDepth 100000 in
theorem free_on (h : ObP w base D S o) (hk : o.k = 3) (t : Int) (ht : okI t) (x : Opx) (hx : okI x.2.2) (hl : o.l.length + o.q.length < 65536) (hg : o.k = 2 → 0 ≤ o.h ∧ o.h ≤ 1073741824) : Calls Try.prog 118 #[.agg #[.pointer (some ⟨D, 0, none⟩)], .int .i64 t, .agg #[.int .i64 x.1, .int .i64 x.2.1, .int .i64 x.2.2]] w fun e w' => ∃ u, e = .returned (.tuple #[u, .int .i64 (freeA o t x).2.1]) ∧ RowAt intC w' u (freeA o t x).1 ∧ OutOf S w.heap.size u ∧ ∃ S', ObP w' base D S' (freeA o t x).2.2 ∧ Kept w w' S S' := by
  have bx : Below w.heap.size w ((w.alloc (.cells #[.pointer (some ⟨D, 0, none⟩)] 141)).alloc (.cells #[.int .i64 x.1, .int .i64 x.2.1, .int .i64 x.2.2] 45)) := ((Below.refl _ w).alloc (Nat.le_refl _) _).alloc (by simp) _
  have BX : Hid _ := bx
  have hu := And.intro ht (And.intro hx (And.intro hl hg))
  clear hu
  have eA : freeA o t x = (oEO o.h o.l t, oEZ o.h t, onEnd o t) := by unfold freeA; rw [hk]; rfl
  rw [eA]
  have hc := po_done ((h.on hk).fresh bx) t ht (by omega)
  have HFIN : Hid (∀ w' S', POn w' base D S' (onEnd o t).h (onEnd o t).b (onEnd o t).l → ObP w' base D S' (onEnd o t)) := fun w' S' h9 => ObP.ofOn hk h9
  have HH : Hid _ := h
  have hbs : w.heap.size ≤ ((w.alloc (.cells #[.pointer (some ⟨D, 0, none⟩)] 141)).alloc (.cells #[.int .i64 x.1, .int .i64 x.2.1, .int .i64 x.2.2] 45)).heap.size := bx.size
  have HBS : Hid _ := hbs
  clear h eA hk bx hl hg hbs
  obtain ⟨x1, x2, x3⟩ := x
  go_enter Try.func118, Try.ntmps118
  go_wp2_with (go_at_call 120; refine hc.mono ?_; rintro e w2 ⟨u, rfl, r2', S2, h2', k2, n2'⟩; have n2 : Hid _ := n2'; have r2 : Hid _ := r2'; have h2 : Hid _ := h2'; clear h2' n2' r2'; obtain ⟨au, cu, rfl⟩ := r2.out.form)
  go_returns
  exact ⟨_, rfl, r2.out, fun bk off m cap h0 e => (n2.out bk off m cap h0 e).1.imp id (fun h => Nat.le_trans HBS.out h), S2, HFIN.out _ _ h2.out, (Kept.of BX.out).trans k2⟩
end
end Go.Proofs.Ythhlglbohibekaa
namespace Go.Proofs.Ythhlglbohibekaa
open Go.RowKit

abbrev NmT : TypeId := 121
abbrev ObjT : TypeId := 105
abbrev ObMT : TypeId := 54
def nmK (x : Opx) : Int :=
  if x.1 = 1 ∨ x.1 = 2 then (if x.2.2 = 0 then 1 else if x.2.2 = 1 then 2 else 0)
  else if x.1 = 3 ∨ x.1 = 4 then 2
  else if x.1 = 5 ∨ x.1 = 6 then 3
  else if x.1 = 7 ∨ x.1 = 8 then 4
  else 0
theorem nmK_bd (x : Opx) : 0 ≤ nmK x ∧ nmK x ≤ 4 := by
  unfold nmK
  repeat' split
  all_goals omega
def objT (k : Int) : TypeId := if k = 0 then 129 else if k = 1 then 133 else if k = 2 then 137 else 141
def objV (p : Int × Nat) : Value := .iface (objT p.1) (.agg #[.pointer (some ⟨p.2, 0, none⟩)])
def nmV (x : Int × Int) : Value := .agg #[.int .i64 x.1, .int .i64 x.2]
def objM : MapOf (Int × Int) (Int × Nat) := ⟨ObMT, NmT, ObjT, nmV, objV, fun x => okI x.1 ∧ okI x.2, .nilIface⟩
theorem laidOutN : laidOutB Try.prog = true := by kernel_rfl
theorem keyN : Maps.Keyed Try.prog NmT := Maps.Keyed.of_law (deep_law_laid laidOutN (m := 3) (by decide) (by decide +kernel) (by kernel_rfl) (by kernel_rfl))
theorem cellsNm : Try.prog.cellsOf 121 = 2 := by kernel_rfl
theorem cellsKd : Try.prog.cellsOf 119 = 1 := by kernel_rfl
theorem cellsIn : Try.prog.cellsOf 3 = 1 := by kernel_rfl
set_option maxRecDepth 100000 in
theorem litsN (a b : Int) (ha : okI a) (hb : okI b) (d : Nat) : Try.prog.keyLits (d + 2) 121 [.int .i64 a, .int .i64 b] = some [.int .i64 a, .int .i64 b] := by
  have e1 : Try.prog.keyLits (d + 1) 119 [.int .i64 a] = some [.int .i64 a] := kl_int d Try.underlying119 ha
  have e2 : Try.prog.keyLits (d + 1) 3 [.int .i64 b] = some [.int .i64 b] := kl_int d Try.underlying3 hb
  obtain ⟨c, hc⟩ : ∃ c, c = d + 1 := ⟨_, rfl⟩
  rw [← hc] at e1 e2
  rw [show d + 2 = c + 1 by omega]
  simp [Program.keyLits, Try.underlying121, cellsNm, cellsKd, cellsIn, e1, e2]
set_option maxRecDepth 100000 in
theorem keyN_of (a b : Int) (ha : okI a) (hb : okI b) : ∃ l, keyOf Try.prog NmT (nmV (a, b)) = some l := by
  have h1 : Try.prog.keyType 121 = true := by kernel_rfl
  have h2 := litsN a b ha hb
  unfold nmV
  simp [keyOf, Try.underlying121, h1, Value.formed, cellsNm, Value.cells, h2]
theorem objM_is : objM.Is := ⟨Try.underlying54, keyN, fun a h => keyN_of a.1 a.2 h.1 h.2, fun a b e => by
  obtain ⟨a1, a2⟩ := a
  obtain ⟨b1, b2⟩ := b
  simpa [objM, nmV] using e, fun w => by kernel_rfl⟩
set_option maxHeartbeats 3200000 in
set_option maxRecDepth 100000 in
theorem kind_any (n : Int) (w : World) : Calls Try.prog 69 #[.int .i64 n] w fun e w' => e = .returned (.int .i64 (if n = 0 then 1 else if n = 1 then 2 else 0)) ∧ w = w' := by
  by_cases h0 : n = 0
  · subst h0
    go_enter Try.func69, Try.ntmps69
    go_wp2
    go_ret
    exact ⟨rfl, rfl⟩
  · by_cases h1 : n = 1
    · subst h1
      go_enter Try.func69, Try.ntmps69
      go_wp2
      go_ret
      exact ⟨rfl, rfl⟩
    · rw [if_neg h0, if_neg h1]
      have q0 : (n == 0) = false := beq_eq_false_iff_ne.2 h0
      have q1 : (n == 1) = false := beq_eq_false_iff_ne.2 h1
      go_enter Try.func69, Try.ntmps69
      go_wp2
      go_ret
      exact ⟨rfl, rfl⟩
theorem infoNm : (Try.prog.info? 121).map (·.size) = some 2 := by kernel_rfl
set_option maxHeartbeats 6400000 in
set_option maxRecDepth 100000 in
theorem name_any (x : Opx) (w : World) : Calls Try.prog 66 #[.agg #[.int .i64 x.1, .int .i64 x.2.1, .int .i64 x.2.2]] w fun e w' => e = .returned (nmV (nmK x, x.2.1)) ∧ Below w.heap.size w w' := by
  have hkd := kind_any
  obtain ⟨k, num, n⟩ := x
  have R1 : Hid _ := heap_alloc_new w (.cells #[.int .i64 k, .int .i64 num, .int .i64 n] 45)
  have B1 : Hid _ := (Below.refl _ w).alloc (Nat.le_refl _) (.cells #[.int .i64 k, .int .i64 num, .int .i64 n] 45)
  have B2 : Hid (∀ y z : Int, Below w.heap.size w ((w.alloc (.cells #[.int .i64 k, .int .i64 num, .int .i64 n] 45)).alloc (.cells #[.int .i64 y, .int .i64 z] NmT))) := fun y z => B1.out.alloc B1.out.size _
  have E2 : Hid (∀ y z : Int, ((w.alloc (.cells #[.int .i64 k, .int .i64 num, .int .i64 n] 45)).alloc (.cells #[.int .i64 y, .int .i64 z] NmT)).heap[w.heap.size + 1]? = some (.cells #[.int .i64 y, .int .i64 z] NmT (0, 0))) := fun y z => by
    have := heap_alloc_new (w.alloc (.cells #[.int .i64 k, .int .i64 num, .int .i64 n] 45)) (.cells #[.int .i64 y, .int .i64 z] NmT)
    rw [show (w.alloc (.cells #[.int .i64 k, .int .i64 num, .int .i64 n] 45)).heap.size = w.heap.size + 1 by simp] at this
    exact this
  have hc : k = 1 ∨ k = 2 ∨ k = 3 ∨ k = 4 ∨ k = 5 ∨ k = 6 ∨ k = 7 ∨ k = 8 ∨ (k ≠ 1 ∧ k ≠ 2 ∧ k ≠ 3 ∧ k ≠ 4 ∧ k ≠ 5 ∧ k ≠ 6 ∧ k ≠ 7 ∧ k ≠ 8) := by omega
  rcases hc with rfl | rfl | rfl | rfl | rfl | rfl | rfl | rfl | ⟨g1, g2, g3, g4, g5, g6, g7, g8⟩
  · have e0 : nmK (1, num, n) = (if n = 0 then 1 else if n = 1 then 2 else 0) := by unfold nmK; simp
    rw [e0]
    replace hkd := hkd n
    clear e0
    generalize (if n = 0 then (1 : Int) else if n = 1 then 2 else 0) = v at *
    go_enter Try.func66, Try.ntmps66
    go_wp2
    refine wp_region_held_drew (S := (fun w' : World => w'.cell? ⟨w.heap.size, 1, none⟩ = some (.int .i64 num) ∧ w'.cell? ⟨w.heap.size, 2, none⟩ = some (.int .i64 n))) (by kernel_rfl) ?_ (fun hHeld0 => ?_)
    · try dsimp only
      go_keep
    refine tk0 (.pointer (some ⟨w.heap.size, 2, none⟩)) ?_ (fun w hSw => by (try dsimp only at hSw); obtain ⟨q4, q5⟩ := hSw; go_simp)
    try simp only [Act.put, pu1, pu2, pu3]
    refine tk1 (.int .i64 n) ?_ (fun w hSw => by (try dsimp only at hSw); obtain ⟨q4, q5⟩ := hSw; go_simp)
    try simp only [Act.put, pu1, pu2, pu3]
    refine tk3 (.pointer (some ⟨w.heap.size, 1, none⟩)) ?_ (fun w hSw => by (try dsimp only at hSw); obtain ⟨q4, q5⟩ := hSw; go_simp)
    try simp only [Act.put, pu1, pu2, pu3]
    refine tk4 (.int .i64 num) ?_ (fun w hSw => by (try dsimp only at hSw); obtain ⟨q4, q5⟩ := hSw; go_simp)
    try simp only [Act.put, pu1, pu2, pu3]
    refine cl2 (by kernel_rfl) rfl (fun K hK => ?_)
    go_simp
    go_at_call 69
    refine (hkd _).mono ?_
    rintro e w2 ⟨rfl, rfl⟩
    refine hK.out _ _ ?_ (fun hHeld => ?_)
    · exact hHeld0
    clear hK K
    refine tk5 (.agg #[.int .i64 v, .int .i64 num]) ?_ (fun w hSw => by (try dsimp only at hSw); obtain ⟨q4, q5⟩ := hSw; go_simp)
    try simp only [Act.put, pu1, pu2, pu3]
    refine cl6 (by kernel_rfl) rfl (fun K hK => ?_)
    go_simp
    refine hK.out _ _ ?_ (fun hHeld => ?_)
    · go_keep
    clear hK K
    try simp only [Act.put, pu1, pu2, pu3]
    refine wpAnyH_done (by kernel_rfl) ?_ _
    go_wp2
    refine bodyPost_ret (results_cell_row Try.results66 _ _ (w.heap.size + 1) NmT _ (0, 0) _ rfl (E2.out v num) Try.underlying121 rfl infoNm) rfl ?_
    exact ⟨rfl, (B2.out v num).drew⟩
  · have e0 : nmK (2, num, n) = (if n = 0 then 1 else if n = 1 then 2 else 0) := by unfold nmK; simp
    rw [e0]
    replace hkd := hkd n
    clear e0
    generalize (if n = 0 then (1 : Int) else if n = 1 then 2 else 0) = v at *
    go_enter Try.func66, Try.ntmps66
    go_wp2
    refine wp_region_held_drew (S := (fun w' : World => w'.cell? ⟨w.heap.size, 1, none⟩ = some (.int .i64 num) ∧ w'.cell? ⟨w.heap.size, 2, none⟩ = some (.int .i64 n))) (by kernel_rfl) ?_ (fun hHeld0 => ?_)
    · try dsimp only
      go_keep
    refine tk0 (.pointer (some ⟨w.heap.size, 2, none⟩)) ?_ (fun w hSw => by (try dsimp only at hSw); obtain ⟨q4, q5⟩ := hSw; go_simp)
    try simp only [Act.put, pu1, pu2, pu3]
    refine tk1 (.int .i64 n) ?_ (fun w hSw => by (try dsimp only at hSw); obtain ⟨q4, q5⟩ := hSw; go_simp)
    try simp only [Act.put, pu1, pu2, pu3]
    refine tk3 (.pointer (some ⟨w.heap.size, 1, none⟩)) ?_ (fun w hSw => by (try dsimp only at hSw); obtain ⟨q4, q5⟩ := hSw; go_simp)
    try simp only [Act.put, pu1, pu2, pu3]
    refine tk4 (.int .i64 num) ?_ (fun w hSw => by (try dsimp only at hSw); obtain ⟨q4, q5⟩ := hSw; go_simp)
    try simp only [Act.put, pu1, pu2, pu3]
    refine cl2 (by kernel_rfl) rfl (fun K hK => ?_)
    go_simp
    go_at_call 69
    refine (hkd _).mono ?_
    rintro e w2 ⟨rfl, rfl⟩
    refine hK.out _ _ ?_ (fun hHeld => ?_)
    · exact hHeld0
    clear hK K
    refine tk5 (.agg #[.int .i64 v, .int .i64 num]) ?_ (fun w hSw => by (try dsimp only at hSw); obtain ⟨q4, q5⟩ := hSw; go_simp)
    try simp only [Act.put, pu1, pu2, pu3]
    refine cl6 (by kernel_rfl) rfl (fun K hK => ?_)
    go_simp
    refine hK.out _ _ ?_ (fun hHeld => ?_)
    · go_keep
    clear hK K
    try simp only [Act.put, pu1, pu2, pu3]
    refine wpAnyH_done (by kernel_rfl) ?_ _
    go_wp2
    refine bodyPost_ret (results_cell_row Try.results66 _ _ (w.heap.size + 1) NmT _ (0, 0) _ rfl (E2.out v num) Try.underlying121 rfl infoNm) rfl ?_
    exact ⟨rfl, (B2.out v num).drew⟩
  · go_enter Try.func66, Try.ntmps66
    go_wp2
    refine bodyPost_ret (results_cell_row Try.results66 _ _ (w.heap.size + 1) NmT _ (0, 0) _ rfl (E2.out 2 num) Try.underlying121 rfl infoNm) rfl ?_
    exact ⟨rfl, B2.out 2 num⟩
  · go_enter Try.func66, Try.ntmps66
    go_wp2
    refine bodyPost_ret (results_cell_row Try.results66 _ _ (w.heap.size + 1) NmT _ (0, 0) _ rfl (E2.out 2 num) Try.underlying121 rfl infoNm) rfl ?_
    exact ⟨rfl, B2.out 2 num⟩
  · go_enter Try.func66, Try.ntmps66
    go_wp2
    refine bodyPost_ret (results_cell_row Try.results66 _ _ (w.heap.size + 1) NmT _ (0, 0) _ rfl (E2.out 3 num) Try.underlying121 rfl infoNm) rfl ?_
    exact ⟨rfl, B2.out 3 num⟩
  · go_enter Try.func66, Try.ntmps66
    go_wp2
    refine bodyPost_ret (results_cell_row Try.results66 _ _ (w.heap.size + 1) NmT _ (0, 0) _ rfl (E2.out 3 num) Try.underlying121 rfl infoNm) rfl ?_
    exact ⟨rfl, B2.out 3 num⟩
  · go_enter Try.func66, Try.ntmps66
    go_wp2
    refine bodyPost_ret (results_cell_row Try.results66 _ _ (w.heap.size + 1) NmT _ (0, 0) _ rfl (E2.out 4 num) Try.underlying121 rfl infoNm) rfl ?_
    exact ⟨rfl, B2.out 4 num⟩
  · go_enter Try.func66, Try.ntmps66
    go_wp2
    refine bodyPost_ret (results_cell_row Try.results66 _ _ (w.heap.size + 1) NmT _ (0, 0) _ rfl (E2.out 4 num) Try.underlying121 rfl infoNm) rfl ?_
    exact ⟨rfl, B2.out 4 num⟩
  · have e0 : nmK (k, num, n) = 0 := by unfold nmK; simp [g1, g2, g3, g4, g5, g6, g7, g8]
    rw [e0]
    have q1 : (k == 1) = false := beq_eq_false_iff_ne.2 g1
    have q2 : (k == 2) = false := beq_eq_false_iff_ne.2 g2
    have q3 : (k == 3) = false := beq_eq_false_iff_ne.2 g3
    have q4 : (k == 4) = false := beq_eq_false_iff_ne.2 g4
    have q5 : (k == 5) = false := beq_eq_false_iff_ne.2 g5
    have q6 : (k == 6) = false := beq_eq_false_iff_ne.2 g6
    have q7 : (k == 7) = false := beq_eq_false_iff_ne.2 g7
    have q8 : (k == 8) = false := beq_eq_false_iff_ne.2 g8
    go_enter Try.func66, Try.ntmps66
    go_wp2
    refine bodyPost_ret (results_cell_row Try.results66 _ _ (w.heap.size + 1) NmT _ (0, 0) _ rfl (E2.out 0 num) Try.underlying121 rfl infoNm) rfl ?_
    exact ⟨rfl, B2.out 0 num⟩
set_option maxHeartbeats 3200000 in
set_option maxRecDepth 100000 in
theorem nobj_any (k : Int) (hk : 0 ≤ k ∧ k ≤ 4) (w : World) : Calls Try.prog 67 #[.int .i64 k] w fun e w' => (k = 0 → e = .returned .nilIface) ∧ (k ≠ 0 → ∃ D S, e = .returned (objV (k - 1, D)) ∧ ObP w' w.heap.size D S (obNew (k - 1))) ∧ Below w.heap.size w w' := by
  have c0 := pm_new
  have c1 := pr_new
  have c2 := pg_new
  have c3 := po_new
  have hc : k = 0 ∨ k = 1 ∨ k = 2 ∨ k = 3 ∨ k = 4 := by omega
  rcases hc with rfl | rfl | rfl | rfl | rfl
  · go_enter Try.func67, Try.ntmps67
    go_wp2
    go_ret
    exact ⟨fun _ => rfl, fun h => absurd rfl h, Below.refl _ _⟩
  · go_enter Try.func67, Try.ntmps67
    go_wp2_with (go_at_call 70; refine (c0 w).mono ?_; rintro e w2 ⟨D, S, rfl, h2', b2⟩; have h2 : Hid _ := h2'; clear h2')
    go_ret
    exact ⟨fun h => absurd h (by decide), fun _ => ⟨D, S, rfl, ObP.ofMx rfl h2.out⟩, b2⟩
  · go_enter Try.func67, Try.ntmps67
    go_wp2_with (go_at_call 71; refine (c1 w).mono ?_; rintro e w2 ⟨D, S, rfl, h2', b2⟩; have h2 : Hid _ := h2'; clear h2')
    go_ret
    exact ⟨fun h => absurd h (by decide), fun _ => ⟨D, S, rfl, ObP.ofRw rfl h2.out⟩, b2⟩
  · go_enter Try.func67, Try.ntmps67
    go_wp2_with (go_at_call 72; refine (c2 w).mono ?_; rintro e w2 ⟨D, S, rfl, h2', b2⟩; have h2 : Hid _ := h2'; clear h2')
    go_ret
    exact ⟨fun h => absurd h (by decide), fun _ => ⟨D, S, rfl, ObP.ofGr rfl h2.out⟩, b2⟩
  · go_enter Try.func67, Try.ntmps67
    go_wp2_with (go_at_call 73; refine (c3 w).mono ?_; rintro e w2 ⟨D, S, rfl, h2', b2⟩; have h2 : Hid _ := h2'; clear h2')
    go_ret
    exact ⟨fun h => absurd h (by decide), fun _ => ⟨D, S, rfl, ObP.ofOn rfl h2.out⟩, b2⟩
section
variable {w : World} {base D : Nat} {S : Nat → Prop} {ob : Ob}
set_option maxHeartbeats 3200000 in
set_option maxRecDepth 100000 in
theorem inv_ask {o : Oper} {a : Act} {Kn : Act → World → Prop} {Q : Exit → Act → World → Prop} (r x1 x2 : Operand) (ts : Array TypeId) (ho : o.op = .call { callee := .invoke r "latchkey/sched.ask", args := #[x1, x2], argTypes := ts }) (hr : a.eval r = objV (ob.k, D)) (t : Int) (x : Opx) (h1 : a.eval x1 = .int .i64 t) (h2 : a.eval x2 = .agg #[.int .i64 x.1, .int .i64 x.2.1, .int .i64 x.2.2]) (h : ObP w base D S ob) (ht : okI t) (hx : okI x.2.2) (hl : ob.l.length + ob.q.length < 65536) (hg : ob.k = 2 → 0 ≤ ob.h ∧ ob.h ≤ 1073741824)
    (hK : ∀ w' S', ObP w' base D S' (askA ob t x).2.2 → Kept w w' S S' → Kn (a.put o.dst (.tuple #[.int .i64 (askA ob t x).1, .int .i64 (askA ob t x).2.1])) w') : o.wp Try.prog a w Kn Q := by
  have hc : ob.k = 0 ∨ ob.k = 1 ∨ ob.k = 2 ∨ ob.k = 3 := by have := h.kk; omega
  have arm : ∀ (fn : FuncId) (T : TypeId), (∀ w', (callFunc fn #[.agg #[.pointer (some ⟨D, 0, none⟩)], .int .i64 t, .agg #[.int .i64 x.1, .int .i64 x.2.1, .int .i64 x.2.2]]).run Try.prog w' = .ok (.enter fn #[.agg #[.pointer (some ⟨D, 0, none⟩)], .int .i64 t, .agg #[.int .i64 x.1, .int .i64 x.2.1, .int .i64 x.2.2]]) w') → objT ob.k = T → (∀ w', (method (Try.prog.types.size + Made.depth) T (.agg #[.pointer (some ⟨D, 0, none⟩)]) "latchkey/sched.ask").run Try.prog w' = .ok (fn, .agg #[.pointer (some ⟨D, 0, none⟩)]) w') → (Calls Try.prog fn #[.agg #[.pointer (some ⟨D, 0, none⟩)], .int .i64 t, .agg #[.int .i64 x.1, .int .i64 x.2.1, .int .i64 x.2.2]] w fun e w' => e = .returned (.tuple #[.int .i64 (askA ob t x).1, .int .i64 (askA ob t x).2.1]) ∧ ∃ S', ObP w' base D S' (askA ob t x).2.2 ∧ Kept w w' S S') → o.wp Try.prog a w Kn Q := fun fn T hcf hT hm hcall => by
    refine wp_invoke r "latchkey/sched.ask" #[x1, x2] ts ho T (.agg #[.pointer (some ⟨D, 0, none⟩)]) _ fn (by rw [hr]; unfold objV; rw [hT]) hm _ rfl ?_
    unfold Oper.wp execOp
    simp only [resolve, invoke, Deferred.ofValue, Act.eval, Sem.run_bind, Sem.run_pure, Result.andThen_ok]
    have hc0 : a.eval (.const (Value.agg #[.pointer (some ⟨D, 0, none⟩)])) = Value.agg #[.pointer (some ⟨D, 0, none⟩)] := rfl
    have e : (#[] ++ Array.map a.eval (#[Operand.const (Value.agg #[.pointer (some ⟨D, 0, none⟩)])] ++ #[x1, x2]) ++ #[]) = #[.agg #[.pointer (some ⟨D, 0, none⟩)], .int .i64 t, .agg #[.int .i64 x.1, .int .i64 x.2.1, .int .i64 x.2.2]] := by simp [hc0, h1, h2]
    rw [e, hcf, Oper.upon_enter]
    refine hcall.mono ?_
    rintro e2 w2 ⟨rfl, S2, h9, k9⟩
    exact hK w2 S2 h9 k9
  rcases hc with hc | hc | hc | hc
  · exact arm 90 _ (fun _ => by kernel_rfl) (by rw [hc]) (fun _ => by kernel_rfl) (ask_mx h hc t ht x hx hl hg)
  · exact arm 101 _ (fun _ => by kernel_rfl) (by rw [hc]) (fun _ => by kernel_rfl) (ask_rw h hc t ht x hx hl hg)
  · exact arm 109 _ (fun _ => by kernel_rfl) (by rw [hc]) (fun _ => by kernel_rfl) (ask_gr h hc t ht x hx hl hg)
  · exact arm 117 _ (fun _ => by kernel_rfl) (by rw [hc]) (fun _ => by kernel_rfl) (ask_on h hc t ht x hx hl hg)
set_option maxHeartbeats 3200000 in
set_option maxRecDepth 100000 in
theorem inv_free {o : Oper} {a : Act} {Kn : Act → World → Prop} {Q : Exit → Act → World → Prop} (r x1 x2 : Operand) (ts : Array TypeId) (ho : o.op = .call { callee := .invoke r "latchkey/sched.free", args := #[x1, x2], argTypes := ts }) (hr : a.eval r = objV (ob.k, D)) (t : Int) (x : Opx) (h1 : a.eval x1 = .int .i64 t) (h2 : a.eval x2 = .agg #[.int .i64 x.1, .int .i64 x.2.1, .int .i64 x.2.2]) (h : ObP w base D S ob) (ht : okI t) (hx : okI x.2.2) (hl : ob.l.length + ob.q.length < 65536) (hg : ob.k = 2 → 0 ≤ ob.h ∧ ob.h ≤ 1073741824)
    (hK : ∀ u w' S', RowAt intC w' u (freeA ob t x).1 → OutOf S w.heap.size u → ObP w' base D S' (freeA ob t x).2.2 → Kept w w' S S' → Kn (a.put o.dst (.tuple #[u, .int .i64 (freeA ob t x).2.1])) w') : o.wp Try.prog a w Kn Q := by
  have hc : ob.k = 0 ∨ ob.k = 1 ∨ ob.k = 2 ∨ ob.k = 3 := by have := h.kk; omega
  have arm : ∀ (fn : FuncId) (T : TypeId), (∀ w', (callFunc fn #[.agg #[.pointer (some ⟨D, 0, none⟩)], .int .i64 t, .agg #[.int .i64 x.1, .int .i64 x.2.1, .int .i64 x.2.2]]).run Try.prog w' = .ok (.enter fn #[.agg #[.pointer (some ⟨D, 0, none⟩)], .int .i64 t, .agg #[.int .i64 x.1, .int .i64 x.2.1, .int .i64 x.2.2]]) w') → objT ob.k = T → (∀ w', (method (Try.prog.types.size + Made.depth) T (.agg #[.pointer (some ⟨D, 0, none⟩)]) "latchkey/sched.free").run Try.prog w' = .ok (fn, .agg #[.pointer (some ⟨D, 0, none⟩)]) w') → (Calls Try.prog fn #[.agg #[.pointer (some ⟨D, 0, none⟩)], .int .i64 t, .agg #[.int .i64 x.1, .int .i64 x.2.1, .int .i64 x.2.2]] w fun e w' => ∃ u, e = .returned (.tuple #[u, .int .i64 (freeA ob t x).2.1]) ∧ RowAt intC w' u (freeA ob t x).1 ∧ OutOf S w.heap.size u ∧ ∃ S', ObP w' base D S' (freeA ob t x).2.2 ∧ Kept w w' S S') → o.wp Try.prog a w Kn Q := fun fn T hcf hT hm hcall => by
    refine wp_invoke r "latchkey/sched.free" #[x1, x2] ts ho T (.agg #[.pointer (some ⟨D, 0, none⟩)]) _ fn (by rw [hr]; unfold objV; rw [hT]) hm _ rfl ?_
    unfold Oper.wp execOp
    simp only [resolve, invoke, Deferred.ofValue, Act.eval, Sem.run_bind, Sem.run_pure, Result.andThen_ok]
    have hc0 : a.eval (.const (Value.agg #[.pointer (some ⟨D, 0, none⟩)])) = Value.agg #[.pointer (some ⟨D, 0, none⟩)] := rfl
    have e : (#[] ++ Array.map a.eval (#[Operand.const (Value.agg #[.pointer (some ⟨D, 0, none⟩)])] ++ #[x1, x2]) ++ #[]) = #[.agg #[.pointer (some ⟨D, 0, none⟩)], .int .i64 t, .agg #[.int .i64 x.1, .int .i64 x.2.1, .int .i64 x.2.2]] := by simp [hc0, h1, h2]
    rw [e, hcf, Oper.upon_enter]
    refine hcall.mono ?_
    rintro e2 w2 ⟨u, rfl, r9, o9, S2, h9, k9⟩
    exact hK u w2 S2 r9 o9 h9 k9
  rcases hc with hc | hc | hc | hc
  · exact arm 91 _ (fun _ => by kernel_rfl) (by rw [hc]) (fun _ => by kernel_rfl) (free_mx h hc t ht x hx hl hg)
  · exact arm 102 _ (fun _ => by kernel_rfl) (by rw [hc]) (fun _ => by kernel_rfl) (free_rw h hc t ht x hx hl hg)
  · exact arm 110 _ (fun _ => by kernel_rfl) (by rw [hc]) (fun _ => by kernel_rfl) (free_gr h hc t ht x hx hl hg)
  · exact arm 118 _ (fun _ => by kernel_rfl) (by rw [hc]) (fun _ => by kernel_rfl) (free_on h hc t ht x hx hl hg)
end
end Go.Proofs.Ythhlglbohibekaa
