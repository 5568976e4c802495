/-
  Package locks: the sessions that hold a lock, rising; replies put behind one another; a lock granted. The conditions: lists are short; who is granted it is an int and does not hold it yet.
-/
import Derived.Test.YtmfadmhbkgemmaaQLcDrop
import Derived.Test.YtmfadmhbkgemmaaQLcKeys
namespace Go.Proofs.Ytmfadmhbkgemmaa
open Go.RowKit

theorem infoRpl : (Try.prog.info? rpT).map (fun i => (i.zero, i.size, i.bytes)) = some (some (.agg (rpA SeR.zero)), 5, 40) := by kernel_rfl
set_option maxRecDepth 100000 in
set_option maxHeartbeats 2000000 in
theorem holding_any {w : World} {X : Nat} {S : Nat → Prop} {h : List Int} {wr : Bool} {q : List Wq} (I : LcAt w X S h wr q) (hs : h.Pairwise (· < ·)) (hl : h.length ≤ 65536) :
    Calls Try.prog 44 #[bPtr X] w fun e w' => ∃ v, e = .returned v ∧ w'.ownsRow w.heap.size 3 1 v h.length (intL h) ∧ Below w.heap.size w w' := by
  obtain ⟨H, P, L, ks, ps, M⟩ := I.ex
  have c0 : w.cell? ⟨X, 0, none⟩ = some (.map (some H)) := M.cell 0 _ rfl
  have hc := sorted_call M.hold (by rw [M.hlen]; exact hl)
  rw [sorted_self M.hp hs, M.hlen] at hc
  clear M I hs hl
  go_enter Try.func44, Try.ntmps44
  go_wp2_with (first
    | (go_at_call 61; refine hc.mono ?_; rintro e w6 ⟨v, rfl, hv, b6⟩)
    | (go_at_call 62; refine (keys_call _ _).mono ?_; rintro e w5 ⟨rfl, rfl⟩))
  go_ret
  exact ⟨_, rfl, hv, b6⟩
set_option maxRecDepth 100000 in
set_option maxHeartbeats 2000000 in
theorem behind_any {w : World} {base : Nat} {v u : Value} {xs ys : List SeR} (hown : w.ownsRow base rpT 5 v xs.length (rowL rpC xs)) (hr : RowAt rpC w u ys) (hb : base ≤ w.heap.size) (hn : xs.length + ys.length ≤ 100000000) :
    Calls Try.prog 25 #[v, u] w fun e w' => ∃ u', e = .returned u' ∧ w'.ownsRow base rpT 5 u' (xs ++ ys).length (rowL rpC (xs ++ ys)) ∧ Appended base w w' v u' := by
  obtain ⟨i0, hi, hz0, hz1, hz2⟩ := info_parts infoRpl
  obtain ⟨pv, nv, cv, rfl⟩ := own_form hown
  obtain ⟨au, cu, rfl⟩ := hr.form
  have HO : Hid (w.ownsRow base rpT 5 (.slice pv nv cv) xs.length (rowL rpC xs)) := hown
  have HR : Hid (RowAt rpC w (.slice au ys.length cu) ys) := hr
  have HN : Hid (xs.length + ys.length ≤ 100000000) := hn
  clear hown hr hn
  go_enter Try.func25, Try.ntmps25
  go_wp2_with (at_builtin; refine wpList_app_row (k := 5) (enc := rpC) (l := ys) rfl (.tmp 5) (.tmp 6) 36 rpT rfl i0 _ 40 Try.underlying36 hi hz0 hz1 hz2 rfl (by decide) rpC_len rpC_one (base := base) rfl rfl HO.out HR.out hb (by have := HN.out; omega) (by have := HN.out; omega) ?_; intro u6 w6 o6 a6)
  go_ret
  refine ⟨_, rfl, ?_, a6⟩
  rw [List.length_append, rowL_append]
  exact o6
abbrev pgT : TypeId := 60
abbrev pgA (M : Nat) (c : Int) : Array Value := #[.map (some M), .int .u64 c]
/-- While a lock is granted: the box of who is granted it, the answer's place, the counter's block, the lock. -/
structure GrI (w wr : World) (X D : Nat) (S : Nat → Prop) (h : List Int) (wt : Bool) (q : List Wq) (M : Nat) (c : Int) (x : Wq) : Prop where
  at' : LcAt wr X S h wt q
  d : wr.heap[D]? = some (.cells (pgA M c) pgT (0, 0))
  box : wr.heap[w.heap.size]? = some (.cells (lcWA x) lcWT (0, 0))
  res : wr.heap[w.heap.size + 1]? = some (.cells (rpA SeR.zero) rpT (0, 0))
  k : Kept w wr (fun b => S b ∨ b = D) (fun b => S b ∨ b = D)
  nd : ¬ S D ∧ D < w.heap.size
  bd : ∀ g, S g → g < w.heap.size
section
variable {w wr wr' : World} {X D M : Nat} {S : Nat → Prop} {h h' : List Int} {wt wt' : Bool} {q q' : List Wq} {c : Int} {x : Wq}
theorem GrI.size (I : GrI w wr X D S h wt q M c x) : w.heap.size + 2 ≤ wr.heap.size := lt_of_block I.res
theorem GrI.tok (I : GrI w wr X D S h wt q M c x) : wr.cell? ⟨D, 1, none⟩ = some (.int .u64 c) := by simp [World.cell?, I.d]
theorem GrI.hold (I : GrI w wr X D S h wt q M c x) (hi : LcAt wr' X S h' wt' q') (k : Kept wr wr' S S) : GrI w wr' X D S h' wt' q' M c x := by
  have hz := I.size
  have hkk : ∀ b, b < wr.heap.size → ¬ S b → wr'.heap[b]? = wr.heap[b]? := k.kept
  refine ⟨hi, (hkk D (lt_of_block I.d) I.nd.1).trans I.d, (hkk _ (lt_of_block I.box) (fun e => by have := I.bd _ e; omega)).trans I.box, (hkk _ (lt_of_block I.res) (fun e => by have := I.bd _ e; omega)).trans I.res, I.k.trans ⟨k.os, k.tape, k.output, k.size, fun b hb => Or.inl hb, fun b hb hn => k.kept b hb (fun e => hn (Or.inl e))⟩, I.nd, I.bd⟩
theorem GrI.fresh (I : GrI w wr X D S h wt q M c x) (b : Below wr.heap.size wr wr') : GrI w wr' X D S h wt q M c x :=
  ⟨I.at'.fresh b, (b.block _ (lt_of_block I.d)).trans I.d, (b.block _ (lt_of_block I.box)).trans I.box, (b.block _ (lt_of_block I.res)).trans I.res, I.k.trans (Kept.of b), I.nd, I.bd⟩
theorem GrI.grown (I : GrI w wr X D S h wt q M c x) {g : Nat} (k : wr.grownBy wr' (some g)) (hg : w.heap.size + 2 ≤ g) : GrI w wr' X D S h wt q M c x := by
  have hne : ∀ b, b < w.heap.size + 2 → b < wr.heap.size → wr'.heap[b]? = wr.heap[b]? := fun b hb hb2 => k.block b hb2 (fun e => by have := Option.some.inj e; omega)
  have hz := I.size
  have hD := I.nd.2
  exact ⟨I.at'.keep fun b hb => hne b (by have := I.bd b hb; omega) (I.at'.bd b hb), (hne D (by omega) (lt_of_block I.d)).trans I.d, (hne _ (by omega) (lt_of_block I.box)).trans I.box, (hne _ (by omega) (lt_of_block I.res)).trans I.res, I.k.newer (by omega) k, I.nd, I.bd⟩
/-- The counter raised. -/
theorem GrI.setD (I : GrI w wr X D S h wt q M c x) (c' : Int) : GrI w (wr.setCell ⟨D, 1, none⟩ (.int .u64 c')) X D S h wt q M c' x := by
  have o : ∀ b, b ≠ D → (wr.setCell ⟨D, 1, none⟩ (.int .u64 c')).heap[b]? = wr.heap[b]? := fun b hb => heap_setCell_other _ _ _ _ hb
  have hD := I.nd
  refine ⟨I.at'.keep fun b hb => o b (fun e => hD.1 (e ▸ hb)), by rw [heap_setCell_same _ D 1 _ _ _ I.d]; rfl, (o _ (by omega)).trans I.box, (o _ (by omega)).trans I.res, I.k.trans ⟨rfl, rfl, rfl, by simp, fun b hb => Or.inl hb, fun b hb hn => o b (fun e => hn (Or.inr e))⟩, I.nd, I.bd⟩
/-- What a grant leaves. -/
structure GraQ (w : World) (X D : Nat) (S : Nat → Prop) (q : List Wq) (M : Nat) (g : Int × List Int × Bool × SeR) (w' : World) : Prop where
  at' : LcAt w' X S g.2.1 g.2.2.1 q
  d : w'.heap[D]? = some (.cells (pgA M g.1) pgT (0, 0))
  k : Kept w w' (fun b => S b ∨ b = D) (fun b => S b ∨ b = D)
theorem GrI.fin (I : GrI w wr X D S h wt q M c x) (k : wr.grownBy wr' (some (w.heap.size + 1))) {r : SeR} : GraQ w X D S q M (c, h, wt, r) wr' := by
  have hz := I.size
  have hD := I.nd.2
  have hne : ∀ b, b < w.heap.size → wr'.heap[b]? = wr.heap[b]? := fun b hb => k.block b (by omega) (fun e => by have := Option.some.inj e; omega)
  exact ⟨I.at'.keep fun b hb => hne b (I.bd b hb), (hne D hD).trans I.d, I.k.newer (by omega) k⟩
structure GraP (w : World) (X D : Nat) (S : Nat → Prop) (q : List Wq) (M : Nat) (g : Int × List Int × Bool × SeR) (e : Ending) (w' : World) : Prop where
  ret : e = .returned (.agg (rpA g.2.2.2))
  ex : GraQ w X D S q M g w'
end
set_option maxRecDepth 100000 in
set_option maxHeartbeats 4000000 in
theorem grant_any {w : World} {X D M : Nat} {S : Nat → Prop} {h : List Int} {wr : Bool} {q : List Wq} {c : Int} (I : LcAt w X S h wr q) (hd : w.heap[D]? = some (.cells (pgA M c) pgT (0, 0))) (hnd : ¬ S D) (hc0 : 0 ≤ c) (hc1 : c ≤ 18446744073709551615) (x : Wq) (hi : inI x.s) (hn : hasB h x.s = false) (hl : h.length < 65536) :
    Calls Try.prog 30 #[.pointer (some ⟨D, 0, none⟩), bPtr X, .agg (lcWA x)] w (GraP w X D S q M (giveH c h wr x)) := by
  obtain ⟨e1, e2, e3, bW⟩ := lc_two_blks w (.cells (lcWA x) lcWT) (.cells (rpA SeR.zero) rpT)
  obtain ⟨W, hW⟩ : ∃ W, W = (w.alloc (.cells (lcWA x) lcWT)).alloc (.cells (rpA SeR.zero) rpT) := ⟨_, rfl⟩
  rw [← hW] at e1 e2 e3 bW
  have HV : Hid (GrI w W X D S h wr q M c x) := (show Hid _ from (⟨I.fresh bW, (bW.block D (lt_of_block hd)).trans hd, e1, e2, Kept.of bW, ⟨hnd, lt_of_block hd⟩, I.bd⟩ : GrI w W X D S h wr q M c x))
  have HW : Hid ((w.alloc (.cells #[.int .i64 x.s, .int .i64 x.n, .bool x.rd] lcWT)).alloc (.cells #[.int .i64 0, .int .i64 0, .int .i64 0, .int .u64 0, .int .i64 0] rpT) = W) := hW.symm
  have HO : Hid (inI x.s ∧ hasB h x.s = false ∧ h.length < 65536) := (show Hid _ from (⟨hi, hn, hl⟩ : _ ∧ _ ∧ _))
  have y2 : W.cell? ⟨w.heap.size, 2, none⟩ = some (.bool x.rd) := by simp [World.cell?, e1]
  have yD : W.cell? ⟨D, 1, none⟩ = some (.int .u64 c) := HV.out.tok
  have fD : W.frozen? ⟨D, 1, none⟩ = false := by simp [World.frozen?, HV.out.d]
  clear hW e1 e2 e3 bW I hd hnd hi hn hl
  cases hrd : x.rd with
  | true =>
    have HQ : Hid (giveH c h wr x = (c, putL h x.s, !x.rd, ⟨x.s, x.n, 0, c, 0⟩)) := (show giveH c h wr x = _ from by unfold giveH; rw [hrd, if_pos rfl]; rfl)
    rw [hrd] at y2
    have HRD : Hid (x.rd = true) := hrd
    clear hrd
    go_enter Try.func30, Try.ntmps30
    go_upto_region 1 with fail
    rw [HW.out]
    go_upto_region 5 with fail
    -- V: the counter is c
    have hh := hold_any HV.out.at' x HO.out.1 HO.out.2.1 HO.out.2.2
    go_upto_region 6 with (first
      | (go_at_call 53; refine hh.mono ?_; rintro e w1 ⟨⟨v1, rfl⟩, i1, k1⟩)
      | (show wpList _ _ _ (⟨_, Op.load lcWT _, _, _, _, _⟩ :: _) _ _; refine load_row_g rfl lcWT _ rfl w.heap.size rfl lcWT (lcWA x) (0, 0) _ HV.out.box Try.underlying70 rfl sizeLw ?_))
    have HV1 : Hid (GrI w w1 X D S (putL h x.s) (!x.rd) q M (c) x) := HV.out.hold i1 k1
    clear i1 k1 hh HV
    go_upto_region 7 with (first
      | (show wpList _ _ _ (⟨_, Op.store rpT _ _, _, _, _, _⟩ :: _) _ _; refine store_row_g rfl rpT _ _ rfl w2.heap.size (rpA (repX x)) rfl rfl rpT _ (heap_alloc_new w2 _) sizeRp rfl (by simp [Value.oneCell']) ?_; intro w3 h3 g3)
      | (go_at_call 37; refine (reply_any _ x).mono ?_; rintro e w2 ⟨rfl, b2⟩)
      | (show wpList _ _ _ (⟨_, Op.load lcWT _, _, _, _, _⟩ :: _) _ _; refine load_row_g rfl lcWT _ rfl w.heap.size rfl lcWT (lcWA x) (0, 0) _ HV1.out.box Try.underlying70 rfl sizeLw ?_))
    obtain ⟨g, hg⟩ : ∃ g, g = w2.heap.size := ⟨_, rfl⟩
    have b3 : Below w1.heap.size w1 w3 := bel_grown (g := w2.heap.size) (b2.trans (((Below.refl _ w2).alloc (Nat.le_refl _) _).mono b2.size)) b2.size g3
    have hgl : w1.heap.size ≤ g := by rw [hg]; exact b2.size
    rw [← hg] at h3 ⊢
    have HV3 : Hid (GrI w w3 X D S (putL h x.s) (!x.rd) q M (c) x) := HV1.out.fresh b3
    have HG : Hid (w3.heap[g]? = some (.cells (rpA (repX x)) rpT (0, 0)) ∧ w.heap.size + 2 ≤ g) := (show Hid _ from (⟨h3, Nat.le_trans HV1.out.size hgl⟩ : _ ∧ _))
    have n1 : w3.cell? ⟨D, 1, none⟩ = some (.int .u64 (c)) := HV3.out.tok
    have n3 : w3.cell? ⟨g, 3, none⟩ = some (.int .u64 0) := by simp [World.cell?, h3]
    have f3 : w3.frozen? ⟨g, 3, none⟩ = false := by simp [World.frozen?, h3]
    obtain ⟨w4, hw4⟩ : ∃ w4, w4 = w3.setCell ⟨g, 3, none⟩ (.int .u64 (c)) := ⟨_, rfl⟩
    have h4 : w4.heap[g]? = some (.cells (rpA ⟨x.s, x.n, 0, c, 0⟩) rpT (0, 0)) := by
      rw [hw4, heap_setCell_same _ g 3 _ _ _ h3]
      rfl
    have HV4 : Hid (GrI w w4 X D S (putL h x.s) (!x.rd) q M (c) x) := HV3.out.grown (g := g) (by rw [hw4]; exact ⟨rfl, rfl, rfl, by simp, fun k _ hk => heap_setCell_other _ _ _ _ (fun e => hk (by rw [e]))⟩) HG.out.2
    have H4 : Hid _ := h4
    have HW4 : Hid (w3.setCell ⟨g, 3, none⟩ (.int .u64 (c)) = w4) := hw4.symm
    clear hw4 h4 h3 b3 b2 g3 hg hgl HV1
    go_upto_region 8 with fail
    rw [HW4.out]
    clear n1 n3 f3
    go_wp2_with (first
      | (show wpList _ _ _ (⟨_, Op.store rpT _ _, _, _, _, _⟩ :: _) _ _; refine store_row_g rfl rpT _ _ rfl (w.heap.size + 1) (rpA ⟨x.s, x.n, 0, c, 0⟩) rfl rfl rpT _ HV4.out.res sizeRp rfl (by simp [Value.oneCell']) ?_; intro w5 h5 g5)
      | (show wpList _ _ _ (⟨_, Op.load rpT _, _, _, _, _⟩ :: _) _ _; refine load_row_g rfl rpT _ rfl g rfl rpT (rpA ⟨x.s, x.n, 0, c, 0⟩) (0, 0) _ H4.out Try.underlying52 rfl sizeRp ?_))
    refine bodyPost_ret (results_cell_row Try.results30 _ _ (w.heap.size + 1) rpT _ (0, 0) _ rfl h5 Try.underlying52 rfl sizeRp) rfl ?_
    rw [HQ.out]
    exact ⟨rfl, HV4.out.fin g5⟩
  | false =>
    rw [hrd] at y2
    by_cases hcl : c = 18446744073709551615
    · have HQ : Hid (giveH c h wr x = (c, h, wr, ⟨x.s, x.n, 16, 0, 0⟩)) := (show giveH c h wr x = _ from by unfold giveH; rw [hrd, if_neg (by decide), if_pos hcl])
      have t0 : (c == 18446744073709551615) = true := by simpa using hcl
      clear hcl hrd
      go_enter Try.func30, Try.ntmps30
      go_upto_region 1 with fail
      rw [HW.out]
      go_wp2_with (first
        | (show wpList _ _ _ (⟨_, Op.store rpT _ _, _, _, _, _⟩ :: _) _ _; refine store_row_g rfl rpT _ _ rfl (w.heap.size + 1) (rpA ⟨x.s, x.n, 16, 0, 0⟩) rfl rfl rpT _ HV1.out.res sizeRp rfl (by simp [Value.oneCell']) ?_; intro w5 h5 g5)
        | (go_at_call 26; refine (refused_any _ x 16).mono ?_; rintro e w2 ⟨rfl, b2⟩; have HV1 : Hid (GrI w w2 X D S h wr q M c x) := HV.out.fresh b2)
        | (show wpList _ _ _ (⟨_, Op.load lcWT _, _, _, _, _⟩ :: _) _ _; refine load_row_g rfl lcWT _ rfl w.heap.size rfl lcWT (lcWA x) (0, 0) _ HV.out.box Try.underlying70 rfl sizeLw ?_))
      refine bodyPost_ret (results_cell_row Try.results30 _ _ (w.heap.size + 1) rpT _ (0, 0) _ rfl h5 Try.underlying52 rfl sizeRp) rfl ?_
      rw [HQ.out]
      exact ⟨rfl, HV1.out.fin g5⟩
    have HQ : Hid (giveH c h wr x = (c + 1, putL h x.s, !x.rd, ⟨x.s, x.n, 0, c + 1, 0⟩)) := (show giveH c h wr x = _ from by unfold giveH; rw [hrd, if_neg (by decide), if_neg hcl]; rfl)
    have t0 : (c == 18446744073709551615) = false := by simpa using hcl
    have q1 : IntKind.u64.wrap (c + 1) = c + 1 := by rw [IntKind.wrap_u64]; omega
    obtain ⟨V, hV⟩ : ∃ V, V = W.setCell ⟨D, 1, none⟩ (.int .u64 (c + 1)) := ⟨_, rfl⟩
    have HV0 : Hid _ := HV
    have HVn : Hid (GrI w V X D S h wr q M (c + 1) x) := by rw [hV]; exact HV.out.setD (c + 1)
    have HWV : Hid (W.setCell ⟨D, 1, none⟩ (.int .u64 (c + 1)) = V) := hV.symm
    clear HV hV hcl hrd
    have HV := HVn
    clear HVn
    go_enter Try.func30, Try.ntmps30
    go_upto_region 1 with fail
    rw [HW.out]
    go_upto_region 5 with fail
    rw [HWV.out]
    clear y2 yD fD
    -- V: the counter is c + 1
    have hh := hold_any HV.out.at' x HO.out.1 HO.out.2.1 HO.out.2.2
    go_upto_region 6 with (first
      | (go_at_call 53; refine hh.mono ?_; rintro e w1 ⟨⟨v1, rfl⟩, i1, k1⟩)
      | (show wpList _ _ _ (⟨_, Op.load lcWT _, _, _, _, _⟩ :: _) _ _; refine load_row_g rfl lcWT _ rfl w.heap.size rfl lcWT (lcWA x) (0, 0) _ HV.out.box Try.underlying70 rfl sizeLw ?_))
    have HV1 : Hid (GrI w w1 X D S (putL h x.s) (!x.rd) q M (c + 1) x) := HV.out.hold i1 k1
    clear i1 k1 hh HV
    go_upto_region 7 with (first
      | (show wpList _ _ _ (⟨_, Op.store rpT _ _, _, _, _, _⟩ :: _) _ _; refine store_row_g rfl rpT _ _ rfl w2.heap.size (rpA (repX x)) rfl rfl rpT _ (heap_alloc_new w2 _) sizeRp rfl (by simp [Value.oneCell']) ?_; intro w3 h3 g3)
      | (go_at_call 37; refine (reply_any _ x).mono ?_; rintro e w2 ⟨rfl, b2⟩)
      | (show wpList _ _ _ (⟨_, Op.load lcWT _, _, _, _, _⟩ :: _) _ _; refine load_row_g rfl lcWT _ rfl w.heap.size rfl lcWT (lcWA x) (0, 0) _ HV1.out.box Try.underlying70 rfl sizeLw ?_))
    obtain ⟨g, hg⟩ : ∃ g, g = w2.heap.size := ⟨_, rfl⟩
    have b3 : Below w1.heap.size w1 w3 := bel_grown (g := w2.heap.size) (b2.trans (((Below.refl _ w2).alloc (Nat.le_refl _) _).mono b2.size)) b2.size g3
    have hgl : w1.heap.size ≤ g := by rw [hg]; exact b2.size
    rw [← hg] at h3 ⊢
    have HV3 : Hid (GrI w w3 X D S (putL h x.s) (!x.rd) q M (c + 1) x) := HV1.out.fresh b3
    have HG : Hid (w3.heap[g]? = some (.cells (rpA (repX x)) rpT (0, 0)) ∧ w.heap.size + 2 ≤ g) := (show Hid _ from (⟨h3, Nat.le_trans HV1.out.size hgl⟩ : _ ∧ _))
    have n1 : w3.cell? ⟨D, 1, none⟩ = some (.int .u64 (c + 1)) := HV3.out.tok
    have n3 : w3.cell? ⟨g, 3, none⟩ = some (.int .u64 0) := by simp [World.cell?, h3]
    have f3 : w3.frozen? ⟨g, 3, none⟩ = false := by simp [World.frozen?, h3]
    obtain ⟨w4, hw4⟩ : ∃ w4, w4 = w3.setCell ⟨g, 3, none⟩ (.int .u64 (c + 1)) := ⟨_, rfl⟩
    have h4 : w4.heap[g]? = some (.cells (rpA ⟨x.s, x.n, 0, c + 1, 0⟩) rpT (0, 0)) := by
      rw [hw4, heap_setCell_same _ g 3 _ _ _ h3]
      rfl
    have HV4 : Hid (GrI w w4 X D S (putL h x.s) (!x.rd) q M (c + 1) x) := HV3.out.grown (g := g) (by rw [hw4]; exact ⟨rfl, rfl, rfl, by simp, fun k _ hk => heap_setCell_other _ _ _ _ (fun e => hk (by rw [e]))⟩) HG.out.2
    have H4 : Hid _ := h4
    have HW4 : Hid (w3.setCell ⟨g, 3, none⟩ (.int .u64 (c + 1)) = w4) := hw4.symm
    clear hw4 h4 h3 b3 b2 g3 hg hgl HV1
    go_upto_region 8 with fail
    rw [HW4.out]
    clear n1 n3 f3
    go_wp2_with (first
      | (show wpList _ _ _ (⟨_, Op.store rpT _ _, _, _, _, _⟩ :: _) _ _; refine store_row_g rfl rpT _ _ rfl (w.heap.size + 1) (rpA ⟨x.s, x.n, 0, c + 1, 0⟩) rfl rfl rpT _ HV4.out.res sizeRp rfl (by simp [Value.oneCell']) ?_; intro w5 h5 g5)
      | (show wpList _ _ _ (⟨_, Op.load rpT _, _, _, _, _⟩ :: _) _ _; refine load_row_g rfl rpT _ rfl g rfl rpT (rpA ⟨x.s, x.n, 0, c + 1, 0⟩) (0, 0) _ H4.out Try.underlying52 rfl sizeRp ?_))
    refine bodyPost_ret (results_cell_row Try.results30 _ _ (w.heap.size + 1) rpT _ (0, 0) _ rfl h5 Try.underlying52 rfl sizeRp) rfl ?_
    rw [HQ.out]
    exact ⟨rfl, HV4.out.fin g5⟩
end Go.Proofs.Ytmfadmhbkgemmaa
