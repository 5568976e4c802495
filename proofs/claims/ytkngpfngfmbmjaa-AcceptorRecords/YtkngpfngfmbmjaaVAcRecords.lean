/-
  AcceptorRecords walked: the records that it gave, put to what it knew at first, are what it knows. The condition: a text has at most 2^48 bytes.
-/
import Derived.Test.YtkngpfngfmbmjaaVAcSane
namespace Go.Proofs.Ytkngpfngfmbmjaa
open Go.Shelf Go.RowKit Go.Lib Go.Sort


/-- A state whose texts can be cloned, its entries rising, few. -/
structure Sane2 (d : Du) (k : Nat) : Prop where
  ri : Rises d.b d.es
  len : d.es.length ≤ k
  sz : SzD d
theorem Sane2.prep {d : Du} {k : Nat} (h : Sane2 d k) (b : Int) : Sane2 (prepD d b).st (k + 1) := by
  have h1 := (prepD_len d b).1
  have h2 := h.len
  refine ⟨prepD_rises b h.ri, by omega, ?_⟩
  unfold prepD
  split
  · exact h.sz
  · exact ⟨h.sz.s, h.sz.es⟩
theorem Sane2.acc {d : Du} {k : Nat} (h : Sane2 d k) (b : Int) (e : En) (hn : nameOk e.cmd.name) : Sane2 (accD d b e).st (k + 1) := by
  have h1 := (accD_len d b e).1
  have h2 := h.len
  refine ⟨accD_rises b e h.ri, by omega, ?_⟩
  unfold accD
  split
  · exact h.sz
  · split
    · refine ⟨h.sz.s, fun x hx => ?_⟩
      rcases putE_mem _ _ _ hx with rfl | hx
      · exact hn
      · exact h.sz.es x hx
    · exact ⟨h.sz.s, h.sz.es⟩
theorem apart_PO {T : TypeId} {w : World} {base base' X n : Nat} {S : Nat → Prop} {d : Du} {v u : Value} {xs : List Value} (h : AcAt T w base S X d v) (o : w.ownsRow base' 65 9 u n xs) (hT : 65 ≠ T) : ∀ b, S b → u.ownBlock ≠ some b := fun b hb e => by
  rcases (h.set b).1 hb with rfl | e1
  · exact own_ne o h.blk hT e
  · rcases h.own.2 with ⟨e2, _⟩ | ⟨g, cap, cur, e2, _, hc, _⟩
    · rw [e2] at e1; simp [Value.ownBlock] at e1
    · rw [e2] at e1
      simp only [Value.ownBlock, Option.some.injEq] at e1
      rw [e1] at hc
      exact own_ne o hc (by decide) e
theorem AcAt.mono {T : TypeId} {w : World} {base base' X : Nat} {S : Nat → Prop} {d : Du} {v : Value} (h : AcAt T w base S X d v) (hb : base' ≤ base) : AcAt T w base' S X d v := ⟨h.blk, own_mono h.own hb, Nat.le_trans hb h.lo, h.ne, h.set⟩
/-- Behind some deeds: the acceptor, all its records. -/
structure RcsI (w W wr : World) (X : Nat) (d : Du) (k : Nat) (u : Value) : Prop where
  ex : ∃ S d1 v L, PA wr W.heap.size S X d1 v ∧ Sane2 d1 (1000 + k) ∧ foldD d L = d1 ∧ L.length ≤ 2 * k ∧ OwnRc wr W.heap.size u L
  bel : Below W.heap.size W wr
theorem rec_next {W w2 w3 : World} {base X OB : Nat} {S2 : Nat → Prop} {d2 : Du} {v2 u2 ua : Value} {R L : List Rc} {rb : Nat} {c2 c3 : Array Value} (h : PA w2 base S2 X d2 v2) (r : OwnRc w2 rb u2 R) (a : OwnRc w2 W.heap.size ua L) (o2 : w2.heap[OB]? = some (.cells c2 42 (0, 0))) (_o3 : w3.heap[OB]? = some (.cells c3 42 (0, 0))) (g : w2.grownBy w3 (some OB)) (b : Below W.heap.size W w2) (hO : W.heap.size ≤ OB) :
    PA w3 base S2 X d2 v2 ∧ RowAt rcC w3 u2 R ∧ OwnRc w3 W.heap.size ua L ∧ Below W.heap.size W w3 := by
  refine ⟨h.keep fun x hx => g.block x (h.bd x hx).2 (fun e => h.neT o2 (by decide) (by decide) x hx (Option.some.inj e)), OwnRc.row (base := rb) (own_keep r fun x e => g.block x (r.lt x e).2 (fun e2 => own_ne r o2 (by decide) (by rw [e, e2]))), own_keep a fun x e => g.block x (a.lt x e).2 (fun e2 => own_ne a o2 (by decide) (by rw [e, e2])), b.grown g b.size (fun k hk => by have := Option.some.inj hk; omega)⟩
theorem rec_done {w W w3 w6 : World} {X k : Nat} {S2 : Nat → Prop} {d d2 : Du} {v2 ua u6 : Value} {R L : List Rc} (h : PA w3 W.heap.size S2 X d2 v2) (hs : Sane2 d2 (1000 + k + 1)) (hf : foldD d (L ++ R) = d2) (b : Below W.heap.size W w3) (_hw : Below w.heap.size w W) (o : w6.ownsRow W.heap.size 65 9 u6 (L.length + R.length) (rowL rcC L ++ rowL rcC R)) (a : Appended W.heap.size w3 w6 ua u6) (hl : R.length ≤ 2) (hL : L.length ≤ 2 * k) (hap : ∀ x, S2 x → ua.ownBlock ≠ some x) : RcsI w W w6 X d (k + 1) u6 :=
  ⟨⟨S2, d2, v2, L ++ R, h.keep fun x hx => a.rest x (h.bd x hx).2 (fun e => hap x hx e.symm), hs, hf, by rw [List.length_append]; omega, by
    show w6.ownsRow _ _ _ _ _ _
    rw [rowL_append, List.length_append]
    exact o⟩, b.trans a.below⟩
set_option maxHeartbeats 25600000 in
set_option maxRecDepth 100000 in
theorem records_walk (w : World) (d : Du) (ud v : Value) (l : List Ad) (hd : RowAt enC w ud d.es) (hr : RowAt adC w v l) (hld : d.es.length ≤ 9223372036854775807) (hm : l.length ≤ 9223372036854775807) (hsz : SzD d) (hok : ∀ x ∈ l, OkAd x) : Calls Try.prog 5 #[.agg (duA d ud), v] w fun x w' => x = .returned (.bool true) ∧ Below w.heap.size w w' := by
  obtain ⟨i0, hi, hz0, hz1, hz2⟩ := info_parts infoRec
  obtain ⟨va, vc, rfl⟩ := hr.form
  obtain ⟨da, dc, rfl⟩ := hd.form
  obtain ⟨W, hW⟩ : ∃ W, W = w.alloc (.cells (duA d (.slice da d.es.length dc)) 24) := ⟨_, rfl⟩
  have bW : Below w.heap.size w W := by rw [hW]; exact (Below.refl _ w).alloc (Nat.le_refl _) _
  have dW : DuAt W w.heap.size d (.slice da d.es.length dc) := by rw [hW]; exact heap_alloc_new w _
  have HD : Hid (∀ y, Below W.heap.size W y → DuAt y w.heap.size d (.slice da d.es.length dc)) := fun y b => (b.block _ (lt_of_block dW)).trans dW
  have HE : Hid (∀ y, Below W.heap.size W y → RowAt enC y (.slice da d.es.length dc) d.es) := fun y b => (hd.fresh bW).fresh b
  have HR : Hid (∀ y, Below W.heap.size W y → RowAt adC y (.slice va l.length vc) l) := fun y b => (hr.fresh bW).fresh b
  have HW : Hid (w.alloc (.cells (duA d (.slice da d.es.length dc)) 24) = W) := hW.symm
  have HBW : Hid (Below w.heap.size w W) := bW
  have qs := sane_any W d _ (HE.out W (Below.refl _ _)) hld
  have c0 := dW.c0
  have c1 := dW.c1
  have c2 := dW.c2
  have c3 := dW.c3
  clear hW bW dW hd hr
  go_enter Try.func5, Try.ntmps5
  go_upto_region 1 with fail
  rw [HW.out]
  have dd : ∀ y, Below W.heap.size W y → y.cell? ⟨w.heap.size, 0, none⟩ = some (.int .i64 d.p) ∧ y.cell? ⟨w.heap.size, 1, none⟩ = some (.int .i64 d.b) ∧ y.cell? ⟨w.heap.size, 2, none⟩ = some (.string d.s) ∧ y.cell? ⟨w.heap.size, 3, none⟩ = some (.slice da d.es.length dc) := fun y b => ⟨(HD.out y b).c0, (HD.out y b).c1, (HD.out y b).c2, (HD.out y b).c3⟩
  have DC : Hid _ := dd
  clear dd
  go_cut [11] (fun r wc => ∃ b : Bool, r = .bool (!b) ∧ (b = true → SaneF d) ∧ Below W.heap.size W wc)
  case first =>
    go_wp2_with (go_at_call 8; refine qs.mono ?_; rintro xx w1 ⟨r, rfl, hs1, b1⟩)
    go_meet
    exact ⟨r, rfl, hs1, b1⟩
  case rest =>
    clear qs c0 c1 c2 c3
    obtain ⟨r, rfl, hs1, b1⟩ := hcut
    cases r with
    | false =>
      have B1 : Hid _ := b1
      clear b1 hs1
      go_wp2_with (go_at_call 9; refine (awake_any _).mono ?_; rintro xx w3 ⟨rfl, b3⟩; have B3 : Hid (Below W.heap.size W w3) := bmm B1.out B1.out.size b3; clear b3)
      go_ret
      exact ⟨rfl, HBW.out.trans (B3.out.mono HBW.out.size)⟩
    | true =>
      have hF := hs1 rfl
      obtain ⟨c0, c1, c2, c3⟩ := DC.out _ b1
      have qn := pnew_any wc d _ (HE.out _ b1) hF.p0 hF.ri (by have := hF.len; omega) hsz
      have HF : Hid _ := hF
      have B1 : Hid _ := b1
      clear hs1 hF b1
      go_upto_region 4 with (go_at_call 10; refine qn.mono ?_; rintro xx w0 ⟨S0, X, v0, rfl, h0, b0⟩; have I0 : Hid (RcsI w W w0 X d 0 (.slice none 0 0)) := ⟨⟨S0, d, v0, [], h0.mono B1.out.size, ⟨HF.out.ri, by have := HF.out.len; omega, hsz⟩, rfl, by simp, World.ownsRow_nil _ _ _ _⟩, bmm B1.out B1.out.size b0⟩; clear h0 b0)
      clear qn c0 c1 c2 c3
      go_wp2
      go_loopw [6, 7] (fun u i wr => ∃ k : Nat, k ≤ l.length ∧ k ≤ 200 ∧ i = .int .i64 (k : Int) ∧ Hid (RcsI w W wr X d k u)) (fun _ i _ => l.length - (intOf i).toNat)
      case atStart => exact ⟨0, Nat.zero_le _, Nat.zero_le _, rfl, I0⟩
      case round =>
        clear I0
        obtain ⟨k, hk, hk200, rfl, I1⟩ := hrel
        obtain ⟨⟨S, d1, v1, L, hP, hS, hfd, hLk, hA⟩, hB⟩ := I1.out
        obtain ⟨pa, na, ca, rfl⟩ := own_form hA
        clear I1
        by_cases hgo : k < l.length ∧ k < 200
        · have t0 : decide ((k : Int) < (l.length : Int)) = true := decide_eq_true (by omega)
          have t1 : decide ((k : Int) < 200) = true := decide_eq_true (by omega)
          have i1 : (k : Int) < (l.length : Int) := by omega
          have i2 : (0 : Int) ≤ (k : Int) := by omega
          have i3 : ((k : Int)).toNat = k := by omega
          have hkl := hgo.1
          obtain ⟨bk, off, cap', hvv, hcap, hbk, hc⟩ := (HR.out wr hB).cells adC_len (by omega)
          injection hvv with e1 e2 e3
          subst e1 e3
          obtain ⟨x, hx⟩ : ∃ x, x = l[k] := ⟨_, rfl⟩
          have hxo : OkAd x := by rw [hx]; exact hok _ (List.getElem_mem hkl)
          have HC : Hid (∀ y, Below W.heap.size W y → y.cell? ⟨bk, off + k * 10 + 1, none⟩ = some (.int .i64 x.b) ∧ y.cell? ⟨bk, off + k * 10 + 2, none⟩ = some (.int .i64 x.e.slot) ∧ y.cell? ⟨bk, off + k * 10 + 3, none⟩ = some (.int .i64 x.e.ballot) ∧ y.cell? ⟨bk, off + k * 10 + 4, none⟩ = some (.int .i64 x.e.cmd.kind) ∧ y.cell? ⟨bk, off + k * 10 + 5, none⟩ = some (.int .i64 x.e.cmd.session) ∧ y.cell? ⟨bk, off + k * 10 + 6, none⟩ = some (.int .i64 x.e.cmd.seq) ∧ y.cell? ⟨bk, off + k * 10 + 7, none⟩ = some (.string x.e.cmd.name) ∧ y.cell? ⟨bk, off + k * 10 + 8, none⟩ = some (.int .i64 x.e.cmd.n)) := fun y b => by
            obtain ⟨bk', off', cap2, hv2, _, _, hc2⟩ := (HR.out y b).cells adC_len (by omega)
            injection hv2 with e1 e2 e3
            injection e1 with e1
            injection e1 with e1 e4
            subst e1 e4
            exact ⟨by have := hc2 k hkl 1 (.int .i64 x.b) (by decide) (by rw [hx]; rfl); simpa using this, by have := hc2 k hkl 2 (.int .i64 x.e.slot) (by decide) (by rw [hx]; rfl); simpa using this, by have := hc2 k hkl 3 (.int .i64 x.e.ballot) (by decide) (by rw [hx]; rfl); simpa using this, by have := hc2 k hkl 4 (.int .i64 x.e.cmd.kind) (by decide) (by rw [hx]; rfl); simpa using this, by have := hc2 k hkl 5 (.int .i64 x.e.cmd.session) (by decide) (by rw [hx]; rfl); simpa using this, by have := hc2 k hkl 6 (.int .i64 x.e.cmd.seq) (by decide) (by rw [hx]; rfl); simpa using this, by have := hc2 k hkl 7 (.string x.e.cmd.name) (by decide) (by rw [hx]; rfl); simpa using this, by have := hc2 k hkl 8 (.int .i64 x.e.cmd.n) (by decide) (by rw [hx]; rfl); simpa using this⟩
          obtain ⟨y0, hy0⟩ : ∃ y, y = wr.alloc (.cells (outA (.slice none 0 0)) 42) := ⟨_, rfl⟩
          obtain ⟨OB, hOB⟩ : ∃ OB, OB = wr.heap.size := ⟨_, rfl⟩
          have a0 : Below wr.heap.size wr y0 := by rw [hy0]; exact (Below.refl _ _).alloc (Nat.le_refl _) _
          have O0 : Hid (y0.heap[OB]? = some (.cells (outA (.slice none 0 0)) 42 (0, 0))) := by show _ = _; rw [hy0, hOB]; exact heap_alloc_new wr _
          have H0 : Hid (PA y0 W.heap.size S X d1 v1) := hP.fresh a0
          have A0 : Hid (OwnRc y0 W.heap.size (.slice pa na ca) L) := own_keep hA fun g e => a0.block g (hA.lt g e).2
          have b0 : Below W.heap.size W y0 := bmm hB hB.size a0
          have B0 : Hid _ := b0
          have HOB : Hid (W.heap.size ≤ OB) := by show _ ≤ _; rw [hOB]; exact hB.size
          have HY0 : Hid (wr.alloc (.cells (outA (.slice none 0 0)) 42) = y0) := hy0.symm
          have HDB : Hid (wr.heap.size = OB) := hOB.symm
          have HS : Hid _ := hS
          have HX : Hid (OkAd x) := hxo
          have HFD : Hid (foldD d L = d1) := hfd
          have hL := hS.len
          obtain ⟨zk, z1, z2, z3, z4, z5, z6, z7, z8⟩ := (⟨by have := hc k hkl 0 (.int .i64 x.kind) (by decide) (by rw [hx]; rfl); rw [Nat.add_zero] at this; exact (a0.cell (by exact hbk)).trans this, HC.out y0 b0⟩ : _ ∧ _)
          clear hc hx hy0 hOB a0 hP hA hB hS hxo hcap hbk b0 hfd
          go_upto_region 11 with fail
          rw [HY0.out, HDB.out]
          by_cases k0 : x.kind = 0
          · have q0 : (x.kind == 0) = true := by simpa using k0
            have HS2 : Hid _ := HS.out.prep x.b
            have HF2 : Hid (foldD d (L ++ (prepD d1 x.b).recs) = (prepD d1 x.b).st) := by show _ = _; rw [foldD_append, HFD.out, prepD_fold]
            have HLR : Hid ((prepD d1 x.b).recs.length ≤ 2) := (prepD_len d1 x.b).2
            have qa := pprep_any H0.out x.b
            clear k0
            go_upto_region 16 with (first
              | (show wpList _ _ _ (⟨_, Op.store 42 _ _, _, _, _, _⟩ :: _) _ _; refine store_row_g rfl 42 _ _ rfl OB (outA (.slice p2 n2 c2)) rfl rfl 42 _ O2.out sizeOut rfl (by simp [Value.oneCell']) ?_; intro w3 o3 g3; have O3 : Hid _ := o3; have G3 : Hid _ := g3; clear o3 g3)
              | (go_at_call 13; refine qa.mono ?_; rintro xx w2 ⟨S2, v2, u2, rfl, h2, r2, k2⟩; obtain ⟨p2, n2, c2, rfl⟩ := own_form r2; have H2 : Hid _ := h2; have R2 : Hid _ := r2; have K2 : Hid _ := k2; have b2 : Below W.heap.size W w2 := B0.out.trans (k2.low B0.out.size (fun b hb => (H0.out.bd b hb).1)); have B2 : Hid _ := b2; have O2 : Hid (w2.heap[OB]? = some (.cells (outA (.slice none 0 0)) 42 (0, 0))) := kept_out H0.out k2 O0.out (by decide) (by decide); have A2 : Hid (OwnRc w2 W.heap.size (.slice pa na ca) L) := own_keep A0.out fun g e => k2.kept g (World.ownsRow.lt A0.out g e).2 (fun hs => apart_PO H0.out A0.out (by decide) g hs e); clear h2 r2 k2 b2))
            have st3 := rec_next H2.out R2.out A2.out O2.out O3.out G3.out B2.out HOB.out
            obtain ⟨h3, r3, a3, b3⟩ := st3
            obtain ⟨pr, cr, hpr⟩ := r3.form
            have z9 : w3.cell? ⟨OB, 0, none⟩ = some (.slice p2 n2 c2) := by have := O3.out; simp [World.cell?, this]
            have H3 : Hid _ := h3
            have R3 : Hid (RowAt rcC w3 (.slice p2 n2 c2) (prepD d1 x.b).recs) := r3
            have A3 : Hid (OwnRc w3 W.heap.size (.slice pa na ca) L) := a3
            have B3 : Hid (Below W.heap.size W w3) := b3
            have hln : L.length ≤ 1000 := by omega
            clear h3 r3 a3 b3 hpr
            go_wp2_with (at_builtin; refine wpList_app_row (k := 9) (enc := rcC) (l := (prepD d1 x.b).recs) rfl (.tmp 61) (.tmp 63) 39 65 rfl i0 _ 80 Try.underlying39 hi hz0 hz1 hz2 rfl (by decide) rcC_len rcC_ones (base := W.heap.size) rfl rfl A3.out R3.out B3.out.size (by have := HLR.out; omega) (by have := HLR.out; omega) ?_; intro u6 w6 o6 a6; obtain ⟨p6, n6, q6, rfl⟩ := own_form o6; have N6 : Hid (RcsI w W w6 X d (k + 1) (.slice p6 n6 q6)) := rec_done H3.out HS2.out HF2.out B3.out HBW.out o6 a6 HLR.out hLk (apart_PO H3.out A3.out (by decide)); clear o6 a6)
            go_roundw
            case rel => exact ⟨k + 1, by omega, by omega, by go_num, N6⟩
            case measure => simp [intOf]; omega
          · have q0 : (x.kind == 0) = false := by simpa using k0
            by_cases k1 : x.kind = 1
            · have q1 : (x.kind == 1) = true := by simpa using k1
              have HS2 : Hid _ := HS.out.acc x.b x.e HX.out.name
              have HF2 : Hid (foldD d (L ++ (accD d1 x.b x.e).recs) = (accD d1 x.b x.e).st) := by show _ = _; rw [foldD_append, HFD.out, accD_fold]
              have HLR : Hid ((accD d1 x.b x.e).recs.length ≤ 2) := (accD_len d1 x.b x.e).2
              have BD : Hid (Below W.heap.size W y0.drew) := ⟨B0.out.os, B0.out.tape, B0.out.output, B0.out.size, B0.out.block⟩
              have AD0 : Hid (OwnRc y0.drew W.heap.size (.slice pa na ca) L) := A0.out
              have OD0 : Hid (y0.drew.heap[OB]? = some (.cells (outA (.slice none 0 0)) 42 (0, 0))) := O0.out
              clear k0 k1
              go_upto_region 15 with fail
              refine wp_region_held_drew (S := (fun y : World => y.cell? ⟨bk, off + k * 10 + 1, none⟩ = some (.int .i64 x.b) ∧ y.cell? ⟨bk, off + k * 10 + 2, none⟩ = some (.int .i64 x.e.slot) ∧ y.cell? ⟨bk, off + k * 10 + 3, none⟩ = some (.int .i64 x.e.ballot) ∧ y.cell? ⟨bk, off + k * 10 + 4, none⟩ = some (.int .i64 x.e.cmd.kind) ∧ y.cell? ⟨bk, off + k * 10 + 5, none⟩ = some (.int .i64 x.e.cmd.session) ∧ y.cell? ⟨bk, off + k * 10 + 6, none⟩ = some (.int .i64 x.e.cmd.seq) ∧ y.cell? ⟨bk, off + k * 10 + 7, none⟩ = some (.string x.e.cmd.name) ∧ y.cell? ⟨bk, off + k * 10 + 8, none⟩ = some (.int .i64 x.e.cmd.n))) (by kernel_rfl) ?_ (fun hHeld0 => ?_)
              · try dsimp only
                go_keep
              refine tk0 (.pointer (some ⟨X, 0, none⟩)) (by kernel_rfl) (by kernel_rfl) (by kernel_rfl) (fun _ _ _ h => h) rfl (fun w hSw => by (try dsimp only at hSw); obtain ⟨r1, r2, r3, r4, r5, r6, r7, r8⟩ := hSw; go_simp) (by assumption) ?_
              try simp only [Act.put, List.setIfInBounds_toArray, List.set_cons_zero, List.set_cons_succ]
              refine tk1 (.slice (some ⟨bk, off, none⟩) l.length vc) (by kernel_rfl) (by kernel_rfl) (by kernel_rfl) (fun _ _ _ h => h) rfl (fun w hSw => by (try dsimp only at hSw); obtain ⟨r1, r2, r3, r4, r5, r6, r7, r8⟩ := hSw; go_simp) (by assumption) ?_
              try simp only [Act.put, List.setIfInBounds_toArray, List.set_cons_zero, List.set_cons_succ]
              refine tk2 (.int .i64 (k : Int)) (by kernel_rfl) (by kernel_rfl) (by kernel_rfl) (fun _ _ _ h => h) rfl (fun w hSw => by (try dsimp only at hSw); obtain ⟨r1, r2, r3, r4, r5, r6, r7, r8⟩ := hSw; go_simp) (by assumption) ?_
              try simp only [Act.put, List.setIfInBounds_toArray, List.set_cons_zero, List.set_cons_succ]
              refine tk3 (.pointer (some ⟨bk, off + k * 10, none⟩)) (by kernel_rfl) (by kernel_rfl) (by kernel_rfl) (fun _ _ _ h => h) rfl (fun w hSw => by (try dsimp only at hSw); obtain ⟨r1, r2, r3, r4, r5, r6, r7, r8⟩ := hSw; go_simp) (by assumption) ?_
              try simp only [Act.put, List.setIfInBounds_toArray, List.set_cons_zero, List.set_cons_succ]
              refine tk4 (.pointer (some ⟨bk, off + k * 10 + 1, none⟩)) (by kernel_rfl) (by kernel_rfl) (by kernel_rfl) (fun _ _ _ h => h) rfl (fun w hSw => by (try dsimp only at hSw); obtain ⟨r1, r2, r3, r4, r5, r6, r7, r8⟩ := hSw; go_simp) (by assumption) ?_
              try simp only [Act.put, List.setIfInBounds_toArray, List.set_cons_zero, List.set_cons_succ]
              refine tk5 (.int .i64 x.b) (by kernel_rfl) (by kernel_rfl) (by kernel_rfl) (fun _ _ _ h => h) rfl (fun w hSw => by (try dsimp only at hSw); obtain ⟨r1, r2, r3, r4, r5, r6, r7, r8⟩ := hSw; go_simp) (by assumption) ?_
              try simp only [Act.put, List.setIfInBounds_toArray, List.set_cons_zero, List.set_cons_succ]
              refine tk6 (.slice (some ⟨bk, off, none⟩) l.length vc) (by kernel_rfl) (by kernel_rfl) (by kernel_rfl) (fun _ _ _ h => h) rfl (fun w hSw => by (try dsimp only at hSw); obtain ⟨r1, r2, r3, r4, r5, r6, r7, r8⟩ := hSw; go_simp) (by assumption) ?_
              try simp only [Act.put, List.setIfInBounds_toArray, List.set_cons_zero, List.set_cons_succ]
              refine tk7 (.int .i64 (k : Int)) (by kernel_rfl) (by kernel_rfl) (by kernel_rfl) (fun _ _ _ h => h) rfl (fun w hSw => by (try dsimp only at hSw); obtain ⟨r1, r2, r3, r4, r5, r6, r7, r8⟩ := hSw; go_simp) (by assumption) ?_
              try simp only [Act.put, List.setIfInBounds_toArray, List.set_cons_zero, List.set_cons_succ]
              refine tk8 (.pointer (some ⟨bk, off + k * 10, none⟩)) (by kernel_rfl) (by kernel_rfl) (by kernel_rfl) (fun _ _ _ h => h) rfl (fun w hSw => by (try dsimp only at hSw); obtain ⟨r1, r2, r3, r4, r5, r6, r7, r8⟩ := hSw; go_simp) (by assumption) ?_
              try simp only [Act.put, List.setIfInBounds_toArray, List.set_cons_zero, List.set_cons_succ]
              refine tk9 (.pointer (some ⟨bk, off + k * 10 + 2, none⟩)) (by kernel_rfl) (by kernel_rfl) (by kernel_rfl) (fun _ _ _ h => h) rfl (fun w hSw => by (try dsimp only at hSw); obtain ⟨r1, r2, r3, r4, r5, r6, r7, r8⟩ := hSw; go_simp) (by assumption) ?_
              try simp only [Act.put, List.setIfInBounds_toArray, List.set_cons_zero, List.set_cons_succ]
              refine tk10 (.agg (enA x.e)) (by kernel_rfl) (by kernel_rfl) (by kernel_rfl) (fun _ _ _ h => h) rfl (fun w hSw => by (try dsimp only at hSw); obtain ⟨r1, r2, r3, r4, r5, r6, r7, r8⟩ := hSw; go_simp) (by assumption) ?_
              try simp only [Act.put, List.setIfInBounds_toArray, List.set_cons_zero, List.set_cons_succ]
              refine cl11 (by kernel_rfl) rfl (fun K hK => ?_)
              go_simp
              go_at_call 15
              refine (pacc_any (H0.out.fresh (w' := y0.drew) ⟨rfl, rfl, rfl, Nat.le_refl _, fun _ _ => rfl⟩) HS.out.ri (by omega) x.b x.e HX.out.name).mono ?_
              rintro xx w2 ⟨S2, v2, u2, rfl, h2, r2, k2⟩
              obtain ⟨p2, n2, c2, rfl⟩ := own_form r2
              have H2 : Hid _ := h2
              have R2 : Hid _ := r2
              have K2 : Hid _ := k2
              have b2 : Below W.heap.size W w2 := BD.out.trans (k2.low BD.out.size (fun b hb => ((H0.out.fresh (w' := y0.drew) ⟨rfl, rfl, rfl, Nat.le_refl _, fun _ _ => rfl⟩).bd b hb).1))
              have B2 : Hid _ := b2
              have O2 : Hid (w2.heap[OB]? = some (.cells (outA (.slice none 0 0)) 42 (0, 0))) := kept_out (H0.out.fresh (w' := y0.drew) ⟨rfl, rfl, rfl, Nat.le_refl _, fun _ _ => rfl⟩) k2 OD0.out (by decide) (by decide)
              have A2 : Hid (OwnRc w2 W.heap.size (.slice pa na ca) L) := own_keep AD0.out fun g e => k2.kept g (World.ownsRow.lt AD0.out g e).2 (fun hs => apart_PO (H0.out.fresh (w' := y0.drew) ⟨rfl, rfl, rfl, Nat.le_refl _, fun _ _ => rfl⟩) AD0.out (by decide) g hs e)
              have q1 := (HC.out w2 b2).1
              have q2 := (HC.out w2 b2).2.1
              have q3 := (HC.out w2 b2).2.2.1
              have q4 := (HC.out w2 b2).2.2.2.1
              have q5 := (HC.out w2 b2).2.2.2.2.1
              have q6 := (HC.out w2 b2).2.2.2.2.2.1
              have q7 := (HC.out w2 b2).2.2.2.2.2.2.1
              have q8 := (HC.out w2 b2).2.2.2.2.2.2.2
              clear h2 r2 k2 b2
              refine hK.out _ _ ?_ (fun hHeld => ?_)
              · try dsimp only
                go_keep
              clear hK K
              try simp only [Act.put, List.setIfInBounds_toArray, List.set_cons_zero, List.set_cons_succ]
              refine tk12 (.tuple #[.agg (outA (.slice p2 n2 c2)), .bool (accD d1 x.b x.e).ok]) (by kernel_rfl) (by kernel_rfl) (by kernel_rfl) (fun _ _ _ h => h) rfl (fun w hSw => by (try dsimp only at hSw); obtain ⟨r1, r2, r3, r4, r5, r6, r7, r8⟩ := hSw; go_simp) (by assumption) ?_
              try simp only [Act.put, List.setIfInBounds_toArray, List.set_cons_zero, List.set_cons_succ]
              refine tk13 (.agg (outA (.slice p2 n2 c2))) (by kernel_rfl) (by kernel_rfl) (by kernel_rfl) (fun _ _ _ h => h) rfl (fun w hSw => by (try dsimp only at hSw); obtain ⟨r1, r2, r3, r4, r5, r6, r7, r8⟩ := hSw; go_simp) (by assumption) ?_
              try simp only [Act.put, List.setIfInBounds_toArray, List.set_cons_zero, List.set_cons_succ]
              refine tk14 (.bool (accD d1 x.b x.e).ok) (by kernel_rfl) (by kernel_rfl) (by kernel_rfl) (fun _ _ _ h => h) rfl (fun w hSw => by (try dsimp only at hSw); obtain ⟨r1, r2, r3, r4, r5, r6, r7, r8⟩ := hSw; go_simp) (by assumption) ?_
              try simp only [Act.put, List.setIfInBounds_toArray, List.set_cons_zero, List.set_cons_succ]
              refine cl15 (by kernel_rfl) rfl (fun K hK => ?_)
              refine wp_store_row 42 _ _ rfl OB (outA (.slice p2 n2 c2)) rfl rfl 42 _ O2.out sizeOut rfl (by simp [Value.oneCell']) ?_
              obtain ⟨w3, hw3⟩ : ∃ y, y = w2.setRow OB (outA (.slice p2 n2 c2)) := ⟨_, rfl⟩
              have o3 : w3.heap[OB]? = some (.cells (outA (.slice p2 n2 c2)) 42 (0, 0)) := by rw [hw3]; exact setRow_heap _ OB _ _ _ _ O2.out
              have g3 : w2.grownBy w3 (some OB) := by rw [hw3]; exact grown_setRow_g _ _ _
              rw [← hw3]
              have O3 : Hid _ := o3
              have G3 : Hid _ := g3
              have bX := B2.out.grown g3 B2.out.size (fun k hk => by have h1 := Option.some.inj hk; have h2 := HOB.out; omega)
              have f1 := (HC.out w3 bX).1
              have f2 := (HC.out w3 bX).2.1
              have f3 := (HC.out w3 bX).2.2.1
              have f4 := (HC.out w3 bX).2.2.2.1
              have f5 := (HC.out w3 bX).2.2.2.2.1
              have f6 := (HC.out w3 bX).2.2.2.2.2.1
              have f7 := (HC.out w3 bX).2.2.2.2.2.2.1
              have f8 := (HC.out w3 bX).2.2.2.2.2.2.2
              clear hw3 o3 g3 bX
              refine hK.out _ _ ?_ (fun hHeld => ?_)
              · try dsimp only
                go_keep
              clear hK K
              refine wpAnyH_done (by kernel_rfl) ?_ _
              have st3 := rec_next H2.out R2.out A2.out O2.out O3.out G3.out B2.out HOB.out
              obtain ⟨h3, r3, a3, b3⟩ := st3
              obtain ⟨pr, cr, hpr⟩ := r3.form
              have z9 : w3.cell? ⟨OB, 0, none⟩ = some (.slice p2 n2 c2) := by have := O3.out; simp [World.cell?, this]
              have H3 : Hid _ := h3
              have R3 : Hid (RowAt rcC w3 (.slice p2 n2 c2) (accD d1 x.b x.e).recs) := r3
              have A3 : Hid (OwnRc w3 W.heap.size (.slice pa na ca) L) := a3
              have B3 : Hid (Below W.heap.size W w3) := b3
              have hln : L.length ≤ 1000 := by omega
              clear h3 r3 a3 b3 hpr
              go_wp2_with (at_builtin; refine wpList_app_row (k := 9) (enc := rcC) (l := (accD d1 x.b x.e).recs) rfl (.tmp 61) (.tmp 63) 39 65 rfl i0 _ 80 Try.underlying39 hi hz0 hz1 hz2 rfl (by decide) rcC_len rcC_ones (base := W.heap.size) rfl rfl A3.out R3.out B3.out.size (by have := HLR.out; omega) (by have := HLR.out; omega) ?_; intro u6 w6 o6 a6; obtain ⟨p6, n6, q6, rfl⟩ := own_form o6; have N6 : Hid (RcsI w W w6 X d (k + 1) (.slice p6 n6 q6)) := rec_done H3.out HS2.out HF2.out B3.out HBW.out o6 a6 HLR.out hLk (apart_PO H3.out A3.out (by decide)); clear o6 a6)
              go_roundw
              case rel => exact ⟨k + 1, by omega, by omega, by go_num, N6⟩
              case measure => simp [intOf]; omega
            · have q1 : (x.kind == 1) = false := by simpa using k1
              have HS2 : Hid (Sane2 d1 (1000 + k + 1)) := ⟨HS.out.ri, by have := HS.out.len; omega, HS.out.sz⟩
              have HF2 : Hid (foldD d (L ++ []) = d1) := by show _ = _; rw [List.append_nil]; exact HFD.out
              have z9 : y0.cell? ⟨OB, 0, none⟩ = some (.slice none 0 0) := by have := O0.out; simp [World.cell?, this]
              clear k0 k1
              go_wp2_with (at_builtin; refine wpList_app_row (k := 9) (enc := rcC) (l := []) rfl (.tmp 61) (.tmp 63) 39 65 rfl i0 _ 80 Try.underlying39 hi hz0 hz1 hz2 rfl (by decide) rcC_len rcC_ones (base := W.heap.size) rfl rfl A0.out (RowAt.nil _) B0.out.size (by simp; omega) (by simp; omega) ?_; intro u6 w6 o6 a6; obtain ⟨p6, n6, q6, rfl⟩ := own_form o6; have N6 : Hid (RcsI w W w6 X d (k + 1) (.slice p6 n6 q6)) := rec_done H0.out HS2.out HF2.out B0.out HBW.out o6 a6 (by simp) hLk (apart_PO H0.out A0.out (by decide)); clear o6 a6)
              go_roundw
              case rel => exact ⟨k + 1, by omega, by omega, by go_num, N6⟩
              case measure => simp [intOf]; omega
        · have hL := hS.len
          have HA : Hid (OwnRc wr W.heap.size (.slice pa na ca) L) := hA
          have HFD : Hid (foldD d L = d1) := hfd
          have HP : Hid _ := hP
          have HS : Hid _ := hS
          have HB : Hid _ := hB
          obtain ⟨c0, c1, c2, c3⟩ := DC.out _ hB
          have qf := rfold_any wr d _ _ L (HE.out _ hB) (OwnRc.row hA) (by have := HF.out.len; omega) (by omega)
          clear hA hfd hP hS hB
          by_cases h1 : k < l.length
          · have t0 : decide ((k : Int) < (l.length : Int)) = true := decide_eq_true (by omega)
            have t1 : decide ((k : Int) < 200) = false := decide_eq_false (by omega)
            go_wp2_with (first
              | (go_at_call 9; refine (awake_any _).mono ?_; rintro xx w7 ⟨rfl, b7⟩; have B7 : Hid (Below W.heap.size W w7) := bmm B6.out B6.out.size b7; clear b7)
              | (go_at_call 23; refine (rsameD_any _ (foldD d L) d1 _ _ R5.out (OwnEn.row O5.out) (by rw [HFD.out]; omega) true (by rw [HFD.out]; simp)).mono ?_; rintro xx w6 ⟨rfl, b6⟩; have B6 : Hid (Below W.heap.size W w6) := bmm B5.out B5.out.size b6; clear b6)
              | (go_at_call 25; refine (pdur_any P4.out HS.out.ri (by omega) HS.out.sz).mono ?_; rintro xx w5 ⟨v5, rfl, o5, b5⟩; obtain ⟨p5, n5, q5, rfl⟩ := own_form o5; have O5 : Hid _ := o5; have R5 : Hid _ := R4.out.fresh b5; have B5 : Hid (Below W.heap.size W w5) := bmm B4.out B4.out.size b5; clear o5 b5)
              | (go_at_call 24; refine qf.mono ?_; rintro xx w4 ⟨v4, rfl, o4, b4⟩; obtain ⟨p4, n4, q4, rfl⟩ := own_form o4; have R4 : Hid (RowAt enC w4 (.slice p4 n4 q4) (foldD d L).es) := OwnEn.row o4; have P4 : Hid _ := HP.out.fresh b4; have B4 : Hid (Below W.heap.size W w4) := bmm HB.out HB.out.size b4; clear o4 b4))
            go_ret
            exact ⟨rfl, HBW.out.trans (B7.out.mono HBW.out.size)⟩
          · have t0 : decide ((k : Int) < (l.length : Int)) = false := decide_eq_false (by omega)
            go_wp2_with (first
              | (go_at_call 9; refine (awake_any _).mono ?_; rintro xx w7 ⟨rfl, b7⟩; have B7 : Hid (Below W.heap.size W w7) := bmm B6.out B6.out.size b7; clear b7)
              | (go_at_call 23; refine (rsameD_any _ (foldD d L) d1 _ _ R5.out (OwnEn.row O5.out) (by rw [HFD.out]; omega) true (by rw [HFD.out]; simp)).mono ?_; rintro xx w6 ⟨rfl, b6⟩; have B6 : Hid (Below W.heap.size W w6) := bmm B5.out B5.out.size b6; clear b6)
              | (go_at_call 25; refine (pdur_any P4.out HS.out.ri (by omega) HS.out.sz).mono ?_; rintro xx w5 ⟨v5, rfl, o5, b5⟩; obtain ⟨p5, n5, q5, rfl⟩ := own_form o5; have O5 : Hid _ := o5; have R5 : Hid _ := R4.out.fresh b5; have B5 : Hid (Below W.heap.size W w5) := bmm B4.out B4.out.size b5; clear o5 b5)
              | (go_at_call 24; refine qf.mono ?_; rintro xx w4 ⟨v4, rfl, o4, b4⟩; obtain ⟨p4, n4, q4, rfl⟩ := own_form o4; have R4 : Hid (RowAt enC w4 (.slice p4 n4 q4) (foldD d L).es) := OwnEn.row o4; have P4 : Hid _ := HP.out.fresh b4; have B4 : Hid (Below W.heap.size W w4) := bmm HB.out HB.out.size b4; clear o4 b4))
            go_ret
            exact ⟨rfl, HBW.out.trans (B7.out.mono HBW.out.size)⟩
end Go.Proofs.Ytkngpfngfmbmjaa
