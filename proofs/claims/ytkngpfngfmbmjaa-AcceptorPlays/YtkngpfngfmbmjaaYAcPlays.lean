/-
  AcceptorPlays walked: any deeds on an acceptor of any state, the program held against the document. The condition: a text has at most 2^48 bytes.
-/
import Derived.Test.YtkngpfngfmbmjaaYAcSame
import Derived.Test.YtkngpfngfmbmjaaYAcSane
import Derived.Test.YtkngpfngfmbmjaaYAcRecords
import Derived.Test.YtkngpfngfmbmjaaYPackD
namespace Go.Proofs.Ytkngpfngfmbmjaa
open Go.Shelf Go.RowKit Go.Lib Go.Sort


/-- What both know behind some deeds, as plain data. -/
structure Sane3 (d : Du) (k : Nat) : Prop where
  ri : Rises d.b d.es
  len : d.es.length ≤ k
  sz : SzD d
  sl : ∀ e ∈ d.es, e.slot ≤ 9223372036854775807
  b0 : 0 ≤ d.b
theorem Sane3.prep {d : Du} {k : Nat} (h : Sane3 d k) (b : Int) : Sane3 (prepD d b).st (k + 1) := by
  have h1 := (prepD_len d b).1
  have h2 := h.len
  refine ⟨prepD_rises b h.ri, by omega, ?_, ?_, ?_⟩
  all_goals unfold prepD
  all_goals split
  · exact h.sz
  · exact ⟨h.sz.s, h.sz.es⟩
  · exact h.sl
  · exact h.sl
  · exact h.b0
  · exact h.b0
theorem Sane3.acc {d : Du} {k : Nat} (h : Sane3 d k) (b : Int) (e : En) (hn : nameOk e.cmd.name) (hs : e.slot ≤ 9223372036854775807) : Sane3 (accD d b e).st (k + 1) := by
  have h1 := (accD_len d b e).1
  have h2 := h.len
  refine ⟨accD_rises b e h.ri, by omega, ?_, ?_, ?_⟩
  · unfold accD
    split
    · exact h.sz
    · split
      · refine ⟨h.sz.s, fun x hx => ?_⟩
        rcases putE_mem _ _ _ hx with rfl | hx
        · exact hn
        · exact h.sz.es x hx
      · exact ⟨h.sz.s, h.sz.es⟩
  · unfold accD
    split
    · exact h.sl
    · split
      · intro x hx
        rcases putE_mem _ _ _ hx with rfl | hx
        · exact hs
        · exact h.sl x hx
      · exact h.sl
  · unfold accD
    split
    · exact h.b0
    · split <;> exact h.b0
theorem Sane3.cut {d : Du} {k : Nat} (h : Sane3 d k) (b : Int) (s : ByteArray) (hs : nameOk s) : Sane3 (cutD d b s) (k + 1) := by
  have h1 := cutD_len d b s
  have h2 := h.len
  have h3 := h.b0
  refine ⟨cutD_rises b s h.ri, by omega, ?_, ?_, ?_⟩
  all_goals unfold cutD
  all_goals split
  · exact ⟨hs, fun e he => h.sz.es e (List.mem_filter.1 he).1⟩
  · exact h.sz
  · exact fun e he => h.sl e (List.mem_filter.1 he).1
  · exact h.sl
  · show 0 ≤ b
    omega
  · exact h3
/-- Both acceptors, apart, knowing one thing. -/
structure DuoI (W y : World) (X Y : Nat) (d : Du) : Prop where
  ex : ∃ S v S' v', PA y W.heap.size S X d v ∧ RA y W.heap.size S' Y d v' ∧ ∀ b, S b → ¬ S' b
  bel : Below W.heap.size W y
/-- Within a deed. -/
structure ApI (W y : World) (X Y OA OX DB : Nat) (S S' : Nat → Prop) (dA dX : Du) (v v' : Value) (x : Ad) (ua ux : Value) (Lp Lq : List Rc) : Prop where
  pa : PA y W.heap.size S X dA v
  ra : RA y W.heap.size S' Y dX v'
  ap : ∀ b, S b → ¬ S' b
  oa : y.heap[OA]? = some (.cells (outA ua) 42 (0, 0))
  ox : y.heap[OX]? = some (.cells (outA ux) 42 (0, 0))
  db : AdAt y DB x
  rA : OwnRc y W.heap.size ua Lp
  rX : OwnRc y W.heap.size ux Lq
  ne : OA ≠ OX
  la : W.heap.size ≤ OA
  lx : W.heap.size ≤ OX
  bel : Below W.heap.size W y
section
variable {W y w2 w3 : World} {X Y OA OX DB : Nat} {S S' S2 : Nat → Prop} {dA dX d2 : Du} {v v' v2 ua ux u : Value} {x : Ad} {Lp Lq R : List Rc}
theorem ApI.cutA (h : ApI W y X Y OA OX DB S S' dA dX v v' x ua ux Lp Lq) (h2 : PA w2 W.heap.size S2 X d2 v2) (k2 : Kept y w2 S S2) : ApI W w2 X Y OA OX DB S2 S' d2 dX v2 v' x ua ux Lp Lq :=
  ⟨h2, h.ra.keep fun b hb => k2.kept b (h.ra.bd b hb).2 (fun e => h.ap b e hb), apart_old (fun b hb => (h.ra.bd b hb).2) h.ap k2, kept_out h.pa k2 h.oa (by decide) (by decide), kept_out h.pa k2 h.ox (by decide) (by decide), kept_out h.pa k2 h.db (by decide) (by decide), own_keep h.rA fun g e => k2.kept g (h.rA.lt g e).2 (fun hs => apart_PO h.pa h.rA (by decide) g hs e), own_keep h.rX fun g e => k2.kept g (h.rX.lt g e).2 (fun hs => apart_PO h.pa h.rX (by decide) g hs e), h.ne, h.la, h.lx, h.bel.trans (k2.low h.bel.size (fun b hb => (h.pa.bd b hb).1))⟩
theorem ApI.cutX (h : ApI W y X Y OA OX DB S S' dA dX v v' x ua ux Lp Lq) (h2 : RA w2 W.heap.size S2 Y d2 v2) (k2 : Kept y w2 S' S2) : ApI W w2 X Y OA OX DB S S2 dA d2 v v2 x ua ux Lp Lq :=
  ⟨h.pa.keep fun b hb => k2.kept b (h.pa.bd b hb).2 (h.ap b hb), h2, fun b hb hs => apart_old (fun b hb => (h.pa.bd b hb).2) (fun b h1 h2 => h.ap b h2 h1) k2 b hs hb, kept_out h.ra k2 h.oa (by decide) (by decide), kept_out h.ra k2 h.ox (by decide) (by decide), kept_out h.ra k2 h.db (by decide) (by decide), own_keep h.rA fun g e => k2.kept g (h.rA.lt g e).2 (fun hs => apart_PO h.ra h.rA (by decide) g hs e), own_keep h.rX fun g e => k2.kept g (h.rX.lt g e).2 (fun hs => apart_PO h.ra h.rX (by decide) g hs e), h.ne, h.la, h.lx, h.bel.trans (k2.low h.bel.size (fun b hb => (h.ra.bd b hb).1))⟩
theorem ad_ne {OO : Nat} {c : Array Value} (hd : AdAt w2 DB x) (ho : w2.heap[OO]? = some (.cells c 42 (0, 0))) : DB ≠ OO := fun e => by
  rw [e] at hd
  have := hd.symm.trans ho
  simp at this
/-- The answer is laid. -/
theorem ApI.laidA (h : ApI W w2 X Y OA OX DB S S' dA dX v v' x ua ux Lp Lq) (r : OwnRc w2 W.heap.size u R) (g : w2.grownBy w3 (some OA)) (o3 : w3.heap[OA]? = some (.cells (outA u) 42 (0, 0))) : ApI W w3 X Y OA OX DB S S' dA dX v v' x u ux R Lq := by
  have nb : ∀ b, b < w2.heap.size → b ≠ OA → w3.heap[b]? = w2.heap[b]? := fun b hb hn => g.block b hb (fun e => hn (Option.some.inj e))
  exact ⟨h.pa.keep fun b hb => nb b (h.pa.bd b hb).2 (h.pa.neT h.oa (by decide) (by decide) b hb), h.ra.keep fun b hb => nb b (h.ra.bd b hb).2 (h.ra.neT h.oa (by decide) (by decide) b hb), h.ap, o3, (nb OX (lt_of_block h.ox) (Ne.symm h.ne)).trans h.ox, (nb DB (lt_of_block h.db) (ad_ne h.db h.oa)).trans h.db, own_keep r fun b e => nb b (r.lt b e).2 (fun e2 => own_ne r h.oa (by decide) (by rw [e, e2])), own_keep h.rX fun b e => nb b (h.rX.lt b e).2 (fun e2 => own_ne h.rX h.oa (by decide) (by rw [e, e2])), h.ne, h.la, h.lx, h.bel.grown g h.bel.size (fun k hk => by have h1 := Option.some.inj hk; have h2 := h.la; omega)⟩
theorem ApI.laidX (h : ApI W w2 X Y OA OX DB S S' dA dX v v' x ua ux Lp Lq) (r : OwnRc w2 W.heap.size u R) (g : w2.grownBy w3 (some OX)) (o3 : w3.heap[OX]? = some (.cells (outA u) 42 (0, 0))) : ApI W w3 X Y OA OX DB S S' dA dX v v' x ua u Lp R := by
  have nb : ∀ b, b < w2.heap.size → b ≠ OX → w3.heap[b]? = w2.heap[b]? := fun b hb hn => g.block b hb (fun e => hn (Option.some.inj e))
  exact ⟨h.pa.keep fun b hb => nb b (h.pa.bd b hb).2 (h.pa.neT h.ox (by decide) (by decide) b hb), h.ra.keep fun b hb => nb b (h.ra.bd b hb).2 (h.ra.neT h.ox (by decide) (by decide) b hb), h.ap, (nb OA (lt_of_block h.oa) h.ne).trans h.oa, o3, (nb DB (lt_of_block h.db) (ad_ne h.db h.ox)).trans h.db, own_keep h.rA fun b e => nb b (h.rA.lt b e).2 (fun e2 => own_ne h.rA h.ox (by decide) (by rw [e, e2])), own_keep r fun b e => nb b (r.lt b e).2 (fun e2 => own_ne r h.ox (by decide) (by rw [e, e2])), h.ne, h.la, h.lx, h.bel.grown g h.bel.size (fun k hk => by have h1 := Option.some.inj hk; have h2 := h.lx; omega)⟩
theorem ApI.cA (h : ApI W y X Y OA OX DB S S' dA dX v v' x ua ux Lp Lq) : y.cell? ⟨OA, 0, none⟩ = some ua ∧ y.cell? ⟨OA, 1, none⟩ = some (.bool false) ∧ y.cell? ⟨OA, 2, none⟩ = some (.slice none 0 0) ∧ y.cell? ⟨OA, 3, none⟩ = some (.slice none 0 0) ∧ y.cell? ⟨OX, 0, none⟩ = some ux := by
  have h1 := h.oa
  have h2 := h.ox
  exact ⟨by simp [World.cell?, h1], by simp [World.cell?, h1], by simp [World.cell?, h1], by simp [World.cell?, h1], by simp [World.cell?, h2]⟩
end
set_option maxHeartbeats 25600000 in
set_option maxRecDepth 100000 in
theorem aplays_walk (w : World) (d : Du) (ud v : Value) (l : List Ad) (hd : RowAt enC w ud d.es) (hr : RowAt adC w v l) (hld : d.es.length ≤ 9223372036854775807) (hm : l.length ≤ 9223372036854775807) (hsz : SzD d) (hok : ∀ x ∈ l, OkAd x) (hsl : ∀ e ∈ d.es, e.slot ≤ 9223372036854775807) : Calls Try.prog 3 #[.agg (duA d ud), v] w fun x w' => x = .returned (.bool true) ∧ Below w.heap.size w w' := by
  obtain ⟨va, vc, rfl⟩ := hr.form
  obtain ⟨da, dc, rfl⟩ := hd.form
  obtain ⟨W, hW⟩ : ∃ W, W = w.alloc (.cells (duA d (.slice da d.es.length dc)) 24) := ⟨_, rfl⟩
  have bW : Below w.heap.size w W := by rw [hW]; exact (Below.refl _ w).alloc (Nat.le_refl _) _
  have dW : DuAt W w.heap.size d (.slice da d.es.length dc) := by rw [hW]; exact heap_alloc_new w _
  have HE : Hid (∀ y, Below W.heap.size W y → RowAt enC y (.slice da d.es.length dc) d.es) := fun y b => (hd.fresh bW).fresh b
  have HR : Hid (∀ y, Below W.heap.size W y → RowAt adC y (.slice va l.length vc) l) := fun y b => (hr.fresh bW).fresh b
  have HW : Hid (w.alloc (.cells (duA d (.slice da d.es.length dc)) 24) = W) := hW.symm
  have HBW : Hid (Below w.heap.size w W) := bW
  have qs := sane_any W d _ (HE.out W (Below.refl _ _)) hld
  have DC : Hid (∀ y, Below W.heap.size W y → y.cell? ⟨w.heap.size, 0, none⟩ = some (.int .i64 d.p) ∧ y.cell? ⟨w.heap.size, 1, none⟩ = some (.int .i64 d.b) ∧ y.cell? ⟨w.heap.size, 2, none⟩ = some (.string d.s) ∧ y.cell? ⟨w.heap.size, 3, none⟩ = some (.slice da d.es.length dc)) := fun y b => by
    have h : DuAt y w.heap.size d (.slice da d.es.length dc) := (b.block _ (lt_of_block dW)).trans dW
    exact ⟨h.c0, h.c1, h.c2, h.c3⟩
  have c0 := dW.c0
  have c1 := dW.c1
  have c2 := dW.c2
  have c3 := dW.c3
  clear hW bW dW hd hr
  go_enter Try.func3, Try.ntmps3
  go_upto_region 1 with fail
  rw [HW.out]
  go_cut [15] (fun r wc => ∃ b : Bool, r = .bool (!b) ∧ (b = true → SaneF d) ∧ Below W.heap.size W wc)
  case first =>
    go_wp2_with (go_at_call 8; refine qs.mono ?_; rintro xx w1 ⟨r, rfl, hs1, b1⟩)
    go_meet
    exact ⟨r, rfl, hs1, b1⟩
  case rest =>
    clear qs c0 c1 c2 c3
    obtain ⟨r, rfl, hs1, b1⟩ := hcut
    cases r with
    | false =>
      have B1 : Hid _ := b1
      clear b1 hs1
      go_wp2_with (go_at_call 9; refine (awake_any _).mono ?_; rintro xx w3 ⟨rfl, b3⟩; have B3 : Hid (Below W.heap.size W w3) := bmm B1.out B1.out.size b3; clear b3)
      go_ret
      exact ⟨rfl, HBW.out.trans (B3.out.mono HBW.out.size)⟩
    | true =>
      have hF := hs1 rfl
      obtain ⟨c0, c1, c2, c3⟩ := DC.out _ b1
      have HF : Hid _ := hF
      have B1d : Hid (Below W.heap.size W wc.drew) := ⟨b1.os, b1.tape, b1.output, b1.size, b1.block⟩
      clear hs1 hF b1
      go_upto_region 3 with fail
      refine wp_region_held_drew (S := (fun y : World => y.cell? ⟨w.heap.size, 0, none⟩ = some (.int .i64 d.p) ∧ y.cell? ⟨w.heap.size, 1, none⟩ = some (.int .i64 d.b) ∧ y.cell? ⟨w.heap.size, 2, none⟩ = some (.string d.s) ∧ y.cell? ⟨w.heap.size, 3, none⟩ = some (.slice da d.es.length dc))) (by kernel_rfl) ?_ (fun hHeld0 => ?_)
      · try dsimp only
        go_keep
      refine tk0 (.agg #[.int .i64 d.p, .int .i64 d.b, .string d.s, .slice da d.es.length dc]) (by kernel_rfl) (by kernel_rfl) (by kernel_rfl) (fun _ _ _ h => h) rfl (fun w hSw => by (try dsimp only at hSw); obtain ⟨s0, s1, s2, s3⟩ := hSw; go_simp) (by assumption) ?_
      try simp only [Act.put, List.setIfInBounds_toArray, List.set_cons_zero, List.set_cons_succ]
      refine tk2 (.agg #[.int .i64 d.p, .int .i64 d.b, .string d.s, .slice da d.es.length dc]) (by kernel_rfl) (by kernel_rfl) (by kernel_rfl) (fun _ _ _ h => h) rfl (fun w hSw => by (try dsimp only at hSw); obtain ⟨s0, s1, s2, s3⟩ := hSw; go_simp) (by assumption) ?_
      try simp only [Act.put, List.setIfInBounds_toArray, List.set_cons_zero, List.set_cons_succ]
      refine cl1 (by kernel_rfl) rfl (fun K hK => ?_)
      go_simp
      go_at_call 10
      refine (pnew_any wc.drew d _ (HE.out wc.drew B1d.out) HF.out.p0 HF.out.ri (by have := HF.out.len; omega) hsz).mono ?_
      rintro xx y1 ⟨S0, X, v0, rfl, h0, c1⟩
      have b1 := bmm B1d.out B1d.out.size c1
      have H1 : Hid _ := h0.mono B1d.out.size
      have SB : Hid (∀ b, S0 b → b < y1.heap.size) := fun b hb => (h0.bd b hb).2
      have C1 : Hid _ := b1
      obtain ⟨k0, k1, k2, k3⟩ := DC.out y1 b1
      clear h0 c1 b1
      refine hK.out _ _ ?_ (fun hHeld => ?_)
      · try dsimp only
        go_keep
      clear hK K
      try simp only [Act.put, List.setIfInBounds_toArray, List.set_cons_zero, List.set_cons_succ]
      refine cl3 (by kernel_rfl) rfl (fun K hK => ?_)
      go_simp
      go_at_call 11
      refine (rnew_any y1 d _ (HE.out y1 C1.out) HF.out.ri (by have := HF.out.len; omega)).mono ?_
      rintro xx y2 ⟨S9, Y, v9, rfl, h9, c2⟩
      have b2 := bmm C1.out C1.out.size c2
      have D2 : Hid (DuoI W y2 X Y d) := ⟨⟨S0, v0, S9, v9, H1.out.fresh c2, h9.mono C1.out.size, fun b hb h8 => by have g1 := SB.out b hb; have g2 := (h9.bd b h8).1; omega⟩, b2⟩
      obtain ⟨l0, l1, l2, l3⟩ := DC.out y2 b2
      clear h9 c2 b2
      refine hK.out _ _ ?_ (fun hHeld => ?_)
      · try dsimp only
        go_keep
      clear hK K
      try simp only [Act.put, List.setIfInBounds_toArray, List.set_cons_zero, List.set_cons_succ]
      refine tk4 (.pointer (some ⟨X, 0, none⟩)) (by kernel_rfl) (by kernel_rfl) (by kernel_rfl) (fun _ _ _ h => h) rfl (fun w hSw => by (try dsimp only at hSw); obtain ⟨s0, s1, s2, s3⟩ := hSw; go_simp) (by assumption) ?_
      try simp only [Act.put, List.setIfInBounds_toArray, List.set_cons_zero, List.set_cons_succ]
      refine tk5 (.pointer (some ⟨Y, 0, none⟩)) (by kernel_rfl) (by kernel_rfl) (by kernel_rfl) (fun _ _ _ h => h) rfl (fun w hSw => by (try dsimp only at hSw); obtain ⟨s0, s1, s2, s3⟩ := hSw; go_simp) (by assumption) ?_
      try simp only [Act.put, List.setIfInBounds_toArray, List.set_cons_zero, List.set_cons_succ]
      refine wpAnyH_done (by kernel_rfl) ?_ _
      clear c0 c1 c2 c3 k0 k1 k2 k3 l0 l1 l2 l3 H1 SB C1
      have S0x : Hid (Sane3 d 1000) := ⟨HF.out.ri, HF.out.len, hsz, hsl, HF.out.b0⟩
      obtain ⟨⟨S1, v1, S3, v3, hp, hq, _⟩, hb2⟩ := D2.out
      have qsm := same_any hp hq HF.out.ri (by have := HF.out.len; omega) hsz 0
      have B2 : Hid _ := hb2
      clear hp hq hb2
      go_upto_region 6 with (go_at_call 12; refine qsm.mono ?_; rintro xx w5 ⟨rfl, b5⟩; have D5 : Hid (DuoI W w5 X Y d) := ⟨(by obtain ⟨⟨S1, v1, S3, v3, hp, hq, ha⟩, _⟩ := D2.out; exact ⟨S1, v1, S3, v3, hp.fresh b5, hq.fresh b5, ha⟩), bmm B2.out B2.out.size b5⟩; clear b5)
      clear qsm D2 B2
      go_wp2
      go_loopw [7] (fun i wr => ∃ (k : Nat) (d1 : Du), k ≤ l.length ∧ k ≤ 200 ∧ i = .int .i64 (k : Int) ∧ Hid (Sane3 d1 (1000 + k)) ∧ Hid (DuoI W wr X Y d1)) (fun i _ => l.length - (intOf i).toNat)
      case atStart => exact ⟨0, d, Nat.zero_le _, Nat.zero_le _, rfl, S0x, D5⟩
      case round =>
        clear S0x D5
        obtain ⟨k, d1, hk, hk200, rfl, HS, I1⟩ := hrel
        have hL := HS.out.len
        by_cases hkl : k < l.length
        · have t0 : decide ((k : Int) < (l.length : Int)) = true := decide_eq_true (by omega)
          by_cases hk2 : k < 200
          · have t1 : decide ((k : Int) < 200) = true := decide_eq_true (by omega)
            have i1 : (k : Int) < (l.length : Int) := by omega
            have i2 : (0 : Int) ≤ (k : Int) := by omega
            have i3 : ((k : Int)).toNat = k := by omega
            obtain ⟨⟨S1, v1, S3, v3, hp, hq, hap⟩, hB⟩ := I1.out
            obtain ⟨bk, off, cap', hvv, hcap, hbk, hc⟩ := (HR.out wr hB).cells adC_len (by omega)
            injection hvv with e1 e2 e3
            subst e1 e3
            obtain ⟨x, hx⟩ : ∃ x, x = l[k] := ⟨_, rfl⟩
            have hxo : OkAd x := by rw [hx]; exact hok _ (List.getElem_mem hkl)
            have z0 := hc k hkl 0 (.int .i64 x.kind) (by decide) (by rw [hx]; rfl)
            have z1 := hc k hkl 1 (.int .i64 x.b) (by decide) (by rw [hx]; rfl)
            have z2 := hc k hkl 2 (.int .i64 x.e.slot) (by decide) (by rw [hx]; rfl)
            have z3 := hc k hkl 3 (.int .i64 x.e.ballot) (by decide) (by rw [hx]; rfl)
            have z4 := hc k hkl 4 (.int .i64 x.e.cmd.kind) (by decide) (by rw [hx]; rfl)
            have z5 := hc k hkl 5 (.int .i64 x.e.cmd.session) (by decide) (by rw [hx]; rfl)
            have z6 := hc k hkl 6 (.int .i64 x.e.cmd.seq) (by decide) (by rw [hx]; rfl)
            have z7 := hc k hkl 7 (.string x.e.cmd.name) (by decide) (by rw [hx]; rfl)
            have z8 := hc k hkl 8 (.int .i64 x.e.cmd.n) (by decide) (by rw [hx]; rfl)
            have z9 := hc k hkl 9 (.string x.s) (by decide) (by rw [hx]; rfl)
            rw [Nat.add_zero] at z0
            obtain ⟨y0, hy0⟩ : ∃ y, y = wr.alloc (.cells (adA x) 38) := ⟨_, rfl⟩
            obtain ⟨DB, hDB⟩ : ∃ DB, DB = wr.heap.size := ⟨_, rfl⟩
            have a0 : Below wr.heap.size wr y0 := by rw [hy0]; exact (Below.refl _ _).alloc (Nat.le_refl _) _
            have d0 : AdAt y0 DB x := by rw [hy0, hDB]; exact heap_alloc_new wr _
            have HY0 : Hid (wr.alloc (.cells (adA x) 38) = y0) := hy0.symm
            have HDB : Hid (wr.heap.size = DB) := hDB.symm
            obtain ⟨ya, hya⟩ : ∃ y, y = (y0.alloc (.cells (outA (.slice none 0 0)) 42)).alloc (.cells (outA (.slice none 0 0)) 42) := ⟨_, rfl⟩
            obtain ⟨OA, hOA⟩ : ∃ O, O = y0.heap.size := ⟨_, rfl⟩
            have h2 := two_blocks y0 (.cells (outA (.slice none 0 0)) 42) (.cells (outA (.slice none 0 0)) 42)
            have aa : Below y0.heap.size y0 ya := by rw [hya]; exact ((Below.refl _ _).alloc (Nat.le_refl _) _).alloc (by simp) _
            have oa : ya.heap[OA]? = some (.cells (outA (.slice none 0 0)) 42 (0, 0)) := by rw [hya, hOA]; exact h2.1.trans (heap_alloc_new y0 _)
            have ox : ya.heap[OA + 1]? = some (.cells (outA (.slice none 0 0)) 42 (0, 0)) := by rw [hya, hOA]; exact h2.2.trans (heap_alloc_new _ _)
            have bb : Below W.heap.size W y0 := bmm hB hB.size a0
            have hla : W.heap.size ≤ OA := by rw [hOA]; exact bb.size
            have J0 : Hid (ApI W ya X Y OA (OA + 1) DB S1 S3 d1 d1 v1 v3 x (.slice none 0 0) (.slice none 0 0) [] []) := ⟨(hp.fresh a0).fresh aa, (hq.fresh a0).fresh aa, hap, oa, ox, (aa.block DB (lt_of_block d0)).trans d0, World.ownsRow_nil _ _ _ _, World.ownsRow_nil _ _ _ _, by omega, hla, by omega, bmm bb bb.size aa⟩
            have HYA : Hid ((y0.alloc (.cells (outA (.slice none 0 0)) 42)).alloc (.cells (outA (.slice none 0 0)) 42) = ya) := hya.symm
            have HOA : Hid (y0.heap.size = OA) := hOA.symm
            have HX : Hid (OkAd x) := hxo
            clear hc hx hy0 hDB a0 d0 hya hOA h2 aa oa ox bb hp hq hap hB hxo hcap hbk I1 hla
            go_upto_region 10 with fail
            rw [HY0.out, HDB.out]
            clear z0 z1 z2 z3 z4 z5 z6 z7 z8 z9
            go_upto_region 11 with fail
            rw [HYA.out, HOA.out]
            have z0 := J0.out.db.box 0 _ rfl
            have z1 := J0.out.db.box 1 _ rfl
            have z2 := J0.out.db.box 2 _ rfl
            have z3 := J0.out.db.box 3 _ rfl
            have z4 := J0.out.db.box 4 _ rfl
            have z5 := J0.out.db.box 5 _ rfl
            have z6 := J0.out.db.box 6 _ rfl
            have z7 := J0.out.db.box 7 _ rfl
            have z8 := J0.out.db.box 8 _ rfl
            have z9 := J0.out.db.box 9 _ rfl
            by_cases k0 : x.kind = 0
            · have q0 : (x.kind == 0) = true := by simpa using k0
              have qa := pprep_any J0.out.pa x.b
              clear k0
              go_upto_region 17 with (first
                | (show wpList _ _ _ (⟨_, Op.store 42 _ _, _, _, _, _⟩ :: _) _ _; refine store_row_g rfl 42 _ _ rfl OA (outA (.slice p2 n2 c2)) rfl rfl 42 _ J1.out.oa sizeOut rfl (by simp [Value.oneCell']) ?_; intro w3 o3 g3)
                | (go_at_call 13; refine qa.mono ?_; rintro xx w2 ⟨S2, v2, u2, rfl, h2, r2, k2⟩; obtain ⟨p2, n2, c2, rfl⟩ := own_form r2; have J1 : Hid _ := J0.out.cutA h2 k2; have R2 : Hid _ := own_mono r2 J0.out.bel.size; clear h2 r2 k2))
              have J2 : Hid (ApI W w3 X Y OA (OA + 1) DB S2 S3 (prepD d1 x.b).st d1 v2 v3 x (.slice p2 n2 c2) (.slice none 0 0) (prepD d1 x.b).recs []) := J1.out.laidA R2.out g3 o3
              clear o3 g3 qa
              clear z0 z1 z2 z3 z4 z5 z6 z7 z8 z9
              have z1 := J2.out.db.box 1 _ rfl
              have qb := rprep_any J2.out.ra x.b
              go_upto_region 21 with (first
                | (show wpList _ _ _ (⟨_, Op.store 42 _ _, _, _, _, _⟩ :: _) _ _; refine store_row_g rfl 42 _ _ rfl (OA + 1) (outA (.slice p4 n4 c4)) rfl rfl 42 _ J3.out.ox sizeOut rfl (by simp [Value.oneCell']) ?_; intro J4w o5 g5)
                | (go_at_call 14; refine qb.mono ?_; rintro xx w4 ⟨S4, v4, u4, rfl, h4, r4, k4⟩; obtain ⟨p4, n4, c4, rfl⟩ := own_form r4; have J3 : Hid _ := J2.out.cutX h4 k4; have R4 : Hid _ := own_mono r4 J2.out.bel.size; clear h4 r4 k4))
              have J4 : Hid (ApI W J4w X Y OA (OA + 1) DB S2 S4 (prepD d1 x.b).st (prepD d1 x.b).st v2 v4 x (.slice p2 n2 c2) (.slice p4 n4 c4) (prepD d1 x.b).recs (prepD d1 x.b).recs) := J3.out.laidX R4.out g5 o5
              clear o5 g5 qb z1
              have z2 := J4.out.db.box 2 _ rfl
              obtain ⟨f0, f1, f2, f3, f4⟩ := J4.out.cA
              have HS4 : Hid (Sane3 (prepD d1 x.b).st (1000 + k + 1)) := HS.out.prep x.b
              have tt : ((prepD d1 x.b).ok != (prepD d1 x.b).ok) = false := by simp
              have qr := rrecs_same J4w _ _ (prepD d1 x.b).recs (OwnRc.row J4.out.rA) (OwnRc.row J4.out.rX) (by have := (prepD_len d1 x.b).2; omega)
              have qsm := fun (y : World) (hb : Below J4w.heap.size J4w y) => same_any (J4.out.pa.fresh hb) (J4.out.ra.fresh hb) HS4.out.ri (by have := HS4.out.len; omega) HS4.out.sz x.e.slot
              have QS : Hid _ := qsm
              clear qsm
              have HZ2 : Hid (∀ y, Below J4w.heap.size J4w y → y.cell? ⟨OA, 1, none⟩ = some (.bool false) ∧ y.cell? ⟨OA, 2, none⟩ = some (.slice none 0 0) ∧ y.cell? ⟨OA, 3, none⟩ = some (.slice none 0 0) ∧ y.cell? ⟨DB, 2, none⟩ = some (.int .i64 x.e.slot)) := fun y hb => ⟨(hb.cell (by exact lt_of_block J4.out.oa)).trans f1, (hb.cell (by exact lt_of_block J4.out.oa)).trans f2, (hb.cell (by exact lt_of_block J4.out.oa)).trans f3, (hb.cell (by exact lt_of_block J4.out.db)).trans z2⟩
              go_wp2_with (first
                | (go_at_call 12; refine (QS.out _ B6.out).mono ?_; rintro xx w7 ⟨rfl, b7⟩; have b67 := bmm B6.out B6.out.size b7; have D7 : Hid (DuoI W w7 X Y (prepD d1 x.b).st) := ⟨⟨_, _, _, _, J4.out.pa.fresh b67, J4.out.ra.fresh b67, J4.out.ap⟩, bmm J4.out.bel J4.out.bel.size b67⟩; clear b7 b67)
                | (go_at_call 19; refine qr.mono ?_; rintro xx w6 ⟨rfl, b6⟩; obtain ⟨g1, g2, g3, g4⟩ := HZ2.out _ b6; have B6 : Hid _ := b6; clear b6))
              go_roundw
              case rel => exact ⟨k + 1, (prepD d1 x.b).st, by omega, by omega, by go_num, HS4, D7⟩
              case measure => simp [intOf]; omega
            · have q0 : (x.kind == 0) = false := by simpa using k0
              by_cases k1 : x.kind = 1
              · have q1 : (x.kind == 1) = true := by simpa using k1
                have qa := pacc_any J0.out.pa HS.out.ri (by omega) x.b x.e HX.out.name
                clear k0
                go_upto_region 20 with (first
                  | (show wpList _ _ _ (⟨_, Op.store 42 _ _, _, _, _, _⟩ :: _) _ _; refine store_row_g rfl 42 _ _ rfl OA (outA (.slice p2 n2 c2)) rfl rfl 42 _ J1.out.oa sizeOut rfl (by simp [Value.oneCell']) ?_; intro w3 o3 g3)
                  | (go_at_call 15; refine qa.mono ?_; rintro xx w2 ⟨S2, v2, u2, rfl, h2, r2, k2⟩; obtain ⟨p2, n2, c2, rfl⟩ := own_form r2; have J1 : Hid _ := J0.out.cutA h2 k2; have R2 : Hid _ := own_mono r2 J0.out.bel.size; clear h2 r2 k2))
                have J2 : Hid (ApI W w3 X Y OA (OA + 1) DB S2 S3 (accD d1 x.b x.e).st d1 v2 v3 x (.slice p2 n2 c2) (.slice none 0 0) (accD d1 x.b x.e).recs []) := J1.out.laidA R2.out g3 o3
                clear o3 g3 qa
                clear z0 z1 z2 z3 z4 z5 z6 z7 z8 z9
                have z1 := J2.out.db.box 1 _ rfl
                have z2 := J2.out.db.box 2 _ rfl
                have z3 := J2.out.db.box 3 _ rfl
                have z4 := J2.out.db.box 4 _ rfl
                have z5 := J2.out.db.box 5 _ rfl
                have z6 := J2.out.db.box 6 _ rfl
                have z7 := J2.out.db.box 7 _ rfl
                have z8 := J2.out.db.box 8 _ rfl
                have qb := racc_any J2.out.ra (by omega) x.b x.e
                go_upto_region 21 with (first
                  | (show wpList _ _ _ (⟨_, Op.store 42 _ _, _, _, _, _⟩ :: _) _ _; refine store_row_g rfl 42 _ _ rfl (OA + 1) (outA (.slice p4 n4 c4)) rfl rfl 42 _ J3.out.ox sizeOut rfl (by simp [Value.oneCell']) ?_; intro J4w o5 g5)
                  | (go_at_call 16; refine qb.mono ?_; rintro xx w4 ⟨S4, v4, u4, rfl, h4, r4, k4⟩; obtain ⟨p4, n4, c4, rfl⟩ := own_form r4; have J3 : Hid _ := J2.out.cutX h4 k4; have R4 : Hid _ := own_mono r4 J2.out.bel.size; clear h4 r4 k4))
                have J4 : Hid (ApI W J4w X Y OA (OA + 1) DB S2 S4 (accD d1 x.b x.e).st (accD d1 x.b x.e).st v2 v4 x (.slice p2 n2 c2) (.slice p4 n4 c4) (accD d1 x.b x.e).recs (accD d1 x.b x.e).recs) := J3.out.laidX R4.out g5 o5
                clear o5 g5 qb z1 z2 z3 z4 z5 z6 z7 z8
                have z2 := J4.out.db.box 2 _ rfl
                obtain ⟨f0, f1, f2, f3, f4⟩ := J4.out.cA
                have HS4 : Hid (Sane3 (accD d1 x.b x.e).st (1000 + k + 1)) := HS.out.acc x.b x.e HX.out.name HX.out.slot
                have tt : ((accD d1 x.b x.e).ok != (accD d1 x.b x.e).ok) = false := by simp
                have qr := rrecs_same J4w _ _ (accD d1 x.b x.e).recs (OwnRc.row J4.out.rA) (OwnRc.row J4.out.rX) (by have := (accD_len d1 x.b x.e).2; omega)
                have qsm := fun (y : World) (hb : Below J4w.heap.size J4w y) => same_any (J4.out.pa.fresh hb) (J4.out.ra.fresh hb) HS4.out.ri (by have := HS4.out.len; omega) HS4.out.sz x.e.slot
                have QS : Hid _ := qsm
                clear qsm
                have HZ2 : Hid (∀ y, Below J4w.heap.size J4w y → y.cell? ⟨OA, 1, none⟩ = some (.bool false) ∧ y.cell? ⟨OA, 2, none⟩ = some (.slice none 0 0) ∧ y.cell? ⟨OA, 3, none⟩ = some (.slice none 0 0) ∧ y.cell? ⟨DB, 2, none⟩ = some (.int .i64 x.e.slot)) := fun y hb => ⟨(hb.cell (by exact lt_of_block J4.out.oa)).trans f1, (hb.cell (by exact lt_of_block J4.out.oa)).trans f2, (hb.cell (by exact lt_of_block J4.out.oa)).trans f3, (hb.cell (by exact lt_of_block J4.out.db)).trans z2⟩
                go_wp2_with (first
                  | (go_at_call 12; refine (QS.out _ B6.out).mono ?_; rintro xx w7 ⟨rfl, b7⟩; have b67 := bmm B6.out B6.out.size b7; have D7 : Hid (DuoI W w7 X Y (accD d1 x.b x.e).st) := ⟨⟨_, _, _, _, J4.out.pa.fresh b67, J4.out.ra.fresh b67, J4.out.ap⟩, bmm J4.out.bel J4.out.bel.size b67⟩; clear b7 b67)
                  | (go_at_call 19; refine qr.mono ?_; rintro xx w6 ⟨rfl, b6⟩; obtain ⟨g1, g2, g3, g4⟩ := HZ2.out _ b6; have B6 : Hid _ := b6; clear b6))
                go_roundw
                case rel => exact ⟨k + 1, (accD d1 x.b x.e).st, by omega, by omega, by go_num, HS4, D7⟩
                case measure => simp [intOf]; omega
              · have q1 : (x.kind == 1) = false := by simpa using k1
                have qa := pcut_any J0.out.pa HS.out.ri (by omega) x.b x.s HX.out.snap
                clear k0 k1
                go_upto_region 14 with (go_at_call 17; refine qa.mono ?_; rintro xx w3 ⟨S2, v2, rfl, h2, k2⟩)
                have J2 : Hid _ := J0.out.cutA h2 k2
                clear h2 k2 qa
                clear z0 z1 z2 z3 z4 z5 z6 z7 z8 z9
                have z1 := J2.out.db.box 1 _ rfl
                have z9 := J2.out.db.box 9 _ rfl
                have qb := rcut_any J2.out.ra (by omega) HS.out.sl x.b HX.out.bb HS.out.b0 x.s
                go_upto_region 21 with (go_at_call 18; refine qb.mono ?_; rintro xx J4w ⟨S4, v4, rfl, h4, k4⟩)
                have J4 : Hid (ApI W J4w X Y OA (OA + 1) DB S2 S4 (cutD d1 x.b x.s) (cutD d1 x.b x.s) v2 v4 x (.slice none 0 0) (.slice none 0 0) [] []) := J2.out.cutX h4 k4
                clear h4 k4 qb z1 z9
                have z2 := J4.out.db.box 2 _ rfl
                obtain ⟨f0, f1, f2, f3, f4⟩ := J4.out.cA
                have HS4 : Hid (Sane3 (cutD d1 x.b x.s) (1000 + k + 1)) := HS.out.cut x.b x.s HX.out.snap
                have tt : True := trivial
                have qr := rrecs_same J4w _ _ [] (OwnRc.row J4.out.rA) (OwnRc.row J4.out.rX) (by simp)
                have qsm := fun (y : World) (hb : Below J4w.heap.size J4w y) => same_any (J4.out.pa.fresh hb) (J4.out.ra.fresh hb) HS4.out.ri (by have := HS4.out.len; omega) HS4.out.sz x.e.slot
                have QS : Hid _ := qsm
                clear qsm
                have HZ2 : Hid (∀ y, Below J4w.heap.size J4w y → y.cell? ⟨OA, 1, none⟩ = some (.bool false) ∧ y.cell? ⟨OA, 2, none⟩ = some (.slice none 0 0) ∧ y.cell? ⟨OA, 3, none⟩ = some (.slice none 0 0) ∧ y.cell? ⟨DB, 2, none⟩ = some (.int .i64 x.e.slot)) := fun y hb => ⟨(hb.cell (by exact lt_of_block J4.out.oa)).trans f1, (hb.cell (by exact lt_of_block J4.out.oa)).trans f2, (hb.cell (by exact lt_of_block J4.out.oa)).trans f3, (hb.cell (by exact lt_of_block J4.out.db)).trans z2⟩
                go_wp2_with (first
                  | (go_at_call 12; refine (QS.out _ B6.out).mono ?_; rintro xx w7 ⟨rfl, b7⟩; have b67 := bmm B6.out B6.out.size b7; have D7 : Hid (DuoI W w7 X Y (cutD d1 x.b x.s)) := ⟨⟨_, _, _, _, J4.out.pa.fresh b67, J4.out.ra.fresh b67, J4.out.ap⟩, bmm J4.out.bel J4.out.bel.size b67⟩; clear b7 b67)
                  | (go_at_call 19; refine qr.mono ?_; rintro xx w6 ⟨rfl, b6⟩; obtain ⟨g1, g2, g3, g4⟩ := HZ2.out _ b6; have B6 : Hid _ := b6; clear b6))
                go_roundw
                case rel => exact ⟨k + 1, (cutD d1 x.b x.s), by omega, by omega, by go_num, HS4, D7⟩
                case measure => simp [intOf]; omega
          · have t1 : decide ((k : Int) < 200) = false := decide_eq_false (by omega)
            have BI : Hid _ := I1.out.bel
            go_wp2_with (go_at_call 9; refine (awake_any _).mono ?_; rintro xx w3 ⟨rfl, b3⟩; have B3 : Hid (Below W.heap.size W w3) := bmm BI.out BI.out.size b3; clear b3)
            go_ret
            exact ⟨rfl, HBW.out.trans (B3.out.mono HBW.out.size)⟩
        · have t0 : decide ((k : Int) < (l.length : Int)) = false := decide_eq_false (by omega)
          have BI : Hid _ := I1.out.bel
          go_wp2_with (go_at_call 9; refine (awake_any _).mono ?_; rintro xx w3 ⟨rfl, b3⟩; have B3 : Hid (Below W.heap.size W w3) := bmm BI.out BI.out.size b3; clear b3)
          go_ret
          exact ⟨rfl, HBW.out.trans (B3.out.mono HBW.out.size)⟩
end Go.Proofs.Ytkngpfngfmbmjaa
