/-
  The program's rwlock (package lmutex), unlocked: those that have it then, who holds it, who waits. The conditions: the task's number is an int's; fewer than 65536 hold it or wait.
-/
import Derived.Test.YtlcacjekpdmigaaRwCodeC
namespace Go.Proofs.Ytlcacjekpdmigaa
open Go.RowKit

section
variable {w w' : World} {base base' D : Nat} {S S' : Nat → Prop} {L : List Int} {wt : Bool} {q : List Wt}
/-- The first of those that wait leaves. -/
theorem pr_leave {t : Int} {r b : Bool} (h : PRw w base D S L wt ((t, r, b) :: q)) : Calls Try.prog 29 #[.pointer (some ⟨D, 0, none⟩)] w fun e w' => e = .returned (.agg #[.int .i64 t, .bool r, .bool b]) ∧ ∃ S', PRw w' base D S' L wt q ∧ Kept w w' S S' := by
  obtain ⟨ho, hs, hq, h2, h3, h4⟩ := h.ex
  refine (q_leave hq).mono ?_
  rintro e w' ⟨rfl, S', h5, h6, h7, h8⟩
  exact ⟨rfl, S', ⟨⟨ho, hs, h5, h2.keepX h7, fun M e => h8 M (h3 M e), h4⟩, h.srt, h.one, fun z hz e => h.dis z hz (by rw [List.map_cons]; exact List.mem_cons_of_mem _ e), by have := h.len; rw [List.length_cons] at this; omega, h.lo⟩, h6⟩
theorem PRw.first {t : Int} {r b : Bool} (h : PRw w base D S L wt ((t, r, b) :: q)) : t ∉ L ∧ t ∉ q.map (·.1) ∧ okI t := by
  obtain ⟨ho, hs, hq, h2, h3, h4⟩ := h.ex
  have hn := hq.nodup
  rw [List.map_cons, List.nodup_cons] at hn
  exact ⟨fun e => h.dis t e (by simp), hn.1, hq.lo (t, r, b) (by simp)⟩
/-- One of those that hold it holds it no longer. -/
theorem drop_fin (h : PRw w base D S L wt q) (t : Int) (htL : t ∈ L) {M : Nat} {hs : List Int} (hq : QAt w base D S 76 (.map (some M)) (.bool (wt && decide (0 < L.length))) q) (h2 : SetAt w M hs) (h3 : S M) (h4 : hs.Perm L) {w2 : World} (hs2 : SetAt w2 M (hs.filter fun y => !(y == t))) (hg : w.grownBy w2 (some M)) (hz : w2.heap.size = w.heap.size) :
    PRw (w2.setCell ⟨D, 3, none⟩ (.bool false)) base D S (dropL L t) wt q ∧ Kept w (w2.setCell ⟨D, 3, none⟩ (.bool false)) S S := by
  have hq2 := hq.turnX h2 hg
  have k3 := hq2.setY (.bool false)
  have hMD : M ≠ D := by
    obtain ⟨v, mo, ks, h1, _⟩ := hq.ex
    exact h2.ne h1
  have hle : (dropL L t).length ≤ L.length := by unfold dropL; exact List.length_filter_le _ _
  refine ⟨⟨⟨some M, _, ?_, SetO.some (hs2.keep (heap_setCell_other _ _ _ _ (by simpa using hMD))), fun M' e => (by cases e; exact h3), h4.filter _⟩, h.srt.filter _, fun e => Nat.le_trans hle (h.one e), fun z hz => h.dis z (dropL_mem hz), by have := h.len; omega, fun z hz => h.lo z (dropL_mem hz)⟩, ⟨k3.2.os.trans hg.os, k3.2.tape.trans hg.tape, k3.2.output.trans hg.output, by simp [hz], fun b hb => Or.inl hb, fun b hb hn => ?_⟩⟩
  · have e : (wt && decide (0 < (dropL L t).length)) = false := by
      cases hw : wt with
      | false => rfl
      | true =>
        have h1 := h.one hw
        have e1 : dropL L t = [] := by
          cases L with
          | nil => rfl
          | cons a l =>
            have e2 : l = [] := List.eq_nil_of_length_eq_zero (by rw [List.length_cons] at h1; omega)
            subst e2
            have e3 : t = a := by simpa using htL
            simp [dropL, e3]
        rw [e1]
        rfl
    rw [e]
    exact k3.1
  · rw [k3.2.kept b (by omega) hn, hg.block b hb (fun e => hn (by rw [Option.some.inj e]; exact h3))]
set_option maxHeartbeats 6400000 in
set_option maxRecDepth 100000 in
theorem pr_unlock (h : PRw w base D S L wt q) (t : Int) (ht : okI t) (rd : Bool) (hN : L.length + q.length < 65536) : Calls Try.prog 19 #[.pointer (some ⟨D, 0, none⟩), .int .i64 t, .bool rd] w fun e w' => ∃ u, e = .returned (.tuple #[u, .int .i64 (rwUZ L wt t rd)]) ∧ RowAt intC w' u (rwU L wt q t rd).1 ∧ (∀ bk off n cap, 0 < n → u = .slice (some ⟨bk, off, none⟩) n cap → w.heap.size ≤ bk) ∧ ∃ S', PRw w' base D S' (rwU L wt q t rd).2.1 (rwU L wt q t rd).2.2.1 (rwU L wt q t rd).2.2.2 ∧ Kept w w' S S' := by
  have hh := pr_holds h t ht
  have H : Hid _ := h
  have nil0 : ∀ (bk off n cap : Nat), 0 < n → Value.slice none 0 0 = .slice (some ⟨bk, off, none⟩) n cap → w.heap.size ≤ bk := fun bk off n cap h0 e => by simp at e
  have NIL : Hid _ := nil0
  clear nil0
  cases hb : hasB L t with
  | false =>
    have HZ : Hid (rwUZ L wt t rd = 13) := by show _ = _; unfold rwUZ rwUE; rw [hb]; rfl
    have HU : Hid (rwU L wt q t rd = ([], L, wt, q)) := by show _ = _; unfold rwU rwUE; rw [hb]; rfl
    rw [hb] at hh
    clear h hb
    go_enter Try.func19, Try.ntmps19
    go_wp2_with (go_at_call 32; refine hh.mono ?_; rintro e w1 ⟨rfl, b1⟩)
    go_ret2
    exact ⟨_, by rw [HZ.out]; rfl, by rw [HU.out]; exact RowAt.nil _, NIL.out, S, by rw [HU.out]; exact H.out.fresh b1, Kept.of b1⟩
  | true =>
    have htL : t ∈ L := by unfold hasB at hb; simpa using hb
    have hLp : 0 < L.length := List.length_pos_of_mem htL
    obtain ⟨ho, hs, hq, h2, h3, h4⟩ := h.ex
    obtain ⟨c2, c3, f2, f3, hD⟩ := hq.cells
    rw [decide_eq_true hLp, Bool.and_true] at c3
    rw [hb] at hh
    cases hw : (wt == rd) with
    | true =>
      have HZ : Hid (rwUZ L wt t rd = 13) := by show _ = _; unfold rwUZ rwUE; rw [hb, hw]; rfl
      have HU : Hid (rwU L wt q t rd = ([], L, wt, q)) := by show _ = _; unfold rwU rwUE; rw [hb, hw]; rfl
      clear h hb hq h2 h3 h4 htL hLp
      go_enter Try.func19, Try.ntmps19
      go_wp2_with (go_at_call 32; refine hh.mono ?_; rintro e w1 ⟨rfl, b1⟩; have z3 := (b1.cell (p := ⟨D, 3, none⟩) (by exact hD)).trans c3)
      go_ret2
      exact ⟨_, by rw [HZ.out]; rfl, by rw [HU.out]; exact RowAt.nil _, NIL.out, S, by rw [HU.out]; exact H.out.fresh b1, Kept.of b1⟩
    | false =>
      have HZ : Hid (rwUZ L wt t rd = 0) := by show _ = _; unfold rwUZ rwUE; rw [hb, hw]; rfl
      have HU : Hid (rwU L wt q t rd = rwGo (dropL L t) wt q) := by show _ = _; unfold rwU rwUE; rw [hb, hw]; rfl
      rcases h2.ex with ⟨_, rfl⟩ | ⟨M, rfl, h7⟩
      · have := h4.length_eq
        simp at this
        omega
      have st : ∀ w1 : World, Below w.heap.size w w1 → ∃ w2, (Builtin.delete_ #[65, 3] 0 #[.map (some M), .int .i64 t]).run Try.prog w1 = .ok (.tuple #[]) w2 ∧ w2.cell? ⟨D, 3, none⟩ = some (.bool wt) ∧ w2.frozen? ⟨D, 3, none⟩ = false ∧ PRw (w2.setCell ⟨D, 3, none⟩ (.bool false)) base D S (dropL L t) wt q ∧ Kept w (w2.setCell ⟨D, 3, none⟩ (.bool false)) S S := fun w1 b1 => by
        have h1 := h.fresh b1
        have hq1 := hq.fresh b1
        have h71 := h7.keep (b1.block M (hq.bd M (h3 M rfl)).2)
        obtain ⟨w2, hd, hs2, hg2, hz2⟩ := set_del h71 ht 0
        obtain ⟨k1, k2⟩ := drop_fin h1 t htL hq1 h71 (h3 M rfl) h4 hs2 hg2 hz2
        have hc := (hq1.turnX h71 hg2).cells
        refine ⟨w2, hd, ?_, hc.2.2.2.1, k1, (Kept.of b1).trans k2⟩
        rw [hc.2.1, decide_eq_true hLp, Bool.and_true]
      have ST : Hid _ := st
      have hdl : (dropL L t).length ≤ L.length := by unfold dropL; exact List.length_filter_le _ _
      obtain ⟨dl, hdle⟩ : ∃ dl, dl = dropL L t := ⟨_, rfl⟩
      rw [← hdle] at hdl HU ST
      obtain ⟨i0, hi, hz0, hz1, hz2⟩ := info_parts infoI
      clear st h hb hq h2 h3 h4 h7 hLp htL hdle
      go_enter Try.func19, Try.ntmps19
      go_wp2_with (go_at_call 32; refine hh.mono ?_; rintro e w1 ⟨rfl, b1⟩; obtain ⟨w2, hdel, y3, x3, hp2, hk2⟩ := ST.out w1 b1; have z2 := (b1.cell (p := ⟨D, 2, none⟩) (by exact hD)).trans c2; have z3 := (b1.cell (p := ⟨D, 3, none⟩) (by exact hD)).trans c3)
      generalize hw3 : w2.setCell ⟨D, 3, none⟩ (.bool false) = w3 at *
      clear hw3 hdel y3 x3 z2 z3 ST hh c2 c3 f2 f3 b1
      go_loopw [8, 9] (fun g _ wr => ∃ (L' : List Int) (wt' : Bool) (q' : List Wt) (got : List Int) (S' : Nat → Prop), PRw wr base D S' L' wt' q' ∧ Kept w wr S S' ∧ wr.ownsRow w.heap.size 3 1 g got.length (intL got) ∧ (∀ x, g.ownBlock = some x → ¬ S' x) ∧ Hid (rwGo dl wt q = (got ++ (rwGo L' wt' q').1, (rwGo L' wt' q').2)) ∧ L'.length + q'.length < 65536 ∧ got.length + q'.length ≤ q.length) (fun _ _ wr => match wr.cell? ⟨D, 0, none⟩ with | some (.slice _ n _) => n | _ => 0)
      case atStart => exact ⟨dl, wt, q, [], S, hp2, hk2, World.ownsRow_nil _ _ _ _, fun x e => (by simp [Value.ownBlock] at e), by show _ = _; simp, by omega, by simp⟩
      case round =>
        obtain ⟨L', wt', q', got, S', hr, hk, hown, hne, HG, hN', hgq⟩ := hrel
        clear hp2 hk2
        have HLOW : Hid (∀ bk off n cap, 0 < n → u8 = .slice (some ⟨bk, off, none⟩) n cap → w.heap.size ≤ bk) := fun bk off n cap h0 e => (World.ownsRow.lt hown bk (by rw [e]; rfl)).1
        obtain ⟨pg, ng, mg, rfl⟩ := own_form hown
        have HO : Hid (World.ownsRow wr w.heap.size 3 1 (.slice pg ng mg) got.length (intL got)) := hown
        have HR : Hid _ := hr
        have ha : Calls Try.prog 28 #[.pointer (some ⟨D, 0, none⟩)] wr fun e w2 => e = .returned (.bool (decide (0 < q'.length))) ∧ wr = w2 := by
          obtain ⟨ho, hs, hq, _⟩ := hr.ex
          exact q_anybody hq
        cases q' with
        | nil =>
          have HG2 : Hid (rwU L wt q t rd = (got, L', wt', [])) := by
            show _ = _
            rw [HU.out, HG.out]
            simp [rwGo]
          rw [decide_eq_false (by simp)] at ha
          clear hr HG hown
          go_wp2_with (go_at_call 28; refine ha.mono ?_; rintro e w4 ⟨rfl, rfl⟩)
          go_ret2
          refine ⟨_, by rw [HZ.out]; rfl, ?_, HLOW.out, S', ?_, hk⟩
          · rw [HG2.out]
            exact RowAt.own (k := 1) (T := 3) (base := w.heap.size) intC_len (by rw [rowL_int]; exact HO.out)
          · rw [HG2.out]
            exact HR.out
        | cons p qs =>
          obtain ⟨x1, x2, x3⟩ := p
          rw [decide_eq_true (by simp)] at ha
          have hf : Calls Try.prog 34 #[.pointer (some ⟨D, 0, none⟩)] wr fun e w2 => e = .returned (.agg #[.int .i64 x1, .bool x2, .bool x3]) ∧ Below wr.heap.size wr w2 := by
            obtain ⟨ho, hs, hq, _⟩ := hr.ex
            exact q_first hq
          have hfr := field_reader x1 x2 x3
          have hm : ∀ w4, Below wr.heap.size wr w4 → Calls Try.prog 33 #[.pointer (some ⟨D, 0, none⟩), .bool x2] w4 fun e w5 => e = .returned (.bool (fitsB L' wt' x2)) ∧ w4 = w5 := fun w4 b4 => pr_room (hr.fresh b4) x2
          have HM : Hid _ := hm
          cases hfb : fitsB L' wt' x2 with
          | false =>
            have HG2 : Hid (rwU L wt q t rd = (got, L', wt', (x1, x2, x3) :: qs)) := by
              show _ = _
              rw [HU.out, HG.out, rwGo_stop L' wt' _ (fun y q' e => by cases e; exact hfb)]
              simp
            rw [hfb] at HM
            clear hr HG hown hm hfb
            go_wp2_with (first
              | (go_at_call 33; refine (HM.out _ b4).mono ?_; rintro e w5 ⟨rfl, rfl⟩)
              | (go_at_call 34; refine hf.mono ?_; rintro e w4 ⟨rfl, b4⟩)
              | (go_at_call 28; refine ha.mono ?_; rintro e w4 ⟨rfl, rfl⟩))
            go_ret2
            refine ⟨_, by rw [HZ.out]; rfl, ?_, HLOW.out, S', ?_, hk.trans (Kept.of b4)⟩
            · rw [HG2.out]
              exact (RowAt.own (k := 1) (T := 3) (base := w.heap.size) intC_len (by rw [rowL_int]; exact HO.out)).fresh b4
            · rw [HG2.out]
              exact HR.out.fresh b4
          | true =>
            have HG2 : Hid (rwGo dl wt q = (got ++ [x1] ++ (rwGo (putL L' x1) (!x2) qs).1, (rwGo (putL L' x1) (!x2) qs).2)) := by
              show _ = _
              rw [HG.out, rwGo_step L' wt' (x1, x2, x3) qs hfb]
              simp
            rw [hfb] at HM
            obtain ⟨hx1, hx2, hx3⟩ := hr.first
            have hlv : ∀ w4, Below wr.heap.size wr w4 → Calls Try.prog 29 #[.pointer (some ⟨D, 0, none⟩)] w4 fun e w5 => e = .returned (.agg #[.int .i64 x1, .bool x2, .bool x3]) ∧ ∃ S5, PRw w5 base D S5 L' wt' qs ∧ Kept wr w5 S' S5 := fun w4 b4 => (pr_leave (hr.fresh b4)).mono (fun e w5 ⟨h5, S5, h6, h7⟩ => ⟨h5, S5, h6, (Kept.of b4).trans h7⟩)
            have HLV : Hid _ := hlv
            have hhd : ∀ (w6 : World) (S5 : Nat → Prop), PRw w6 base D S5 L' wt' qs → Calls Try.prog 35 #[.pointer (some ⟨D, 0, none⟩), .int .i64 x1, .bool x2] w6 fun e w7 => e = .returned (.tuple #[]) ∧ ∃ S7, PRw w7 base D S7 (putL L' x1) (!x2) qs ∧ Kept w6 w7 S5 S7 := fun w6 S5 h6 => pr_hold h6 x1 x2 hx3 hx1 hx2 hfb (by rw [List.length_cons] at hN'; omega)
            have HHD : Hid _ := hhd
            have MS : Hid (((match wr.cell? ⟨D, 0, none⟩ with | some (.slice _ n _) => n | _ => 0) : Nat) = qs.length + 1) := by
              obtain ⟨ho, hs, hq, _⟩ := hr.ex
              obtain ⟨v, mo, ks, h1, h2, _⟩ := hq.ex
              obtain ⟨a, cap, rfl⟩ := h2.form
              have c0 : wr.cell? ⟨D, 0, none⟩ = some (.slice a ((x1, x2, x3) :: qs).length cap) := by simp [World.cell?, h1]
              show _ = _
              rw [c0]
              rfl
            have kk : ∀ (w5 w7 : World) (S5 S7 : Nat → Prop), PRw w5 base D S5 L' wt' qs → Kept wr w5 S' S5 → Kept (w5.alloc (.cells #[.int .i64 x1, .bool x2, .bool x3] 72)) w7 S5 S7 → w7.cell? ⟨w5.heap.size, 0, none⟩ = some (.int .i64 x1) ∧ w7.ownsRow w.heap.size 3 1 (.slice pg ng mg) got.length (intL got) ∧ (∀ z, (Value.slice pg ng mg).ownBlock = some z → ¬ S7 z) ∧ w.heap.size ≤ w7.heap.size ∧ Kept w w7 S S7 := fun w5 w7 S5 S7 hp5 hk5 hk7 => by
              have hn5 : ∀ z, (Value.slice pg ng mg).ownBlock = some z → ¬ S5 z := fun z e h5 => by
                rcases hk5.old z h5 with h6 | h6
                · exact hne z e h6
                · have := (World.ownsRow.lt hown z e).2
                  omega
              have hb5 : ∀ z, (Value.slice pg ng mg).ownBlock = some z → z < w5.heap.size := fun z e => Nat.lt_of_lt_of_le (World.ownsRow.lt hown z e).2 hk5.size
              have hkA : Kept w5 (w5.alloc (.cells #[.int .i64 x1, .bool x2, .bool x3] 72)) S5 S5 := Kept.of ((Below.refl _ w5).alloc (Nat.le_refl _) _)
              refine ⟨?_, own_keep hown (fun g e => ?_), fun z e h7 => ?_, ?_, (hk.trans hk5).trans (hkA.trans hk7)⟩
              · rw [World.cell?_of_block (a := ⟨w5.heap.size, 0, none⟩) (hk7.kept w5.heap.size (by simp) (fun e => by have := (hp5.bd _ e).2; omega))]
                exact World.cell?_alloc_new w5 _ _ 0
              · rw [hk7.kept g (by simp; have := hb5 g e; omega) (hn5 g e), Below.heap_alloc w5 _ g (hb5 g e), hk5.kept g (World.ownsRow.lt hown g e).2 (hne g e)]
              · rcases hk7.old z h7 with h6 | h6
                · exact hn5 z e h6
                · have := hb5 z e
                  simp at h6
                  omega
              · exact ((hk.trans hk5).trans (hkA.trans hk7)).size
            have KK : Hid _ := kk
            clear hr HG hown hm hfb hlv hhd kk
            go_wp2_with (first
              | (at_builtin; refine wpList_app_row (k := 1) (enc := intC) (l := [x1]) rfl (.tmp 57) (.tmp 60) 39 3 rfl i0 _ 8 Try.underlying39 hi hz0 hz1 hz2 rfl (by decide) intC_len intC_one rfl rfl (hO7.alloc _) (RowAt.built (heap_alloc_new w7 _) rfl 1 rfl rfl) (by simp; omega) (by simp; omega) (by simp; omega) ?_; intro u8' w8 h8 k8)
              | (go_at_call 35; refine (HHD.out _ S5 (hp5.fresh ((Below.refl _ w5).alloc (Nat.le_refl _) _))).mono ?_; rintro e w7 ⟨rfl, S7, hp7, hk7⟩; obtain ⟨zB, hO7, hN7, hs7, hk07⟩ := KK.out w5 w7 S5 S7 hp5 hk5 hk7)
              | (go_at_call 29; refine (HLV.out _ b4).mono ?_; rintro e w5 ⟨rfl, S5, hp5, hk5⟩)
              | (go_at_call 33; refine (HM.out _ b4).mono ?_; rintro e w5 ⟨rfl, rfl⟩)
              | (go_at_call 34; refine hf.mono ?_; rintro e w4 ⟨rfl, b4⟩)
              | (go_at_call 28; refine ha.mono ?_; rintro e w4 ⟨rfl, rfl⟩))
            have hp8 : PRw w8 base D S7 (putL L' x1) (!x2) qs := hp7.keep (Nat.le_trans (by simp) k8.below.size) (fun c hc => by
              have hlt := (hp7.bd c hc).2
              rw [k8.rest c (by simp; omega) (fun e => hN7 c e.symm hc), Below.heap_alloc w7 _ c hlt])
            have b8 : Below w.heap.size w7 w8 := ((Below.refl _ w7).alloc hs7 _).trans k8.below
            have hk8 : Kept w w8 S S7 := ⟨b8.os.trans hk07.os, b8.tape.trans hk07.tape, b8.output.trans hk07.output, Nat.le_trans hs7 b8.size, hk07.old, fun c hc hn => by
              rw [b8.block c hc]
              exact hk07.kept c hc hn⟩
            have M8 : Hid (((match w8.cell? ⟨D, 0, none⟩ with | some (.slice _ n _) => n | _ => 0) : Nat) = qs.length) := by
              obtain ⟨ho, hs, hq, _⟩ := hp8.ex
              obtain ⟨v, mo, ks, h1, h2, _⟩ := hq.ex
              obtain ⟨a, cap, rfl⟩ := h2.form
              have c0 : w8.cell? ⟨D, 0, none⟩ = some (.slice a qs.length cap) := by simp [World.cell?, h1]
              show _ = _
              rw [c0]
            go_roundw
            case rel =>
              refine ⟨putL L' x1, !x2, qs, got ++ [x1], S7, hp8, hk8, ?_, fun z e h9 => ?_, HG2, ?_, ?_⟩
              · have e4 : intL (got ++ [x1]) = intL got ++ rowL intC [x1] := by rw [rowL_int]; unfold intL; simp
                rw [e4, List.length_append]
                exact h8
              · rcases k8.lies with h6 | h6
                · rw [h6] at e
                  exact hN7 z e h9
                · rw [h6] at e
                  simp at e
                  have := (hp7.bd z h9).2
                  omega
              · rw [putL_length]
                simp at hN'
                omega
              · simp at hgq ⊢
                omega
            case measure =>
              rw [M8.out, MS.out]
              omega
end
end Go.Proofs.Ytlcacjekpdmigaa
