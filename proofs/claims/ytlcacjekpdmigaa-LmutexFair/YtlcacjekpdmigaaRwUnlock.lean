/-
  The document's rwlock (package latchkeyref08), unlocked: those that have it then, who holds it, who waits. The condition: fewer than 65536 hold it or wait.
-/
import Derived.Test.YtlcacjekpdmigaaRwLock
namespace Go.Proofs.Ytlcacjekpdmigaa
open Go.RowKit

/-- Those at the front that may have it get it: who got it, and the state. -/
def rwGo : List Int → Bool → List Wt → List Int × List Int × Bool × List Wt
  | L, wt, [] => ([], L, wt, [])
  | L, wt, x :: q => if fitsB L wt x.2.1 = true then (x.1 :: (rwGo (putL L x.1) (!x.2.1) q).1, (rwGo (putL L x.1) (!x.2.1) q).2) else ([], L, wt, x :: q)
theorem rwGo_stop (L : List Int) (wt : Bool) (q : List Wt) (h : ∀ x q', q = x :: q' → fitsB L wt x.2.1 = false) : rwGo L wt q = ([], L, wt, q) := by
  cases q with
  | nil => rfl
  | cons x q =>
    unfold rwGo
    rw [h x q rfl]
    rfl
theorem rwGo_step (L : List Int) (wt : Bool) (x : Wt) (q : List Wt) (h : fitsB L wt x.2.1 = true) : rwGo L wt (x :: q) = (x.1 :: (rwGo (putL L x.1) (!x.2.1) q).1, (rwGo (putL L x.1) (!x.2.1) q).2) := by
  rw [rwGo, if_pos h]
def rwUE (L : List Int) (wt : Bool) (t : Int) (rd : Bool) : Bool := !hasB L t || (wt == rd)
def rwUZ (L : List Int) (wt : Bool) (t : Int) (rd : Bool) : Int := if rwUE L wt t rd = true then 13 else 0
/-- Who got it, and the state behind it. -/
def rwU (L : List Int) (wt : Bool) (q : List Wt) (t : Int) (rd : Bool) : List Int × List Int × Bool × List Wt := if rwUE L wt t rd = true then ([], L, wt, q) else rwGo (dropL L t) wt q
theorem dropL_mem {l : List Int} {n x : Int} (h : x ∈ dropL l n) : x ∈ l := (List.mem_filter.1 h).1
section
variable {w : World} {base D : Nat} {S : Nat → Prop} {L : List Int} {wt : Bool} {q : List Wt}
set_option maxHeartbeats 6400000 in
set_option maxRecDepth 100000 in
theorem rwunlock_any (h : RwAt w base D S L wt q) (t : Int) (rd : Bool) (hN : L.length + q.length < 65536) :
    Calls Try.prog 20 #[.pointer (some ⟨D, 0, none⟩), .int .i64 t, .bool rd] w fun e w' => ∃ u, e = .returned (.tuple #[u, .int .i64 (rwUZ L wt t rd)]) ∧ RowAt intC w' u (rwU L wt q t rd).1 ∧ ∃ S', RwAt w' base D S' (rwU L wt q t rd).2.1 (rwU L wt q t rd).2.2.1 (rwU L wt q t rd).2.2.2 ∧ Kept w w' S S' := by
  obtain ⟨a, cap, b, cap2, hb, c0, c1, c2, f0, f1, f2, hl, hq, hD⟩ := h.cells
  have hi := hl.at'.ints h.lo (by omega)
  have hh := (has_any w _ L t hi).mono (fun e w' h => (⟨h.1, h.2.symm⟩ : e = .returned (.bool (hasB L t)) ∧ w = w'))
  have HC : Hid _ := h
  cases hE : rwUE L wt t rd with
  | true =>
    have HZ : Hid (rwUZ L wt t rd = 13) := by show _ = _; unfold rwUZ; rw [hE]; rfl
    have HU : Hid (rwU L wt q t rd = ([], L, wt, q)) := by show _ = _; unfold rwU; rw [hE]; rfl
    unfold rwUE at hE
    clear hb hl hq h hi
    cases hHas : hasB L t with
    | false =>
      rw [hHas] at hh
      clear hE hHas
      go_enter Try.func20, Try.ntmps20
      go_wp2_with (go_at_call 26; refine hh.mono ?_; rintro e w1 ⟨rfl, rfl⟩)
      go_ret2
      exact ⟨_, by rw [HZ.out]; rfl, by rw [HU.out]; exact RowAt.nil w, S, by rw [HU.out]; exact HC.out, Kept.refl _ _⟩
    | true =>
      rw [hHas] at hh hE
      have q2 : (wt == rd) = true := by simpa using hE
      clear hE hHas
      go_enter Try.func20, Try.ntmps20
      go_wp2_with (go_at_call 26; refine hh.mono ?_; rintro e w1 ⟨rfl, rfl⟩)
      go_ret2
      exact ⟨_, by rw [HZ.out]; rfl, by rw [HU.out]; exact RowAt.nil w, S, by rw [HU.out]; exact HC.out, Kept.refl _ _⟩
  | false =>
    have HZ : Hid (rwUZ L wt t rd = 0) := by show _ = _; unfold rwUZ; rw [hE]; rfl
    have HU : Hid (rwU L wt q t rd = rwGo (dropL L t) wt q) := by show _ = _; unfold rwU; rw [hE]; rfl
    unfold rwUE at hE
    simp only [Bool.or_eq_false_iff, Bool.not_eq_false'] at hE
    obtain ⟨hHas, q2⟩ := hE
    rw [hHas] at hh
    have hd := drop_any w _ L t hi (by omega)
    have hdl := dropL_le L t
    have fin : ∀ (w1 : World) (u : Value), w1.ownsRow w.heap.size 3 1 u (dropL L t).length (intL (dropL L t)) → Below w.heap.size w w1 → ∃ S', RwAt (w1.setCell ⟨D, 0, none⟩ u) base D S' (dropL L t) wt q ∧ Kept w (w1.setCell ⟨D, 0, none⟩ u) S S' := fun w1 u ho b1 =>
      ⟨_, h.setL b1 (OwnRow.new (k := 1) (T := 3) intC_len (by rw [rowL_int]; exact ho) hD (fun x h1 h2 => Or.inr ⟨h1, h2⟩)) (fun x hx => h.lo x (dropL_mem hx)), h.kept1 b1 0 u⟩
    have FIN : Hid _ := fin
    obtain ⟨i0, hi, hz0, hz1, hz2⟩ := info_parts infoI
    obtain ⟨i1, hj, hy0, hy1, hy2⟩ := info_parts infoW
    have HDL : Hid (∃ dl, dl = dropL L t) := ⟨_, rfl⟩
    obtain ⟨dl, hdle⟩ := HDL.out
    rw [← hdle] at hdl
    have HDE : Hid _ := hdle
    clear fin hb hl hq h hHas hdle
    go_enter Try.func20, Try.ntmps20
    go_wp2_with (first
      | (go_at_call 36; refine hd.mono ?_; rintro e w1 ⟨u, rfl, ho, b1⟩; obtain ⟨p1, n1, m1, rfl⟩ := own_form ho; have z0 := (b1.cell (p := ⟨D, 0, none⟩) (by exact hD)).trans c0; have y0 := (b1.frozen (p := ⟨D, 0, none⟩) (by exact hD)).trans f0)
      | (go_at_call 26; refine hh.mono ?_; rintro e w1 ⟨rfl, rfl⟩))
    obtain ⟨S1, hr1, hk1⟩ := FIN.out _ _ ho b1
    rw [← HDE.out] at hr1 HU
    generalize hw2 : w1.setCell ⟨D, 0, none⟩ (.slice p1 n1 m1) = w2 at *
    clear hw2 hd hh ho b1 z0 y0 c0 c1 c2 f0 f1 f2 FIN HDE HDL
    go_loopw [8] (fun g wr => ∃ (L' : List Int) (wt' : Bool) (q' : List Wt) (got : List Int) (S' : Nat → Prop), RwAt wr base D S' L' wt' q' ∧ Kept w wr S S' ∧ wr.ownsRow w.heap.size 3 1 g got.length (intL got) ∧ (∀ x, g.ownBlock = some x → ¬ S' x) ∧ Hid (rwGo dl wt q = (got ++ (rwGo L' wt' q').1, (rwGo L' wt' q').2)) ∧ L'.length + q'.length < 65536 ∧ got.length + q'.length ≤ q.length) (fun _ wr => match wr.cell? ⟨D, 2, none⟩ with | some (.slice _ n _) => n | _ => 0)
    case atStart => exact ⟨dl, wt, q, [], S1, hr1, hk1, World.ownsRow_nil _ _ _ _, fun x e => (by simp [Value.ownBlock] at e), by show _ = _; simp, by omega, by simp⟩
    case round =>
      obtain ⟨L', wt', q', got, S', hr, hk, hown, hne, HG, hN', hgq⟩ := hrel
      clear hr1 hk1
      obtain ⟨pg, ng, mg, rfl⟩ := own_form hown
      obtain ⟨a', cap', b', cap2, hb, c0, c1, c2, f0, f1, f2, hl, hq, hD2⟩ := hr.cells
      have HR : Hid _ := hr
      cases q' with
      | nil =>
        have HG2 : Hid (rwU L wt q t rd = (got, L', wt', [])) := by
          show _ = _
          rw [HU.out, HG.out]
          simp [rwGo]
        have hlen : ([] : List Wt).length = 0 := rfl
        rw [hlen] at c2
        have HO : Hid _ := hown
        clear hb hl hq hr HG hown
        go_wp2
        go_ret2
        refine ⟨_, by rw [HZ.out]; rfl, ?_, S', ?_, hk⟩
        · rw [HG2.out]
          exact RowAt.own (k := 1) (T := 3) (base := w.heap.size) intC_len (by rw [rowL_int]; exact HO.out)
        · rw [HG2.out]
          exact HR.out
      | cons x qs =>
        obtain ⟨bk, off, cp, e, hcap, hbk, hx⟩ := hq.at'.cells waitC_len (by simp)
        simp only [Value.slice.injEq] at e
        obtain ⟨rfl, _, rfl⟩ := e
        have z1 : wr.cell? ⟨bk, off, none⟩ = some (.int .i64 x.1) := hx 0 (by simp) 0 _ (by decide) rfl
        have z2 : wr.cell? ⟨bk, off + 1, none⟩ = some (.bool x.2.1) := hx 0 (by simp) 1 _ (by decide) rfl
        have hlen : (x :: qs).length = qs.length + 1 := rfl
        rw [hlen] at c2
        have hf := rfits_any hr x.2.1
        have q0 : decide ((0 : Int) < ((qs.length + 1 : Nat) : Int)) = true := decide_eq_true (by omega)
        cases hfb : fitsB L' wt' x.2.1 with
        | false =>
          rw [hfb] at hf
          have HG2 : Hid (rwU L wt q t rd = (got, L', wt', x :: qs)) := by
            show _ = _
            rw [HU.out, HG.out, rwGo_stop L' wt' (x :: qs) (fun y q' e => by cases e; exact hfb)]
            simp
          have HO : Hid _ := hown
          obtain ⟨x1, x2, x3⟩ := x
          simp only at z1 z2 hf
          clear hb hl hq hr HG hown hx hfb
          go_wp2_with (go_at_call 37; refine hf.mono ?_; rintro e w3 ⟨rfl, rfl⟩)
          go_ret2
          refine ⟨_, by rw [HZ.out]; rfl, ?_, S', ?_, hk⟩
          · rw [HG2.out]
            exact RowAt.own (k := 1) (T := 3) (base := w.heap.size) intC_len (by rw [rowL_int]; exact HO.out)
          · rw [HG2.out]
            exact HR.out
        | true =>
          rw [hfb] at hf
          have HG2 : Hid (rwGo dl wt q = (got ++ [x.1] ++ (rwGo (putL L' x.1) (!x.2.1) qs).1, (rwGo (putL L' x.1) (!x.2.1) qs).2)) := by
            show _ = _
            rw [HG.out, rwGo_step L' wt' x qs hfb]
            simp
          have hg := rgive_any hr.drew x.1 (hr.qlo x (by simp)) x.2.1 (by simp at hN'; omega)
          have hxo := hr.qlo x (by simp)
          have HQL : Hid _ := hr.qlo
          obtain ⟨x1, x2, x3⟩ := x
          simp only at z1 z2 hf hg HG2
          have HO : Hid (wr.ownsRow w.heap.size 3 1 (.slice pg ng mg) got.length (intL got)) := hown
          have hbD := (hq.own bk off _ cap2 (by simp) rfl).2
          obtain ⟨v8, hsl0, hq8⟩ := hq.from 49 72 i1 Try.underlying49 (by kernel_rfl) hj hy1 waitC_len 1 (by simp)
          have hsl : ∀ w', (Instr.sliceAt 49 (.slice (some ⟨bk, off, none⟩) (qs.length + 1) cap2) (some (.int .i64 1)) none none).run Try.prog w' = .ok v8 w' := hsl0
          obtain ⟨a8, n8, c8, rfl⟩ : ∃ a8 n8 c8, v8 = .slice a8 n8 c8 := by
            obtain ⟨a8, c8, e8⟩ := hq8.at'.form
            exact ⟨a8, _, c8, e8⟩
          have HQ8 : Hid (OwnRow waitC wr S' D (.slice a8 n8 c8) qs) := hq8
          have hDS := hr.sD
          have hk5lt : ∀ b, S' b → b < wr.heap.size := fun b hb => (hr.bd b hb).2
          have hk5lt' : Hid _ := hk5lt
          clear hk5lt
          have hlD := (hr.bd D hDS).2
          clear hsl0 hq8
          clear hb hl hq hr HG hown hx hfb
          go_wp2_with (go_at_call 37; refine hf.mono ?_; rintro e w3 ⟨rfl, rfl⟩)
          refine wp_region_held_drew (S := (fun w' : World => w'.cell? ⟨D, 2, none⟩ = some (.slice (some ⟨bk, off, none⟩) (qs.length + 1) cap2) ∧ w'.cell? ⟨bk, off, none⟩ = some (.int .i64 x1) ∧ w'.cell? ⟨bk, off + 1, none⟩ = some (.bool x2))) (by kernel_rfl) ?_ (fun hHeld0 => ?_)
          · try dsimp only
            go_keep
          refine tk0 (.pointer (some ⟨D, 0, none⟩)) (by kernel_rfl) (by kernel_rfl) (by kernel_rfl) (fun _ _ _ h => h) rfl (fun w hSw => by (try dsimp only at hSw); obtain ⟨q0, q1, q2⟩ := hSw; go_simp) (by assumption) ?_
          try simp only [Act.put, List.setIfInBounds_toArray, List.set_cons_zero, List.set_cons_succ]
          refine tk1 (.pointer (some ⟨D, 0, none⟩)) (by kernel_rfl) (by kernel_rfl) (by kernel_rfl) (fun _ _ _ h => h) rfl (fun w hSw => by (try dsimp only at hSw); obtain ⟨q0, q1, q2⟩ := hSw; go_simp) (by assumption) ?_
          try simp only [Act.put, List.setIfInBounds_toArray, List.set_cons_zero, List.set_cons_succ]
          refine tk2 (.pointer (some ⟨D, 0, none⟩)) (by kernel_rfl) (by kernel_rfl) (by kernel_rfl) (fun _ _ _ h => h) rfl (fun w hSw => by (try dsimp only at hSw); obtain ⟨q0, q1, q2⟩ := hSw; go_simp) (by assumption) ?_
          try simp only [Act.put, List.setIfInBounds_toArray, List.set_cons_zero, List.set_cons_succ]
          refine tk3 (.pointer (some ⟨D, 2, none⟩)) (by kernel_rfl) (by kernel_rfl) (by kernel_rfl) (fun _ _ _ h => h) rfl (fun w hSw => by (try dsimp only at hSw); obtain ⟨q0, q1, q2⟩ := hSw; go_simp) (by assumption) ?_
          try simp only [Act.put, List.setIfInBounds_toArray, List.set_cons_zero, List.set_cons_succ]
          refine tk4 (.slice (some ⟨bk, off, none⟩) (qs.length + 1) cap2) (by kernel_rfl) (by kernel_rfl) (by kernel_rfl) (fun _ _ _ h => h) rfl (fun w hSw => by (try dsimp only at hSw); obtain ⟨q0, q1, q2⟩ := hSw; go_simp) (by assumption) ?_
          try simp only [Act.put, List.setIfInBounds_toArray, List.set_cons_zero, List.set_cons_succ]
          refine tk5 (.pointer (some ⟨bk, off, none⟩)) (by kernel_rfl) (by kernel_rfl) (by kernel_rfl) (fun _ _ _ h => h) rfl (fun w hSw => by (try dsimp only at hSw); obtain ⟨q0, q1, q2⟩ := hSw; go_simp) (by assumption) ?_
          try simp only [Act.put, List.setIfInBounds_toArray, List.set_cons_zero, List.set_cons_succ]
          refine tk6 (.pointer (some ⟨bk, off, none⟩)) (by kernel_rfl) (by kernel_rfl) (by kernel_rfl) (fun _ _ _ h => h) rfl (fun w hSw => by (try dsimp only at hSw); obtain ⟨q0, q1, q2⟩ := hSw; go_simp) (by assumption) ?_
          try simp only [Act.put, List.setIfInBounds_toArray, List.set_cons_zero, List.set_cons_succ]
          refine tk7 (.int .i64 x1) (by kernel_rfl) (by kernel_rfl) (by kernel_rfl) (fun _ _ _ h => h) rfl (fun w hSw => by (try dsimp only at hSw); obtain ⟨q0, q1, q2⟩ := hSw; go_simp) (by assumption) ?_
          try simp only [Act.put, List.setIfInBounds_toArray, List.set_cons_zero, List.set_cons_succ]
          refine tk8 (.pointer (some ⟨D, 0, none⟩)) (by kernel_rfl) (by kernel_rfl) (by kernel_rfl) (fun _ _ _ h => h) rfl (fun w hSw => by (try dsimp only at hSw); obtain ⟨q0, q1, q2⟩ := hSw; go_simp) (by assumption) ?_
          try simp only [Act.put, List.setIfInBounds_toArray, List.set_cons_zero, List.set_cons_succ]
          refine tk9 (.pointer (some ⟨D, 0, none⟩)) (by kernel_rfl) (by kernel_rfl) (by kernel_rfl) (fun _ _ _ h => h) rfl (fun w hSw => by (try dsimp only at hSw); obtain ⟨q0, q1, q2⟩ := hSw; go_simp) (by assumption) ?_
          try simp only [Act.put, List.setIfInBounds_toArray, List.set_cons_zero, List.set_cons_succ]
          refine tk10 (.pointer (some ⟨D, 2, none⟩)) (by kernel_rfl) (by kernel_rfl) (by kernel_rfl) (fun _ _ _ h => h) rfl (fun w hSw => by (try dsimp only at hSw); obtain ⟨q0, q1, q2⟩ := hSw; go_simp) (by assumption) ?_
          try simp only [Act.put, List.setIfInBounds_toArray, List.set_cons_zero, List.set_cons_succ]
          refine tk11 (.slice (some ⟨bk, off, none⟩) (qs.length + 1) cap2) (by kernel_rfl) (by kernel_rfl) (by kernel_rfl) (fun _ _ _ h => h) rfl (fun w hSw => by (try dsimp only at hSw); obtain ⟨q0, q1, q2⟩ := hSw; go_simp) (by assumption) ?_
          try simp only [Act.put, List.setIfInBounds_toArray, List.set_cons_zero, List.set_cons_succ]
          refine tk12 (.pointer (some ⟨bk, off, none⟩)) (by kernel_rfl) (by kernel_rfl) (by kernel_rfl) (fun _ _ _ h => h) rfl (fun w hSw => by (try dsimp only at hSw); obtain ⟨q0, q1, q2⟩ := hSw; go_simp) (by assumption) ?_
          try simp only [Act.put, List.setIfInBounds_toArray, List.set_cons_zero, List.set_cons_succ]
          refine tk13 (.pointer (some ⟨bk, off + 1, none⟩)) (by kernel_rfl) (by kernel_rfl) (by kernel_rfl) (fun _ _ _ h => h) rfl (fun w hSw => by (try dsimp only at hSw); obtain ⟨q0, q1, q2⟩ := hSw; go_simp) (by assumption) ?_
          try simp only [Act.put, List.setIfInBounds_toArray, List.set_cons_zero, List.set_cons_succ]
          refine tk14 (.bool x2) (by kernel_rfl) (by kernel_rfl) (by kernel_rfl) (fun _ _ _ h => h) rfl (fun w hSw => by (try dsimp only at hSw); obtain ⟨q0, q1, q2⟩ := hSw; go_simp) (by assumption) ?_
          try simp only [Act.put, List.setIfInBounds_toArray, List.set_cons_zero, List.set_cons_succ]
          refine cl15 (by kernel_rfl) rfl (fun K hK => ?_)
          go_simp
          go_at_call 38
          refine hg.mono ?_
          rintro e w5 ⟨rfl, S5, hr5, hk5, hs5, hf5, hc5⟩
          have y2 : w5.cell? ⟨D, 2, none⟩ = some (.slice (some ⟨bk, off, none⟩) (qs.length + 1) cap2) := hc5.trans c2
          have yb := hf5 bk hbk hbD
          have y3 : w5.cell? ⟨bk, off, none⟩ = some (.int .i64 x1) := (World.cell?_of_block yb).trans z1
          have y4 : w5.cell? ⟨bk, off + 1, none⟩ = some (.bool x2) := (World.cell?_of_block yb).trans z2
          refine hK.out _ _ ?_ (fun hHeld => ?_)
          · exact ⟨y2, y3, y4⟩
          clear hK K
          try simp only [Act.put, List.setIfInBounds_toArray, List.set_cons_zero, List.set_cons_succ]
          refine wpAnyH_done (by kernel_rfl) ?_ _
          have hown5 : w5.ownsRow w.heap.size 3 1 (.slice pg ng mg) got.length (intL got) := own_keep HO.out (fun g e => hk5.kept g (World.ownsRow.lt HO.out g e).2 (hne g e))
          have HN5 : Hid (∀ x, (Value.slice pg ng mg).ownBlock = some x → ¬ S5 x) := fun x e h5 => by
            rcases hk5.old x h5 with h6 | h6
            · exact hne x e h6
            · have := (World.ownsRow.lt HO.out x e).2
              have h7 : wr.heap.size ≤ x := h6
              omega
          have hws : w.heap.size ≤ w5.heap.size := Nat.le_trans hk.size hk5.size
          have HRR : Hid _ := hr5
          have f25 : w5.frozen? ⟨D, 2, none⟩ = false := by
            obtain ⟨_, _, _, _, _, _, _, _, _, _, f, _⟩ := hr5.cells
            exact f
          have hD5 : D < w5.heap.size := (hr5.bd D hr5.sD).2
          clear hr5 yb
          go_wp2_with (at_builtin; refine wpList_app_row (k := 1) (enc := intC) (l := [x1]) rfl (.tmp 66) (.tmp 74) 39 3 rfl i0 _ 8 Try.underlying39 hi hz0 hz1 hz2 rfl (by decide) intC_len intC_one rfl rfl (hown5.alloc _) (RowAt.built (heap_alloc_new w5 _) rfl 1 rfl rfl) (by simp; omega) (by simp; omega) (by simp; omega) ?_; intro u6 w6 h6 k6; have hDg : some D ≠ (Value.slice pg ng mg).ownBlock := (fun e => HN5.out D e.symm HRR.out.sD); have y6 := ((World.cell?_of_block (k6.rest D (by simp; omega) hDg)).trans ((World.cell?_of_block (heap_alloc_old _ _ hD5)).trans y2)); have f6 := ((World.frozen?_of_block (k6.rest D (by simp; omega) hDg)).trans ((World.frozen?_of_block (heap_alloc_old _ _ hD5)).trans f25)))
          have hr6 : RwAt w6 base D S5 (putL L' x1) (!x2) ((x1, x2, x3) :: qs) := HRR.out.keep (Nat.le_trans (by simp) k6.below.size) (fun b hb => by
            have hlt := (HRR.out.bd b hb).2
            rw [k6.rest b (by simp; omega) (fun e => HN5.out b e.symm hb), heap_alloc_old _ _ hlt])
          have hq6 : OwnRow waitC w6 S5 D (.slice a8 n8 c8) qs := (HQ8.out.keep (w' := w6) (Nat.le_trans hk5.size (Nat.le_trans (by simp) k6.below.size)) (fun b hb hbD2 => by
            have hlt : b < wr.heap.size := hk5lt'.out b hb
            have hlt5 : b < w5.heap.size := Nat.lt_of_lt_of_le hlt hk5.size
            rw [k6.rest b (by simp; omega) (fun e => HN5.out b e.symm (hs5 b hb)), heap_alloc_old _ _ hlt5]
            exact hf5 b hlt hbD2)).grow hs5
          have hq7 := hr6.setQ (Below.refl _ _) (hq6.grow (fun b hb => Or.inl hb)) (fun y hy => HQL.out y (List.mem_cons_of_mem _ hy))
          have hk7 := hr6.kept1 (Below.refl _ _) 2 (.slice a8 n8 c8)
          have b6 : Below w.heap.size w5 w6 := ((Below.refl _ w5).alloc hws _).trans k6.below
          have hk6 : Kept w w6 S S5 := ⟨b6.os.trans (hk5.os.trans hk.os), b6.tape.trans (hk5.tape.trans hk.tape), b6.output.trans (hk5.output.trans hk.output), Nat.le_trans hws b6.size, fun b hb => by
            rcases hk5.old b hb with h | h
            · exact hk.old b h
            · exact Or.inr (Nat.le_trans hk.size h), fun b hb hn => by
            rw [b6.block b hb]
            refine (hk5.kept b (Nat.lt_of_lt_of_le hb hk.size) (fun h => ?_)).trans (hk.kept b hb hn)
            rcases hk.old b h with h | h
            · exact hn h
            · omega⟩
          go_roundw
          case rel =>
            refine ⟨putL L' x1, !x2, qs, got ++ [x1], _, hq7, hk6.trans hk7, ?_, fun x e h7 => ?_, HG2, ?_, ?_⟩
            · have e4 : intL (got ++ [x1]) = intL got ++ rowL intC [x1] := by rw [rowL_int]; unfold intL; simp
              rw [e4, List.length_append]
              exact own_keep h6 (fun g e => by
                refine heap_setCell_other _ _ _ _ ?_
                show g ≠ D
                intro eD
                subst eD
                rcases k6.lies with h8 | h8
                · rw [h8] at e
                  exact hDg e.symm
                · rw [h8] at e
                  simp at e
                  omega)
            · have h5 : S5 x := by
                rcases h7 with h7 | h7
                · exact h7
                · omega
              rcases k6.lies with h8 | h8
              · rw [h8] at e
                exact HN5.out x e h5
              · rw [h8] at e
                simp at e
                have := (HRR.out.bd x h5).2
                omega
            · rw [putL_length]
              simp at hN'
              omega
            · simp at hgq ⊢
              omega
          case measure =>
            have e1 : (w6.setCell ⟨D, 2, none⟩ (.slice a8 n8 c8)).cell? ⟨D, 2, none⟩ = some (.slice a8 n8 c8) := by
              obtain ⟨_, _, _, _, hb6, _⟩ := hr6.cells
              simp [World.cell?, heap_setCell_same _ D 2 _ _ _ hb6]
            obtain ⟨a9, c9, e9⟩ := HQ8.out.at'.form
            simp only [Value.slice.injEq] at e9
            simp only [e1, c2]
            omega
end
end Go.Proofs.Ytlcacjekpdmigaa
