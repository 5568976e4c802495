/-
  ProposerPlays walked: any deeds on a proposer, the program held against the document. The condition: a text has at most 2^48 bytes.
-/
import Derived.Test.YtmlgoecdefeapaaPPxDuo
import Derived.Test.YtmlgoecdefeapaaPPxAwake
namespace Go.Proofs.Ytmlgoecdefeapaa
open Go.RowKit

set_option maxHeartbeats 25600000 in
set_option maxRecDepth 100000 in
theorem plays_walk (w : World) (n b f : Int) (v : Value) (l : List Pd) (hr : RowAt pdC w v l) (hm : l.length ≤ 9223372036854775807) (hok : ∀ x ∈ l, PdOk w x) : Calls Try.prog 3 #[.agg #[.int .i64 n, .int .i64 b, .int .i64 f], v] w fun e w' => e = .returned (.bool true) ∧ Below w.heap.size w w' := by
  obtain ⟨va, vc, rfl⟩ := hr.form
  obtain ⟨W, hW⟩ : ∃ W, W = w.alloc (.cells #[.int .i64 n, .int .i64 b, .int .i64 f] 22) := ⟨_, rfl⟩
  obtain ⟨B0, hB0⟩ : ∃ B, B = w.heap.size := ⟨_, rfl⟩
  have bW : Below w.heap.size w W := by rw [hW]; exact (Below.refl _ w).alloc (Nat.le_refl _) _
  have aW : W.heap[B0]? = some (.cells #[.int .i64 n, .int .i64 b, .int .i64 f] 22 (0, 0)) := by rw [hW, hB0]; exact heap_alloc_new w _
  have HR : Hid (∀ y, Below W.heap.size W y → RowAt pdC y (.slice va l.length vc) l) := fun y b => (hr.fresh bW).fresh b
  have HOK : Hid (∀ x ∈ l, PdOk W x) := fun x hx => ⟨(hok x hx).row.fresh bW, (hok x hx).who, (hok x hx).slot, (hok x hx).names, (hok x hx).name, (hok x hx).len⟩
  have HW : Hid (w.alloc (.cells #[.int .i64 n, .int .i64 b, .int .i64 f] 22) = W) := hW.symm
  have HB0 : Hid (w.heap.size = B0) := hB0.symm
  have HBW : Hid (Below w.heap.size w W) := bW
  have DC0 : ∀ y : World, y.heap[B0]? = W.heap[B0]? → y.cell? ⟨B0, 0, none⟩ = some (.int .i64 n) ∧ y.cell? ⟨B0, 1, none⟩ = some (.int .i64 b) ∧ y.cell? ⟨B0, 2, none⟩ = some (.int .i64 f) := fun y e => by
    have h := e.trans aW
    exact ⟨by simp [World.cell?, h], by simp [World.cell?, h], by simp [World.cell?, h]⟩
  obtain ⟨x0, x1, x2⟩ := DC0 W rfl
  have DC : Hid (∀ y : World, Below W.heap.size W y → y.cell? ⟨B0, 0, none⟩ = some (.int .i64 n) ∧ y.cell? ⟨B0, 1, none⟩ = some (.int .i64 b) ∧ y.cell? ⟨B0, 2, none⟩ = some (.int .i64 f)) := fun y bl => DC0 y (bl.block B0 (lt_of_block aW))
  have qf := few_any W n f (.slice va l.length vc) l (HR.out W (Below.refl _ _)) (fun x hx => (HOK.out x hx).row) hm (fun x hx => (HOK.out x hx).len)
  have QF : Hid _ := qf
  clear hW bW aW hr hok DC0 qf hB0
  go_enter Try.func3, Try.ntmps3
  go_upto_region 1 with fail
  rw [HW.out, HB0.out]
  go_cut [16] (fun r wc => ∃ c : Bool, r = .bool (!c) ∧ (c = true → FewF n f l) ∧ wc = W)
  case first =>
    go_wp2_with (go_at_call 7; refine Calls.mono QF.out ?_; intro r w1 h1; obtain ⟨c, e1, hc, hw1⟩ := h1.ex; subst e1; rw [hw1]; clear h1 hw1)
    go_meet
    exact ⟨c, rfl, hc, rfl⟩
  case rest =>
    obtain ⟨c, rfl, hc, hwc⟩ := hcut
    rw [hwc]
    clear hwc
    cases c with
    | false =>
      clear QF hc
      go_wp2_with (go_at_call 8; refine (awake_any _).mono ?_; rintro xx w3 ⟨rfl, b3⟩; have B3 : Hid _ := b3; clear b3)
      go_ret
      exact ⟨rfl, HBW.out.trans (B3.out.mono HBW.out.size)⟩
    | true =>
      have HFF : Hid (FewF n f l) := hc rfl
      clear hc QF
      go_upto_region 3 with fail
      refine wp_region_held_drew (S := (fun y : World => y.cell? ⟨B0, 0, none⟩ = some (.int .i64 n) ∧ y.cell? ⟨B0, 1, none⟩ = some (.int .i64 b) ∧ y.cell? ⟨B0, 2, none⟩ = some (.int .i64 f))) (by kernel_rfl) ?_ (fun hHeld0 => ?_)
      · try dsimp only
        exact ⟨by assumption, by assumption, by assumption⟩
      refine tk0 (.pointer (some ⟨B0, 0, none⟩)) (by kernel_rfl) (by kernel_rfl) (by kernel_rfl) (fun _ _ _ h => h) rfl (fun w hSw => by (try dsimp only at hSw); obtain ⟨s0, s1, s2⟩ := hSw; go_simp) (by assumption) ?_
      try simp only [Act.put, List.setIfInBounds_toArray, List.set_cons_zero, List.set_cons_succ]
      refine tk1 (.int .i64 n) (by kernel_rfl) (by kernel_rfl) (by kernel_rfl) (fun _ _ _ h => h) rfl (fun w hSw => by (try dsimp only at hSw); obtain ⟨s0, s1, s2⟩ := hSw; go_simp) (by assumption) ?_
      try simp only [Act.put, List.setIfInBounds_toArray, List.set_cons_zero, List.set_cons_succ]
      refine tk2 (.pointer (some ⟨B0, 1, none⟩)) (by kernel_rfl) (by kernel_rfl) (by kernel_rfl) (fun _ _ _ h => h) rfl (fun w hSw => by (try dsimp only at hSw); obtain ⟨s0, s1, s2⟩ := hSw; go_simp) (by assumption) ?_
      try simp only [Act.put, List.setIfInBounds_toArray, List.set_cons_zero, List.set_cons_succ]
      refine tk3 (.int .i64 b) (by kernel_rfl) (by kernel_rfl) (by kernel_rfl) (fun _ _ _ h => h) rfl (fun w hSw => by (try dsimp only at hSw); obtain ⟨s0, s1, s2⟩ := hSw; go_simp) (by assumption) ?_
      try simp only [Act.put, List.setIfInBounds_toArray, List.set_cons_zero, List.set_cons_succ]
      refine tk4 (.pointer (some ⟨B0, 2, none⟩)) (by kernel_rfl) (by kernel_rfl) (by kernel_rfl) (fun _ _ _ h => h) rfl (fun w hSw => by (try dsimp only at hSw); obtain ⟨s0, s1, s2⟩ := hSw; go_simp) (by assumption) ?_
      try simp only [Act.put, List.setIfInBounds_toArray, List.set_cons_zero, List.set_cons_succ]
      refine tk5 (.int .i64 f) (by kernel_rfl) (by kernel_rfl) (by kernel_rfl) (fun _ _ _ h => h) rfl (fun w hSw => by (try dsimp only at hSw); obtain ⟨s0, s1, s2⟩ := hSw; go_simp) (by assumption) ?_
      try simp only [Act.put, List.setIfInBounds_toArray, List.set_cons_zero, List.set_cons_succ]
      refine tk7 (.pointer (some ⟨B0, 0, none⟩)) (by kernel_rfl) (by kernel_rfl) (by kernel_rfl) (fun _ _ _ h => h) rfl (fun w hSw => by (try dsimp only at hSw); obtain ⟨s0, s1, s2⟩ := hSw; go_simp) (by assumption) ?_
      try simp only [Act.put, List.setIfInBounds_toArray, List.set_cons_zero, List.set_cons_succ]
      refine tk8 (.int .i64 n) (by kernel_rfl) (by kernel_rfl) (by kernel_rfl) (fun _ _ _ h => h) rfl (fun w hSw => by (try dsimp only at hSw); obtain ⟨s0, s1, s2⟩ := hSw; go_simp) (by assumption) ?_
      try simp only [Act.put, List.setIfInBounds_toArray, List.set_cons_zero, List.set_cons_succ]
      refine tk9 (.pointer (some ⟨B0, 1, none⟩)) (by kernel_rfl) (by kernel_rfl) (by kernel_rfl) (fun _ _ _ h => h) rfl (fun w hSw => by (try dsimp only at hSw); obtain ⟨s0, s1, s2⟩ := hSw; go_simp) (by assumption) ?_
      try simp only [Act.put, List.setIfInBounds_toArray, List.set_cons_zero, List.set_cons_succ]
      refine tk10 (.int .i64 b) (by kernel_rfl) (by kernel_rfl) (by kernel_rfl) (fun _ _ _ h => h) rfl (fun w hSw => by (try dsimp only at hSw); obtain ⟨s0, s1, s2⟩ := hSw; go_simp) (by assumption) ?_
      try simp only [Act.put, List.setIfInBounds_toArray, List.set_cons_zero, List.set_cons_succ]
      refine tk11 (.pointer (some ⟨B0, 2, none⟩)) (by kernel_rfl) (by kernel_rfl) (by kernel_rfl) (fun _ _ _ h => h) rfl (fun w hSw => by (try dsimp only at hSw); obtain ⟨s0, s1, s2⟩ := hSw; go_simp) (by assumption) ?_
      try simp only [Act.put, List.setIfInBounds_toArray, List.set_cons_zero, List.set_cons_succ]
      refine tk12 (.int .i64 f) (by kernel_rfl) (by kernel_rfl) (by kernel_rfl) (fun _ _ _ h => h) rfl (fun w hSw => by (try dsimp only at hSw); obtain ⟨s0, s1, s2⟩ := hSw; go_simp) (by assumption) ?_
      try simp only [Act.put, List.setIfInBounds_toArray, List.set_cons_zero, List.set_cons_succ]
      refine cl6 (by kernel_rfl) rfl (fun K hK => ?_)
      go_simp
      go_at_call 9
      refine (pnewX_any _ n b f).mono ?_
      intro r y1 h1
      obtain ⟨X, S1, e1, p1, b1⟩ := h1.ex
      subst e1
      have b1 : Below W.heap.size W y1 := undrew b1
      obtain ⟨a0, a1, a2⟩ := DC.out y1 b1
      have P1 : Hid (PS y1 W.heap.size X S1 (Pp.new n b f)) := p1
      have B1 : Hid _ := b1
      clear p1 b1 h1
      refine hK.out _ _ ?_ (fun hHeld => ?_)
      · try dsimp only
        exact ⟨by assumption, by assumption, by assumption⟩
      clear hK K
      try simp only [Act.put, List.setIfInBounds_toArray, List.set_cons_zero, List.set_cons_succ]
      refine cl13 (by kernel_rfl) rfl (fun K hK => ?_)
      go_simp
      go_at_call 10
      refine (rnewP_any _ n b f).mono ?_
      rintro r y2 ⟨e2, p2, b2⟩
      obtain ⟨Y, hY⟩ : ∃ Y, Y = y1.heap.size := ⟨_, rfl⟩
      rw [← hY] at e2 p2
      subst e2
      obtain ⟨c0, c1, c2⟩ := DC.out y2 (bmm B1.out B1.out.size b2)
      have D2 : Hid (Duo W y2 X Y (Pp.new n b f)) := ⟨⟨S1, _, P1.out.fresh b2, ⟨_, _, _, _, _, p2.mono (by rw [hY]; exact B1.out.size)⟩, fun g hg e => by have := (P1.out.bd g hg).2; omega⟩, bmm B1.out B1.out.size b2⟩
      clear p2 b2 hY
      refine hK.out _ _ ?_ (fun hHeld => ?_)
      · try dsimp only
        exact ⟨by assumption, by assumption, by assumption⟩
      clear hK K
      try simp only [Act.put, List.setIfInBounds_toArray, List.set_cons_zero, List.set_cons_succ]
      refine tk14 (.pointer (some ⟨X, 0, none⟩)) (by kernel_rfl) (by kernel_rfl) (by kernel_rfl) (fun _ _ _ h => h) rfl (fun w hSw => by (try dsimp only at hSw); obtain ⟨s0, s1, s2⟩ := hSw; go_simp) (by assumption) ?_
      try simp only [Act.put, List.setIfInBounds_toArray, List.set_cons_zero, List.set_cons_succ]
      refine tk15 (.pointer (some ⟨Y, 0, none⟩)) (by kernel_rfl) (by kernel_rfl) (by kernel_rfl) (fun _ _ _ h => h) rfl (fun w hSw => by (try dsimp only at hSw); obtain ⟨s0, s1, s2⟩ := hSw; go_simp) (by assumption) ?_
      try simp only [Act.put, List.setIfInBounds_toArray, List.set_cons_zero, List.set_cons_succ]
      refine wpAnyH_done (by kernel_rfl) ?_ _
      clear a0 a1 a2 c0 c1 c2 x0 x1 x2 P1 B1 DC
      have HP0 : Hid (PlQ (Pp.new n b f) n f 0) := plq_new n b f HFF.out.fb.1
      go_wp2
      go_loopw [7, 8, 9] (fun i _ _ wr => ∃ (k : Nat) (q : Pp), k ≤ l.length ∧ k ≤ 200 ∧ i = .int .i64 (k : Int) ∧ Hid (PlQ q n f k) ∧ Hid (Duo W wr X Y q)) (fun i _ _ _ => l.length - (intOf i).toNat)
      case atStart => exact ⟨0, _, Nat.zero_le _, Nat.zero_le _, rfl, HP0, D2⟩
      case round =>
        obtain ⟨k, q, hk, hk200, rfl, HQ, I1⟩ := hrel
        clear HP0 D2
        by_cases hkl : k < l.length
        · have t0 : decide ((k : Int) < (l.length : Int)) = true := decide_eq_true (by omega)
          by_cases hk2 : k < 200
          · have t1 : decide ((k : Int) < 200) = true := decide_eq_true (by omega)
            obtain ⟨⟨S1, S3, hp, hq, hap⟩, hB⟩ := I1.out
            obtain ⟨bk, off, cap', hvv, hcap, hbk, hc⟩ := (HR.out wr hB).cells pdC_len (by omega)
            injection hvv with e1 e2 e3
            subst e1 e3
            clear e2
            obtain ⟨x, hx⟩ : ∃ x, x = l[k] := ⟨_, rfl⟩
            have hxo : PdOk W x := by rw [hx]; exact HOK.out _ (List.getElem_mem hkl)
            have hxe : x.es.length ≤ 1000 ∧ ∀ e ∈ x.es, e.slot ≤ f + 1000 := by rw [hx]; exact HFF.out.es _ (List.getElem_mem hkl)
            obtain ⟨ua, uc, eu⟩ := hxo.row.form
            have z0 := hc k hkl 0 (.int .i64 x.kind) (by decide) (by rw [hx]; rfl)
            have z1 := hc k hkl 1 (.int .i64 x.who) (by decide) (by rw [hx]; rfl)
            have z2 := hc k hkl 2 (.int .i64 x.slot) (by decide) (by rw [hx]; rfl)
            have z3 := hc k hkl 3 (.slice ua x.es.length uc) (by decide) (by rw [← eu, hx]; rfl)
            have z4 := hc k hkl 4 (.int .i64 x.c.kind) (by decide) (by rw [hx]; rfl)
            have z5 := hc k hkl 5 (.int .i64 x.c.session) (by decide) (by rw [hx]; rfl)
            have z6 := hc k hkl 6 (.int .i64 x.c.seq) (by decide) (by rw [hx]; rfl)
            have z7 := hc k hkl 7 (.string x.c.name) (by decide) (by rw [hx]; rfl)
            have z8 := hc k hkl 8 (.int .i64 x.c.n) (by decide) (by rw [hx]; rfl)
            rw [Nat.add_zero] at z0
            obtain ⟨y0, hy0⟩ : ∃ y, y = wr.alloc (.cells (pdA x) 34) := ⟨_, rfl⟩
            obtain ⟨DB, hDB⟩ : ∃ DB, DB = wr.heap.size := ⟨_, rfl⟩
            have a0 : Below wr.heap.size wr y0 := by rw [hy0]; exact (Below.refl _ _).alloc (Nat.le_refl _) _
            have d0 : PdAt y0 DB x := by rw [hy0, hDB]; exact heap_alloc_new wr _
            have HY0 : Hid (wr.alloc (.cells #[.int .i64 x.kind, .int .i64 x.who, .int .i64 x.slot, .slice ua x.es.length uc, .int .i64 x.c.kind, .int .i64 x.c.session, .int .i64 x.c.seq, .string x.c.name, .int .i64 x.c.n] 34) = y0) := by show _ = _; rw [hy0, ← eu]
            have HDB : Hid (wr.heap.size = DB) := hDB.symm
            have J0 : Hid (DeI W y0 X Y DB S1 S3 q q x) := ⟨hp.fresh a0, hq.keep fun b hb => a0.block b (hq.bd b hb).2, hap, d0, fun e => by have := (hp.bd DB e).2; omega, fun e => by have := (hq.bd DB e).2; omega, bmm hB hB.size a0⟩
            have HX : Hid (PdOk W x) := hxo
            have HE : Hid (x.es.length ≤ 1000 ∧ ∀ e ∈ x.es, e.slot ≤ f + 1000) := hxe
            have HU : Hid (x.u = .slice ua x.es.length uc) := eu
            clear hc hx hy0 hDB a0 d0 hp hq hap hB hxo hxe eu hcap hbk I1
            go_upto_region 10 with fail
            rw [HY0.out, HDB.out]
            clear z0 z1 z2 z3 z4 z5 z6 z7 z8 HY0 HDB
            have z0 := J0.out.db.box 0 (.int .i64 x.kind) rfl
            have z1 := J0.out.db.box 1 (.int .i64 x.who) rfl
            have z2 := J0.out.db.box 2 (.int .i64 x.slot) rfl
            have z3 := J0.out.db.box 3 (.slice ua x.es.length uc) (congrArg some HU.out)
            have z4 := J0.out.db.box 4 (.int .i64 x.c.kind) rfl
            have z5 := J0.out.db.box 5 (.int .i64 x.c.session) rfl
            have z6 := J0.out.db.box 6 (.int .i64 x.c.seq) rfl
            have z7 := J0.out.db.box 7 (.string x.c.name) rfl
            have z8 := J0.out.db.box 8 (.int .i64 x.c.n) rfl
            go_upto_region 11 with fail
            by_cases k0 : x.kind = 0
            · have q0 : (x.kind == 0) = true := by simpa using k0
              obtain ⟨Q, hQ⟩ : ∃ Q, Q = (promP (maR q.n) q x.who x.es).1 := ⟨_, rfl⟩
              obtain ⟨bb, hbb⟩ : ∃ bb, bb = (promP (maR q.n) q x.who x.es).2 := ⟨_, rfl⟩
              have hA := J0.out.drew.prom HQ.out HFF.out.nb.2 HFF.out.fb (by omega) HX.out HE.out
              have hB := fun (y : World) (S2 : Nat → Prop) (h : DeI W y X Y DB S2 S3 Q q x) => h.prom2 HQ.out HFF.out.nb.2 HFF.out.fb (by omega) HX.out HE.out
              have hP := HQ.out.prom HFF.out.fb.1 HE.out.1 HE.out.2 (maR q.n) x.who HX.out.who
              rw [← hQ, ← hbb] at hA
              rw [← hQ] at hP
              simp only [← hQ, ← hbb] at hB
              rw [HU.out] at hA
              simp only [HU.out] at hB
              have tt : (bb == bb) = true := by simp
              have HA : Hid _ := hA
              have HB : Hid _ := hB
              have HQ2 : Hid (PlQ Q n f (k + 1)) := hP
              clear hA hB hP hQ hbb
              go_upto_region 15 with fail
              clear k0 z0 z2 z4 z5 z6 z7 z8
              refine wp_region_held_drew (S := (fun y : World => y.cell? ⟨DB, 1, none⟩ = some (.int .i64 x.who) ∧ y.cell? ⟨DB, 3, none⟩ = some (.slice ua x.es.length uc))) (by kernel_rfl) ?_ (fun hHeld0 => ?_)
              · try dsimp only
                exact ⟨by assumption, by assumption⟩
              refine tk0 (.pointer (some ⟨X, 0, none⟩)) (by kernel_rfl) (by kernel_rfl) (by kernel_rfl) (fun _ _ _ h => h) rfl (fun w hSw => by (try dsimp only at hSw); obtain ⟨s1, s3⟩ := hSw; go_simp) (by assumption) ?_
              try simp only [Act.put, List.setIfInBounds_toArray, List.set_cons_zero, List.set_cons_succ]
              refine tk1 (.pointer (some ⟨DB, 1, none⟩)) (by kernel_rfl) (by kernel_rfl) (by kernel_rfl) (fun _ _ _ h => h) rfl (fun w hSw => by (try dsimp only at hSw); obtain ⟨s1, s3⟩ := hSw; go_simp) (by assumption) ?_
              try simp only [Act.put, List.setIfInBounds_toArray, List.set_cons_zero, List.set_cons_succ]
              refine tk2 (.int .i64 x.who) (by kernel_rfl) (by kernel_rfl) (by kernel_rfl) (fun _ _ _ h => h) rfl (fun w hSw => by (try dsimp only at hSw); obtain ⟨s1, s3⟩ := hSw; go_simp) (by assumption) ?_
              try simp only [Act.put, List.setIfInBounds_toArray, List.set_cons_zero, List.set_cons_succ]
              refine tk3 (.pointer (some ⟨DB, 3, none⟩)) (by kernel_rfl) (by kernel_rfl) (by kernel_rfl) (fun _ _ _ h => h) rfl (fun w hSw => by (try dsimp only at hSw); obtain ⟨s1, s3⟩ := hSw; go_simp) (by assumption) ?_
              try simp only [Act.put, List.setIfInBounds_toArray, List.set_cons_zero, List.set_cons_succ]
              refine tk4 (.slice ua x.es.length uc) (by kernel_rfl) (by kernel_rfl) (by kernel_rfl) (fun _ _ _ h => h) rfl (fun w hSw => by (try dsimp only at hSw); obtain ⟨s1, s3⟩ := hSw; go_simp) (by assumption) ?_
              try simp only [Act.put, List.setIfInBounds_toArray, List.set_cons_zero, List.set_cons_succ]
              refine tk6 (.pointer (some ⟨Y, 0, none⟩)) (by kernel_rfl) (by kernel_rfl) (by kernel_rfl) (fun _ _ _ h => h) rfl (fun w hSw => by (try dsimp only at hSw); obtain ⟨s1, s3⟩ := hSw; go_simp) (by assumption) ?_
              try simp only [Act.put, List.setIfInBounds_toArray, List.set_cons_zero, List.set_cons_succ]
              refine tk7 (.pointer (some ⟨DB, 1, none⟩)) (by kernel_rfl) (by kernel_rfl) (by kernel_rfl) (fun _ _ _ h => h) rfl (fun w hSw => by (try dsimp only at hSw); obtain ⟨s1, s3⟩ := hSw; go_simp) (by assumption) ?_
              try simp only [Act.put, List.setIfInBounds_toArray, List.set_cons_zero, List.set_cons_succ]
              refine tk8 (.int .i64 x.who) (by kernel_rfl) (by kernel_rfl) (by kernel_rfl) (fun _ _ _ h => h) rfl (fun w hSw => by (try dsimp only at hSw); obtain ⟨s1, s3⟩ := hSw; go_simp) (by assumption) ?_
              try simp only [Act.put, List.setIfInBounds_toArray, List.set_cons_zero, List.set_cons_succ]
              refine tk9 (.pointer (some ⟨DB, 3, none⟩)) (by kernel_rfl) (by kernel_rfl) (by kernel_rfl) (fun _ _ _ h => h) rfl (fun w hSw => by (try dsimp only at hSw); obtain ⟨s1, s3⟩ := hSw; go_simp) (by assumption) ?_
              try simp only [Act.put, List.setIfInBounds_toArray, List.set_cons_zero, List.set_cons_succ]
              refine tk10 (.slice ua x.es.length uc) (by kernel_rfl) (by kernel_rfl) (by kernel_rfl) (fun _ _ _ h => h) rfl (fun w hSw => by (try dsimp only at hSw); obtain ⟨s1, s3⟩ := hSw; go_simp) (by assumption) ?_
              try simp only [Act.put, List.setIfInBounds_toArray, List.set_cons_zero, List.set_cons_succ]
              refine cl5 (by kernel_rfl) rfl (fun K hK => ?_)
              go_simp
              go_at_call 11
              refine Calls.mono HA.out ?_
              intro r y2 h2
              obtain ⟨S2, e2, p2, k2⟩ := h2.ex
              subst e2
              have J2 : Hid (DeI W y2 X Y DB S2 S3 Q q x) := J0.out.drew.stepA p2 k2
              have m1 := J2.out.db.box 1 (.int .i64 x.who) rfl
              have m3 := J2.out.db.box 3 (.slice ua x.es.length uc) (congrArg some HU.out)
              clear p2 k2 h2
              refine hK.out _ _ ?_ (fun hHeld => ?_)
              · try dsimp only
                exact ⟨by assumption, by assumption⟩
              clear hK K
              try simp only [Act.put, List.setIfInBounds_toArray, List.set_cons_zero, List.set_cons_succ]
              refine cl11 (by kernel_rfl) rfl (fun K hK => ?_)
              have HB2 : Hid _ := HB.out y2 S2 J2.out
              go_simp
              go_at_call 12
              refine Calls.mono HB2.out ?_
              intro r y4 h4
              obtain ⟨S4, e4, p4, k4⟩ := h4.ex
              subst e4
              have J4 : Hid (DeI W y4 X Y DB S2 S4 Q Q x) := J2.out.stepX p4 k4
              have i1 := J4.out.db.box 1 (.int .i64 x.who) rfl
              have i3 := J4.out.db.box 3 (.slice ua x.es.length uc) (congrArg some HU.out)
              clear p4 k4 h4
              refine hK.out _ _ ?_ (fun hHeld => ?_)
              · try dsimp only
                exact ⟨by assumption, by assumption⟩
              clear hK K
              try simp only [Act.put, List.setIfInBounds_toArray, List.set_cons_zero, List.set_cons_succ]
              refine tk12 (.bool true) (by kernel_rfl) (by kernel_rfl) (by kernel_rfl) (fun _ _ _ h => h) rfl (fun w hSw => by (try dsimp only at hSw); obtain ⟨s1, s3⟩ := hSw; go_simp) (by assumption) ?_
              try simp only [Act.put, List.setIfInBounds_toArray, List.set_cons_zero, List.set_cons_succ]
              refine tk13 (.bool true) (by kernel_rfl) (by kernel_rfl) (by kernel_rfl) (fun _ _ _ h => h) rfl (fun w hSw => by (try dsimp only at hSw); obtain ⟨s1, s3⟩ := hSw; go_simp) (by assumption) ?_
              try simp only [Act.put, List.setIfInBounds_toArray, List.set_cons_zero, List.set_cons_succ]
              refine wpAnyH_done (by kernel_rfl) ?_ _
              clear HA HB HB2 J0 J2 i1 m1 i3 m3
              obtain ⟨a1, a2, b3, a4, l4, P4⟩ := J4.out.ra
              obtain ⟨va3, vc3, e3⟩ := (OwnEn.row P4.o3).form
              have e3' : b3 = .slice va3 Q.vals.length vc3 := e3
              subst e3'
              have w5 := P4.cell 5 (.bool Q.is) rfl
              have w6 := P4.cell 6 (.slice va3 Q.vals.length vc3) rfl
              have HV : Hid (∀ y, Below y4.drew.heap.size y4.drew y → y.cell? ⟨Y, 5, none⟩ = some (.bool Q.is) ∧ y.cell? ⟨Y, 6, none⟩ = some (.slice va3 Q.vals.length vc3)) := fun y b => ⟨(P4.drew.fresh b).cell 5 _ rfl, (P4.drew.fresh b).cell 6 _ rfl⟩
              have HV3 : Hid (∀ y, Below y4.drew.heap.size y4.drew y → RowAt enC y (.slice va3 Q.vals.length vc3) Q.vals) := fun y b => OwnEn.row (P4.drew.fresh b).o3
              have HOP : Hid (∀ y, Below y4.drew.heap.size y4.drew y → Calls Try.prog 23 #[.pointer (some ⟨Y, 0, none⟩)] y fun e w' => ∃ u, e = .returned u ∧ OwnEn w' y.heap.size u (openP Q) ∧ Below y.heap.size y w') := fun y b => (P4.drew.fresh b).ropen (by have := HQ2.out.ln; omega)
              have HL : Hid (Lim Q) := HQ2.out.lim HFF.out.fb (by omega)
              have HVL : Hid (Q.vals.length ≤ 1002) := HQ2.out.vl
              have HOL : Hid ((openP Q).length ≤ 1300) := by
                show (openP Q).length ≤ 1300
                unfold openP
                rw [List.length_map]
                have := HQ2.out.ln
                omega
              have tq : (Q.is != Q.is) = false := by simp
              clear P4 e3
              go_upto_region 20 with fail
              refine wp_region_held_drew (S := (fun y : World => y.cell? ⟨Y, 5, none⟩ = some (.bool Q.is) ∧ y.cell? ⟨Y, 6, none⟩ = some (.slice va3 Q.vals.length vc3))) (by kernel_rfl) ?_ (fun hHeld0 => ?_)
              · try dsimp only
                exact ⟨by assumption, by assumption⟩
              refine tk0 (.bool true) (by kernel_rfl) (by kernel_rfl) (by kernel_rfl) (fun _ _ _ h => h) rfl (fun w hSw => by (try dsimp only at hSw); obtain ⟨s5, s6⟩ := hSw; go_simp) (by assumption) ?_
              try simp only [Act.put, List.setIfInBounds_toArray, List.set_cons_zero, List.set_cons_succ]
              refine tk1 (.bool false) (by kernel_rfl) (by kernel_rfl) (by kernel_rfl) (fun _ _ _ h => h) rfl (fun w hSw => by (try dsimp only at hSw); obtain ⟨s5, s6⟩ := hSw; go_simp) (by assumption) ?_
              try simp only [Act.put, List.setIfInBounds_toArray, List.set_cons_zero, List.set_cons_succ]
              refine tk2 (.bool false) (by kernel_rfl) (by kernel_rfl) (by kernel_rfl) (fun _ _ _ h => h) rfl (fun w hSw => by (try dsimp only at hSw); obtain ⟨s5, s6⟩ := hSw; go_simp) (by assumption) ?_
              try simp only [Act.put, List.setIfInBounds_toArray, List.set_cons_zero, List.set_cons_succ]
              refine tk3 (.pointer (some ⟨X, 0, none⟩)) (by kernel_rfl) (by kernel_rfl) (by kernel_rfl) (fun _ _ _ h => h) rfl (fun w hSw => by (try dsimp only at hSw); obtain ⟨s5, s6⟩ := hSw; go_simp) (by assumption) ?_
              try simp only [Act.put, List.setIfInBounds_toArray, List.set_cons_zero, List.set_cons_succ]
              refine tk5 (.pointer (some ⟨Y, 0, none⟩)) (by kernel_rfl) (by kernel_rfl) (by kernel_rfl) (fun _ _ _ h => h) rfl (fun w hSw => by (try dsimp only at hSw); obtain ⟨s5, s6⟩ := hSw; go_simp) (by assumption) ?_
              try simp only [Act.put, List.setIfInBounds_toArray, List.set_cons_zero, List.set_cons_succ]
              refine tk6 (.pointer (some ⟨Y, 0, none⟩)) (by kernel_rfl) (by kernel_rfl) (by kernel_rfl) (fun _ _ _ h => h) rfl (fun w hSw => by (try dsimp only at hSw); obtain ⟨s5, s6⟩ := hSw; go_simp) (by assumption) ?_
              try simp only [Act.put, List.setIfInBounds_toArray, List.set_cons_zero, List.set_cons_succ]
              refine tk7 (.pointer (some ⟨Y, 5, none⟩)) (by kernel_rfl) (by kernel_rfl) (by kernel_rfl) (fun _ _ _ h => h) rfl (fun w hSw => by (try dsimp only at hSw); obtain ⟨s5, s6⟩ := hSw; go_simp) (by assumption) ?_
              try simp only [Act.put, List.setIfInBounds_toArray, List.set_cons_zero, List.set_cons_succ]
              refine tk8 (.bool Q.is) (by kernel_rfl) (by kernel_rfl) (by kernel_rfl) (fun _ _ _ h => h) rfl (fun w hSw => by (try dsimp only at hSw); obtain ⟨s5, s6⟩ := hSw; go_simp) (by assumption) ?_
              try simp only [Act.put, List.setIfInBounds_toArray, List.set_cons_zero, List.set_cons_succ]
              refine cl4 (by kernel_rfl) rfl (fun K hK => ?_)
              go_simp
              go_at_call 19
              refine (pready_any J4.out.drew.ps).mono ?_
              rintro r y5 ⟨rfl, hy5⟩
              rw [hy5]
              clear hy5
              refine hK.out _ _ ?_ (fun hHeld => ?_)
              · try dsimp only
                exact ⟨by assumption, by assumption⟩
              clear hK K
              try simp only [Act.put, List.setIfInBounds_toArray, List.set_cons_zero, List.set_cons_succ]
              refine tk9 (.bool false) (by kernel_rfl) (by kernel_rfl) (by kernel_rfl) (fun _ _ _ h => h) rfl (fun w hSw => by (try dsimp only at hSw); obtain ⟨s5, s6⟩ := hSw; go_simp) (by assumption) ?_
              try simp only [Act.put, List.setIfInBounds_toArray, List.set_cons_zero, List.set_cons_succ]
              refine tk10 (.bool false) (by kernel_rfl) (by kernel_rfl) (by kernel_rfl) (fun _ _ _ h => h) rfl (fun w hSw => by (try dsimp only at hSw); obtain ⟨s5, s6⟩ := hSw; go_simp) (by assumption) ?_
              try simp only [Act.put, List.setIfInBounds_toArray, List.set_cons_zero, List.set_cons_succ]
              refine tk11 (.bool false) (by kernel_rfl) (by kernel_rfl) (by kernel_rfl) (fun _ _ _ h => h) rfl (fun w hSw => by (try dsimp only at hSw); obtain ⟨s5, s6⟩ := hSw; go_simp) (by assumption) ?_
              try simp only [Act.put, List.setIfInBounds_toArray, List.set_cons_zero, List.set_cons_succ]
              refine tk12 (.pointer (some ⟨X, 0, none⟩)) (by kernel_rfl) (by kernel_rfl) (by kernel_rfl) (fun _ _ _ h => h) rfl (fun w hSw => by (try dsimp only at hSw); obtain ⟨s5, s6⟩ := hSw; go_simp) (by assumption) ?_
              try simp only [Act.put, List.setIfInBounds_toArray, List.set_cons_zero, List.set_cons_succ]
              refine tk14 (.pointer (some ⟨Y, 0, none⟩)) (by kernel_rfl) (by kernel_rfl) (by kernel_rfl) (fun _ _ _ h => h) rfl (fun w hSw => by (try dsimp only at hSw); obtain ⟨s5, s6⟩ := hSw; go_simp) (by assumption) ?_
              try simp only [Act.put, List.setIfInBounds_toArray, List.set_cons_zero, List.set_cons_succ]
              refine tk15 (.pointer (some ⟨Y, 0, none⟩)) (by kernel_rfl) (by kernel_rfl) (by kernel_rfl) (fun _ _ _ h => h) rfl (fun w hSw => by (try dsimp only at hSw); obtain ⟨s5, s6⟩ := hSw; go_simp) (by assumption) ?_
              try simp only [Act.put, List.setIfInBounds_toArray, List.set_cons_zero, List.set_cons_succ]
              refine tk16 (.pointer (some ⟨Y, 6, none⟩)) (by kernel_rfl) (by kernel_rfl) (by kernel_rfl) (fun _ _ _ h => h) rfl (fun w hSw => by (try dsimp only at hSw); obtain ⟨s5, s6⟩ := hSw; go_simp) (by assumption) ?_
              try simp only [Act.put, List.setIfInBounds_toArray, List.set_cons_zero, List.set_cons_succ]
              refine tk17 (.slice va3 Q.vals.length vc3) (by kernel_rfl) (by kernel_rfl) (by kernel_rfl) (fun _ _ _ h => h) rfl (fun w hSw => by (try dsimp only at hSw); obtain ⟨s5, s6⟩ := hSw; go_simp) (by assumption) ?_
              try simp only [Act.put, List.setIfInBounds_toArray, List.set_cons_zero, List.set_cons_succ]
              refine cl13 (by kernel_rfl) rfl (fun K hK => ?_)
              go_simp
              go_at_call 21
              refine (pvals_any J4.out.drew.ps HL.out).mono ?_
              rintro r y5 ⟨u5, rfl, o5, b5⟩
              obtain ⟨p5, n5, q5, rfl⟩ := own_form o5
              obtain ⟨g5, g6⟩ := HV.out y5 b5
              have O5 : Hid _ := o5
              have B5 : Hid _ := b5
              clear o5 b5
              refine hK.out _ _ ?_ (fun hHeld => ?_)
              · try dsimp only
                exact ⟨by assumption, by assumption⟩
              clear hK K
              try simp only [Act.put, List.setIfInBounds_toArray, List.set_cons_zero, List.set_cons_succ]
              refine cl18 (by kernel_rfl) rfl (fun K hK => ?_)
              go_simp
              go_at_call 20
              refine (ents_same y5 _ _ Q.vals (RowAt.own enC_len O5.out) (HV3.out y5 B5.out) (by have := HVL.out; omega)).mono ?_
              rintro r y6 ⟨rfl, b6⟩
              obtain ⟨h5, h6⟩ := HV.out y6 (bmm B5.out B5.out.size b6)
              have B6 : Hid (Below y4.drew.heap.size y4.drew y6) := bmm B5.out B5.out.size b6
              clear b6
              refine hK.out _ _ ?_ (fun hHeld => ?_)
              · try dsimp only
                exact ⟨by assumption, by assumption⟩
              clear hK K
              try simp only [Act.put, List.setIfInBounds_toArray, List.set_cons_zero, List.set_cons_succ]
              refine tk19 (.bool false) (by kernel_rfl) (by kernel_rfl) (by kernel_rfl) (fun _ _ _ h => h) rfl (fun w hSw => by (try dsimp only at hSw); obtain ⟨s5, s6⟩ := hSw; go_simp) (by assumption) ?_
              try simp only [Act.put, List.setIfInBounds_toArray, List.set_cons_zero, List.set_cons_succ]
              refine tk20 (.bool false) (by kernel_rfl) (by kernel_rfl) (by kernel_rfl) (fun _ _ _ h => h) rfl (fun w hSw => by (try dsimp only at hSw); obtain ⟨s5, s6⟩ := hSw; go_simp) (by assumption) ?_
              try simp only [Act.put, List.setIfInBounds_toArray, List.set_cons_zero, List.set_cons_succ]
              refine tk21 (.bool false) (by kernel_rfl) (by kernel_rfl) (by kernel_rfl) (fun _ _ _ h => h) rfl (fun w hSw => by (try dsimp only at hSw); obtain ⟨s5, s6⟩ := hSw; go_simp) (by assumption) ?_
              try simp only [Act.put, List.setIfInBounds_toArray, List.set_cons_zero, List.set_cons_succ]
              refine tk22 (.pointer (some ⟨X, 0, none⟩)) (by kernel_rfl) (by kernel_rfl) (by kernel_rfl) (fun _ _ _ h => h) rfl (fun w hSw => by (try dsimp only at hSw); obtain ⟨s5, s6⟩ := hSw; go_simp) (by assumption) ?_
              try simp only [Act.put, List.setIfInBounds_toArray, List.set_cons_zero, List.set_cons_succ]
              refine tk24 (.pointer (some ⟨Y, 0, none⟩)) (by kernel_rfl) (by kernel_rfl) (by kernel_rfl) (fun _ _ _ h => h) rfl (fun w hSw => by (try dsimp only at hSw); obtain ⟨s5, s6⟩ := hSw; go_simp) (by assumption) ?_
              try simp only [Act.put, List.setIfInBounds_toArray, List.set_cons_zero, List.set_cons_succ]
              refine cl23 (by kernel_rfl) rfl (fun K hK => ?_)
              go_simp
              go_at_call 22
              refine (popen_any (J4.out.drew.below B6.out).ps HL.out).mono ?_
              rintro r y7 ⟨u7, rfl, o7, b7⟩
              obtain ⟨p7, n7, q7, rfl⟩ := own_form o7
              obtain ⟨j5, j6⟩ := HV.out y7 (bmm B6.out B6.out.size b7)
              have O7 : Hid _ := o7
              have B7 : Hid (Below y4.drew.heap.size y4.drew y7) := bmm B6.out B6.out.size b7
              clear o7 b7
              refine hK.out _ _ ?_ (fun hHeld => ?_)
              · try dsimp only
                exact ⟨by assumption, by assumption⟩
              clear hK K
              try simp only [Act.put, List.setIfInBounds_toArray, List.set_cons_zero, List.set_cons_succ]
              refine cl25 (by kernel_rfl) rfl (fun K hK => ?_)
              go_simp
              go_at_call 23
              refine (HOP.out y7 B7.out).mono ?_
              rintro r y8 ⟨u8, rfl, o8, b8⟩
              obtain ⟨p8, n8, q8, rfl⟩ := own_form o8
              obtain ⟨k5, k6⟩ := HV.out y8 (bmm B7.out B7.out.size b8)
              have O8 : Hid _ := o8
              have B78 : Hid _ := b8
              have B8 : Hid (Below y4.drew.heap.size y4.drew y8) := bmm B7.out B7.out.size b8
              clear o8 b8
              refine hK.out _ _ ?_ (fun hHeld => ?_)
              · try dsimp only
                exact ⟨by assumption, by assumption⟩
              clear hK K
              try simp only [Act.put, List.setIfInBounds_toArray, List.set_cons_zero, List.set_cons_succ]
              refine cl26 (by kernel_rfl) rfl (fun K hK => ?_)
              go_simp
              go_at_call 20
              refine (ents_same y8 _ _ (openP Q) ((RowAt.own enC_len O7.out).fresh B78.out) (RowAt.own enC_len O8.out) (by have := HOL.out; omega)).mono ?_
              rintro r y9 ⟨rfl, b9⟩
              obtain ⟨l5, l6⟩ := HV.out y9 (bmm B8.out B8.out.size b9)
              have D9 : Hid (Duo W y9 X Y Q) := (J4.out.drew.below (bmm B8.out B8.out.size b9)).duo
              clear b9
              refine hK.out _ _ ?_ (fun hHeld => ?_)
              · try dsimp only
                exact ⟨by assumption, by assumption⟩
              clear hK K
              try simp only [Act.put, List.setIfInBounds_toArray, List.set_cons_zero, List.set_cons_succ]
              refine tk27 (.bool false) (by kernel_rfl) (by kernel_rfl) (by kernel_rfl) (fun _ _ _ h => h) rfl (fun w hSw => by (try dsimp only at hSw); obtain ⟨s5, s6⟩ := hSw; go_simp) (by assumption) ?_
              try simp only [Act.put, List.setIfInBounds_toArray, List.set_cons_zero, List.set_cons_succ]
              refine tk28 (.bool false) (by kernel_rfl) (by kernel_rfl) (by kernel_rfl) (fun _ _ _ h => h) rfl (fun w hSw => by (try dsimp only at hSw); obtain ⟨s5, s6⟩ := hSw; go_simp) (by assumption) ?_
              try simp only [Act.put, List.setIfInBounds_toArray, List.set_cons_zero, List.set_cons_succ]
              refine wpAnyH_done (by kernel_rfl) ?_ _
              go_wp2
              go_roundw
              case rel => exact ⟨k + 1, Q, by omega, by omega, by go_num, HQ2, D9⟩
              case measure => simp [intOf]; omega
            · have q0 : (x.kind == 0) = false := by simpa using k0
              by_cases k1 : x.kind = 1
              · have q1 : (x.kind == 1) = true := by simpa using k1
                obtain ⟨Q, hQ⟩ : ∃ Q, Q = (accP (maR q.n) q x.who x.slot).1 := ⟨_, rfl⟩
                obtain ⟨bb, hbb⟩ : ∃ bb, bb = (accP (maR q.n) q x.who x.slot).2 := ⟨_, rfl⟩
                have hA := J0.out.drew.acc HQ.out HFF.out.nb.2 HFF.out.fb (by omega) HX.out
                have hB := fun (y : World) (S2 : Nat → Prop) (h : DeI W y X Y DB S2 S3 Q q x) => h.acc2 HQ.out HFF.out.nb.2 (by omega)
                have hP := HQ.out.acc (maR q.n) x.who x.slot HX.out.who
                rw [← hQ, ← hbb] at hA
                rw [← hQ] at hP
                simp only [← hQ, ← hbb] at hB
                have tt : (bb == bb) = true := by simp
                have HA : Hid _ := hA
                have HB : Hid _ := hB
                have HQ2 : Hid (PlQ Q n f (k + 1)) := hP
                clear hA hB hP hQ hbb
                go_upto_region 17 with fail
                clear k0 k1 z0 z3 z4 z5 z6 z7 z8
                refine wp_region_held_drew (S := (fun y : World => y.cell? ⟨DB, 1, none⟩ = some (.int .i64 x.who) ∧ y.cell? ⟨DB, 2, none⟩ = some (.int .i64 x.slot))) (by kernel_rfl) ?_ (fun hHeld0 => ?_)
                · try dsimp only
                  exact ⟨by assumption, by assumption⟩
                refine tk0 (.pointer (some ⟨X, 0, none⟩)) (by kernel_rfl) (by kernel_rfl) (by kernel_rfl) (fun _ _ _ h => h) rfl (fun w hSw => by (try dsimp only at hSw); obtain ⟨s1, s2⟩ := hSw; go_simp) (by assumption) ?_
                try simp only [Act.put, List.setIfInBounds_toArray, List.set_cons_zero, List.set_cons_succ]
                refine tk1 (.pointer (some ⟨DB, 1, none⟩)) (by kernel_rfl) (by kernel_rfl) (by kernel_rfl) (fun _ _ _ h => h) rfl (fun w hSw => by (try dsimp only at hSw); obtain ⟨s1, s2⟩ := hSw; go_simp) (by assumption) ?_
                try simp only [Act.put, List.setIfInBounds_toArray, List.set_cons_zero, List.set_cons_succ]
                refine tk2 (.int .i64 x.who) (by kernel_rfl) (by kernel_rfl) (by kernel_rfl) (fun _ _ _ h => h) rfl (fun w hSw => by (try dsimp only at hSw); obtain ⟨s1, s2⟩ := hSw; go_simp) (by assumption) ?_
                try simp only [Act.put, List.setIfInBounds_toArray, List.set_cons_zero, List.set_cons_succ]
                refine tk3 (.pointer (some ⟨DB, 2, none⟩)) (by kernel_rfl) (by kernel_rfl) (by kernel_rfl) (fun _ _ _ h => h) rfl (fun w hSw => by (try dsimp only at hSw); obtain ⟨s1, s2⟩ := hSw; go_simp) (by assumption) ?_
                try simp only [Act.put, List.setIfInBounds_toArray, List.set_cons_zero, List.set_cons_succ]
                refine tk4 (.int .i64 x.slot) (by kernel_rfl) (by kernel_rfl) (by kernel_rfl) (fun _ _ _ h => h) rfl (fun w hSw => by (try dsimp only at hSw); obtain ⟨s1, s2⟩ := hSw; go_simp) (by assumption) ?_
                try simp only [Act.put, List.setIfInBounds_toArray, List.set_cons_zero, List.set_cons_succ]
                refine tk6 (.pointer (some ⟨Y, 0, none⟩)) (by kernel_rfl) (by kernel_rfl) (by kernel_rfl) (fun _ _ _ h => h) rfl (fun w hSw => by (try dsimp only at hSw); obtain ⟨s1, s2⟩ := hSw; go_simp) (by assumption) ?_
                try simp only [Act.put, List.setIfInBounds_toArray, List.set_cons_zero, List.set_cons_succ]
                refine tk7 (.pointer (some ⟨DB, 1, none⟩)) (by kernel_rfl) (by kernel_rfl) (by kernel_rfl) (fun _ _ _ h => h) rfl (fun w hSw => by (try dsimp only at hSw); obtain ⟨s1, s2⟩ := hSw; go_simp) (by assumption) ?_
                try simp only [Act.put, List.setIfInBounds_toArray, List.set_cons_zero, List.set_cons_succ]
                refine tk8 (.int .i64 x.who) (by kernel_rfl) (by kernel_rfl) (by kernel_rfl) (fun _ _ _ h => h) rfl (fun w hSw => by (try dsimp only at hSw); obtain ⟨s1, s2⟩ := hSw; go_simp) (by assumption) ?_
                try simp only [Act.put, List.setIfInBounds_toArray, List.set_cons_zero, List.set_cons_succ]
                refine tk9 (.pointer (some ⟨DB, 2, none⟩)) (by kernel_rfl) (by kernel_rfl) (by kernel_rfl) (fun _ _ _ h => h) rfl (fun w hSw => by (try dsimp only at hSw); obtain ⟨s1, s2⟩ := hSw; go_simp) (by assumption) ?_
                try simp only [Act.put, List.setIfInBounds_toArray, List.set_cons_zero, List.set_cons_succ]
                refine tk10 (.int .i64 x.slot) (by kernel_rfl) (by kernel_rfl) (by kernel_rfl) (fun _ _ _ h => h) rfl (fun w hSw => by (try dsimp only at hSw); obtain ⟨s1, s2⟩ := hSw; go_simp) (by assumption) ?_
                try simp only [Act.put, List.setIfInBounds_toArray, List.set_cons_zero, List.set_cons_succ]
                refine cl5 (by kernel_rfl) rfl (fun K hK => ?_)
                go_simp
                go_at_call 13
                refine Calls.mono HA.out ?_
                intro r y2 h2
                obtain ⟨S2, e2, p2, k2⟩ := h2.ex
                subst e2
                have J2 : Hid (DeI W y2 X Y DB S2 S3 Q q x) := J0.out.drew.stepA p2 k2
                have m1 := J2.out.db.box 1 (.int .i64 x.who) rfl
                have m2 := J2.out.db.box 2 (.int .i64 x.slot) rfl
                clear p2 k2 h2
                refine hK.out _ _ ?_ (fun hHeld => ?_)
                · try dsimp only
                  exact ⟨by assumption, by assumption⟩
                clear hK K
                try simp only [Act.put, List.setIfInBounds_toArray, List.set_cons_zero, List.set_cons_succ]
                refine cl11 (by kernel_rfl) rfl (fun K hK => ?_)
                have HB2 : Hid _ := HB.out y2 S2 J2.out
                go_simp
                go_at_call 14
                refine Calls.mono HB2.out ?_
                intro r y4 h4
                obtain ⟨S4, e4, p4, k4⟩ := h4.ex
                subst e4
                have J4 : Hid (DeI W y4 X Y DB S2 S4 Q Q x) := J2.out.stepX p4 k4
                have i1 := J4.out.db.box 1 (.int .i64 x.who) rfl
                have i2 := J4.out.db.box 2 (.int .i64 x.slot) rfl
                clear p4 k4 h4
                refine hK.out _ _ ?_ (fun hHeld => ?_)
                · try dsimp only
                  exact ⟨by assumption, by assumption⟩
                clear hK K
                try simp only [Act.put, List.setIfInBounds_toArray, List.set_cons_zero, List.set_cons_succ]
                refine tk12 (.bool true) (by kernel_rfl) (by kernel_rfl) (by kernel_rfl) (fun _ _ _ h => h) rfl (fun w hSw => by (try dsimp only at hSw); obtain ⟨s1, s2⟩ := hSw; go_simp) (by assumption) ?_
                try simp only [Act.put, List.setIfInBounds_toArray, List.set_cons_zero, List.set_cons_succ]
                refine tk13 (.bool true) (by kernel_rfl) (by kernel_rfl) (by kernel_rfl) (fun _ _ _ h => h) rfl (fun w hSw => by (try dsimp only at hSw); obtain ⟨s1, s2⟩ := hSw; go_simp) (by assumption) ?_
                try simp only [Act.put, List.setIfInBounds_toArray, List.set_cons_zero, List.set_cons_succ]
                refine wpAnyH_done (by kernel_rfl) ?_ _
                clear HA HB HB2 J0 J2 i1 m1 i2 m2
                obtain ⟨a1, a2, b3, a4, l4, P4⟩ := J4.out.ra
                obtain ⟨va3, vc3, e3⟩ := (OwnEn.row P4.o3).form
                have e3' : b3 = .slice va3 Q.vals.length vc3 := e3
                subst e3'
                have w5 := P4.cell 5 (.bool Q.is) rfl
                have w6 := P4.cell 6 (.slice va3 Q.vals.length vc3) rfl
                have HV : Hid (∀ y, Below y4.drew.heap.size y4.drew y → y.cell? ⟨Y, 5, none⟩ = some (.bool Q.is) ∧ y.cell? ⟨Y, 6, none⟩ = some (.slice va3 Q.vals.length vc3)) := fun y b => ⟨(P4.drew.fresh b).cell 5 _ rfl, (P4.drew.fresh b).cell 6 _ rfl⟩
                have HV3 : Hid (∀ y, Below y4.drew.heap.size y4.drew y → RowAt enC y (.slice va3 Q.vals.length vc3) Q.vals) := fun y b => OwnEn.row (P4.drew.fresh b).o3
                have HOP : Hid (∀ y, Below y4.drew.heap.size y4.drew y → Calls Try.prog 23 #[.pointer (some ⟨Y, 0, none⟩)] y fun e w' => ∃ u, e = .returned u ∧ OwnEn w' y.heap.size u (openP Q) ∧ Below y.heap.size y w') := fun y b => (P4.drew.fresh b).ropen (by have := HQ2.out.ln; omega)
                have HL : Hid (Lim Q) := HQ2.out.lim HFF.out.fb (by omega)
                have HVL : Hid (Q.vals.length ≤ 1002) := HQ2.out.vl
                have HOL : Hid ((openP Q).length ≤ 1300) := by
                  show (openP Q).length ≤ 1300
                  unfold openP
                  rw [List.length_map]
                  have := HQ2.out.ln
                  omega
                have tq : (Q.is != Q.is) = false := by simp
                clear P4 e3
                go_upto_region 20 with fail
                refine wp_region_held_drew (S := (fun y : World => y.cell? ⟨Y, 5, none⟩ = some (.bool Q.is) ∧ y.cell? ⟨Y, 6, none⟩ = some (.slice va3 Q.vals.length vc3))) (by kernel_rfl) ?_ (fun hHeld0 => ?_)
                · try dsimp only
                  exact ⟨by assumption, by assumption⟩
                refine tk0 (.bool true) (by kernel_rfl) (by kernel_rfl) (by kernel_rfl) (fun _ _ _ h => h) rfl (fun w hSw => by (try dsimp only at hSw); obtain ⟨s5, s6⟩ := hSw; go_simp) (by assumption) ?_
                try simp only [Act.put, List.setIfInBounds_toArray, List.set_cons_zero, List.set_cons_succ]
                refine tk1 (.bool false) (by kernel_rfl) (by kernel_rfl) (by kernel_rfl) (fun _ _ _ h => h) rfl (fun w hSw => by (try dsimp only at hSw); obtain ⟨s5, s6⟩ := hSw; go_simp) (by assumption) ?_
                try simp only [Act.put, List.setIfInBounds_toArray, List.set_cons_zero, List.set_cons_succ]
                refine tk2 (.bool false) (by kernel_rfl) (by kernel_rfl) (by kernel_rfl) (fun _ _ _ h => h) rfl (fun w hSw => by (try dsimp only at hSw); obtain ⟨s5, s6⟩ := hSw; go_simp) (by assumption) ?_
                try simp only [Act.put, List.setIfInBounds_toArray, List.set_cons_zero, List.set_cons_succ]
                refine tk3 (.pointer (some ⟨X, 0, none⟩)) (by kernel_rfl) (by kernel_rfl) (by kernel_rfl) (fun _ _ _ h => h) rfl (fun w hSw => by (try dsimp only at hSw); obtain ⟨s5, s6⟩ := hSw; go_simp) (by assumption) ?_
                try simp only [Act.put, List.setIfInBounds_toArray, List.set_cons_zero, List.set_cons_succ]
                refine tk5 (.pointer (some ⟨Y, 0, none⟩)) (by kernel_rfl) (by kernel_rfl) (by kernel_rfl) (fun _ _ _ h => h) rfl (fun w hSw => by (try dsimp only at hSw); obtain ⟨s5, s6⟩ := hSw; go_simp) (by assumption) ?_
                try simp only [Act.put, List.setIfInBounds_toArray, List.set_cons_zero, List.set_cons_succ]
                refine tk6 (.pointer (some ⟨Y, 0, none⟩)) (by kernel_rfl) (by kernel_rfl) (by kernel_rfl) (fun _ _ _ h => h) rfl (fun w hSw => by (try dsimp only at hSw); obtain ⟨s5, s6⟩ := hSw; go_simp) (by assumption) ?_
                try simp only [Act.put, List.setIfInBounds_toArray, List.set_cons_zero, List.set_cons_succ]
                refine tk7 (.pointer (some ⟨Y, 5, none⟩)) (by kernel_rfl) (by kernel_rfl) (by kernel_rfl) (fun _ _ _ h => h) rfl (fun w hSw => by (try dsimp only at hSw); obtain ⟨s5, s6⟩ := hSw; go_simp) (by assumption) ?_
                try simp only [Act.put, List.setIfInBounds_toArray, List.set_cons_zero, List.set_cons_succ]
                refine tk8 (.bool Q.is) (by kernel_rfl) (by kernel_rfl) (by kernel_rfl) (fun _ _ _ h => h) rfl (fun w hSw => by (try dsimp only at hSw); obtain ⟨s5, s6⟩ := hSw; go_simp) (by assumption) ?_
                try simp only [Act.put, List.setIfInBounds_toArray, List.set_cons_zero, List.set_cons_succ]
                refine cl4 (by kernel_rfl) rfl (fun K hK => ?_)
                go_simp
                go_at_call 19
                refine (pready_any J4.out.drew.ps).mono ?_
                rintro r y5 ⟨rfl, hy5⟩
                rw [hy5]
                clear hy5
                refine hK.out _ _ ?_ (fun hHeld => ?_)
                · try dsimp only
                  exact ⟨by assumption, by assumption⟩
                clear hK K
                try simp only [Act.put, List.setIfInBounds_toArray, List.set_cons_zero, List.set_cons_succ]
                refine tk9 (.bool false) (by kernel_rfl) (by kernel_rfl) (by kernel_rfl) (fun _ _ _ h => h) rfl (fun w hSw => by (try dsimp only at hSw); obtain ⟨s5, s6⟩ := hSw; go_simp) (by assumption) ?_
                try simp only [Act.put, List.setIfInBounds_toArray, List.set_cons_zero, List.set_cons_succ]
                refine tk10 (.bool false) (by kernel_rfl) (by kernel_rfl) (by kernel_rfl) (fun _ _ _ h => h) rfl (fun w hSw => by (try dsimp only at hSw); obtain ⟨s5, s6⟩ := hSw; go_simp) (by assumption) ?_
                try simp only [Act.put, List.setIfInBounds_toArray, List.set_cons_zero, List.set_cons_succ]
                refine tk11 (.bool false) (by kernel_rfl) (by kernel_rfl) (by kernel_rfl) (fun _ _ _ h => h) rfl (fun w hSw => by (try dsimp only at hSw); obtain ⟨s5, s6⟩ := hSw; go_simp) (by assumption) ?_
                try simp only [Act.put, List.setIfInBounds_toArray, List.set_cons_zero, List.set_cons_succ]
                refine tk12 (.pointer (some ⟨X, 0, none⟩)) (by kernel_rfl) (by kernel_rfl) (by kernel_rfl) (fun _ _ _ h => h) rfl (fun w hSw => by (try dsimp only at hSw); obtain ⟨s5, s6⟩ := hSw; go_simp) (by assumption) ?_
                try simp only [Act.put, List.setIfInBounds_toArray, List.set_cons_zero, List.set_cons_succ]
                refine tk14 (.pointer (some ⟨Y, 0, none⟩)) (by kernel_rfl) (by kernel_rfl) (by kernel_rfl) (fun _ _ _ h => h) rfl (fun w hSw => by (try dsimp only at hSw); obtain ⟨s5, s6⟩ := hSw; go_simp) (by assumption) ?_
                try simp only [Act.put, List.setIfInBounds_toArray, List.set_cons_zero, List.set_cons_succ]
                refine tk15 (.pointer (some ⟨Y, 0, none⟩)) (by kernel_rfl) (by kernel_rfl) (by kernel_rfl) (fun _ _ _ h => h) rfl (fun w hSw => by (try dsimp only at hSw); obtain ⟨s5, s6⟩ := hSw; go_simp) (by assumption) ?_
                try simp only [Act.put, List.setIfInBounds_toArray, List.set_cons_zero, List.set_cons_succ]
                refine tk16 (.pointer (some ⟨Y, 6, none⟩)) (by kernel_rfl) (by kernel_rfl) (by kernel_rfl) (fun _ _ _ h => h) rfl (fun w hSw => by (try dsimp only at hSw); obtain ⟨s5, s6⟩ := hSw; go_simp) (by assumption) ?_
                try simp only [Act.put, List.setIfInBounds_toArray, List.set_cons_zero, List.set_cons_succ]
                refine tk17 (.slice va3 Q.vals.length vc3) (by kernel_rfl) (by kernel_rfl) (by kernel_rfl) (fun _ _ _ h => h) rfl (fun w hSw => by (try dsimp only at hSw); obtain ⟨s5, s6⟩ := hSw; go_simp) (by assumption) ?_
                try simp only [Act.put, List.setIfInBounds_toArray, List.set_cons_zero, List.set_cons_succ]
                refine cl13 (by kernel_rfl) rfl (fun K hK => ?_)
                go_simp
                go_at_call 21
                refine (pvals_any J4.out.drew.ps HL.out).mono ?_
                rintro r y5 ⟨u5, rfl, o5, b5⟩
                obtain ⟨p5, n5, q5, rfl⟩ := own_form o5
                obtain ⟨g5, g6⟩ := HV.out y5 b5
                have O5 : Hid _ := o5
                have B5 : Hid _ := b5
                clear o5 b5
                refine hK.out _ _ ?_ (fun hHeld => ?_)
                · try dsimp only
                  exact ⟨by assumption, by assumption⟩
                clear hK K
                try simp only [Act.put, List.setIfInBounds_toArray, List.set_cons_zero, List.set_cons_succ]
                refine cl18 (by kernel_rfl) rfl (fun K hK => ?_)
                go_simp
                go_at_call 20
                refine (ents_same y5 _ _ Q.vals (RowAt.own enC_len O5.out) (HV3.out y5 B5.out) (by have := HVL.out; omega)).mono ?_
                rintro r y6 ⟨rfl, b6⟩
                obtain ⟨h5, h6⟩ := HV.out y6 (bmm B5.out B5.out.size b6)
                have B6 : Hid (Below y4.drew.heap.size y4.drew y6) := bmm B5.out B5.out.size b6
                clear b6
                refine hK.out _ _ ?_ (fun hHeld => ?_)
                · try dsimp only
                  exact ⟨by assumption, by assumption⟩
                clear hK K
                try simp only [Act.put, List.setIfInBounds_toArray, List.set_cons_zero, List.set_cons_succ]
                refine tk19 (.bool false) (by kernel_rfl) (by kernel_rfl) (by kernel_rfl) (fun _ _ _ h => h) rfl (fun w hSw => by (try dsimp only at hSw); obtain ⟨s5, s6⟩ := hSw; go_simp) (by assumption) ?_
                try simp only [Act.put, List.setIfInBounds_toArray, List.set_cons_zero, List.set_cons_succ]
                refine tk20 (.bool false) (by kernel_rfl) (by kernel_rfl) (by kernel_rfl) (fun _ _ _ h => h) rfl (fun w hSw => by (try dsimp only at hSw); obtain ⟨s5, s6⟩ := hSw; go_simp) (by assumption) ?_
                try simp only [Act.put, List.setIfInBounds_toArray, List.set_cons_zero, List.set_cons_succ]
                refine tk21 (.bool false) (by kernel_rfl) (by kernel_rfl) (by kernel_rfl) (fun _ _ _ h => h) rfl (fun w hSw => by (try dsimp only at hSw); obtain ⟨s5, s6⟩ := hSw; go_simp) (by assumption) ?_
                try simp only [Act.put, List.setIfInBounds_toArray, List.set_cons_zero, List.set_cons_succ]
                refine tk22 (.pointer (some ⟨X, 0, none⟩)) (by kernel_rfl) (by kernel_rfl) (by kernel_rfl) (fun _ _ _ h => h) rfl (fun w hSw => by (try dsimp only at hSw); obtain ⟨s5, s6⟩ := hSw; go_simp) (by assumption) ?_
                try simp only [Act.put, List.setIfInBounds_toArray, List.set_cons_zero, List.set_cons_succ]
                refine tk24 (.pointer (some ⟨Y, 0, none⟩)) (by kernel_rfl) (by kernel_rfl) (by kernel_rfl) (fun _ _ _ h => h) rfl (fun w hSw => by (try dsimp only at hSw); obtain ⟨s5, s6⟩ := hSw; go_simp) (by assumption) ?_
                try simp only [Act.put, List.setIfInBounds_toArray, List.set_cons_zero, List.set_cons_succ]
                refine cl23 (by kernel_rfl) rfl (fun K hK => ?_)
                go_simp
                go_at_call 22
                refine (popen_any (J4.out.drew.below B6.out).ps HL.out).mono ?_
                rintro r y7 ⟨u7, rfl, o7, b7⟩
                obtain ⟨p7, n7, q7, rfl⟩ := own_form o7
                obtain ⟨j5, j6⟩ := HV.out y7 (bmm B6.out B6.out.size b7)
                have O7 : Hid _ := o7
                have B7 : Hid (Below y4.drew.heap.size y4.drew y7) := bmm B6.out B6.out.size b7
                clear o7 b7
                refine hK.out _ _ ?_ (fun hHeld => ?_)
                · try dsimp only
                  exact ⟨by assumption, by assumption⟩
                clear hK K
                try simp only [Act.put, List.setIfInBounds_toArray, List.set_cons_zero, List.set_cons_succ]
                refine cl25 (by kernel_rfl) rfl (fun K hK => ?_)
                go_simp
                go_at_call 23
                refine (HOP.out y7 B7.out).mono ?_
                rintro r y8 ⟨u8, rfl, o8, b8⟩
                obtain ⟨p8, n8, q8, rfl⟩ := own_form o8
                obtain ⟨k5, k6⟩ := HV.out y8 (bmm B7.out B7.out.size b8)
                have O8 : Hid _ := o8
                have B78 : Hid _ := b8
                have B8 : Hid (Below y4.drew.heap.size y4.drew y8) := bmm B7.out B7.out.size b8
                clear o8 b8
                refine hK.out _ _ ?_ (fun hHeld => ?_)
                · try dsimp only
                  exact ⟨by assumption, by assumption⟩
                clear hK K
                try simp only [Act.put, List.setIfInBounds_toArray, List.set_cons_zero, List.set_cons_succ]
                refine cl26 (by kernel_rfl) rfl (fun K hK => ?_)
                go_simp
                go_at_call 20
                refine (ents_same y8 _ _ (openP Q) ((RowAt.own enC_len O7.out).fresh B78.out) (RowAt.own enC_len O8.out) (by have := HOL.out; omega)).mono ?_
                rintro r y9 ⟨rfl, b9⟩
                obtain ⟨l5, l6⟩ := HV.out y9 (bmm B8.out B8.out.size b9)
                have D9 : Hid (Duo W y9 X Y Q) := (J4.out.drew.below (bmm B8.out B8.out.size b9)).duo
                clear b9
                refine hK.out _ _ ?_ (fun hHeld => ?_)
                · try dsimp only
                  exact ⟨by assumption, by assumption⟩
                clear hK K
                try simp only [Act.put, List.setIfInBounds_toArray, List.set_cons_zero, List.set_cons_succ]
                refine tk27 (.bool false) (by kernel_rfl) (by kernel_rfl) (by kernel_rfl) (fun _ _ _ h => h) rfl (fun w hSw => by (try dsimp only at hSw); obtain ⟨s5, s6⟩ := hSw; go_simp) (by assumption) ?_
                try simp only [Act.put, List.setIfInBounds_toArray, List.set_cons_zero, List.set_cons_succ]
                refine tk28 (.bool false) (by kernel_rfl) (by kernel_rfl) (by kernel_rfl) (fun _ _ _ h => h) rfl (fun w hSw => by (try dsimp only at hSw); obtain ⟨s5, s6⟩ := hSw; go_simp) (by assumption) ?_
                try simp only [Act.put, List.setIfInBounds_toArray, List.set_cons_zero, List.set_cons_succ]
                refine wpAnyH_done (by kernel_rfl) ?_ _
                go_wp2
                go_roundw
                case rel => exact ⟨k + 1, Q, by omega, by omega, by go_num, HQ2, D9⟩
                case measure => simp [intOf]; omega
              · have q1 : (x.kind == 1) = false := by simpa using k1
                by_cases k2 : x.kind = 2
                · have q2 : (x.kind == 2) = true := by simpa using k2
                  obtain ⟨Q, hQ⟩ : ∃ Q, Q = (propP q x.c).1 := ⟨_, rfl⟩
                  obtain ⟨bb, hbb⟩ : ∃ bb, bb = (propP q x.c).2 := ⟨_, rfl⟩
                  have hA := J0.out.drew.prop HQ.out HFF.out.fb (by omega) HX.out
                  have hB := fun (y : World) (S2 : Nat → Prop) (h : DeI W y X Y DB S2 S3 Q q x) => h.prop2 HQ.out HFF.out.fb (by omega)
                  have hP := HQ.out.prop x.c
                  rw [← hQ, ← hbb] at hA
                  rw [← hQ] at hP
                  simp only [← hQ, ← hbb] at hB
                  have te := ent_eql bb
                  have HA : Hid _ := hA
                  have HB : Hid _ := hB
                  have HQ2 : Hid (PlQ Q n f (k + 1)) := hP
                  clear hA hB hP hQ hbb
                  go_upto_region 19 with fail
                  clear k0 k1 k2 z0 z1 z2 z3
                  refine wp_region_held_drew (S := (fun y : World => y.cell? ⟨DB, 4, none⟩ = some (.int .i64 x.c.kind) ∧ y.cell? ⟨DB, 5, none⟩ = some (.int .i64 x.c.session) ∧ y.cell? ⟨DB, 6, none⟩ = some (.int .i64 x.c.seq) ∧ y.cell? ⟨DB, 7, none⟩ = some (.string x.c.name) ∧ y.cell? ⟨DB, 8, none⟩ = some (.int .i64 x.c.n))) (by kernel_rfl) ?_ (fun hHeld0 => ?_)
                  · try dsimp only
                    exact ⟨by assumption, by assumption, by assumption, by assumption, by assumption⟩
                  refine tk0 (.pointer (some ⟨X, 0, none⟩)) (by kernel_rfl) (by kernel_rfl) (by kernel_rfl) (fun _ _ _ h => h) rfl (fun w hSw => by (try dsimp only at hSw); obtain ⟨s4, s5, s6, s7, s8⟩ := hSw; go_simp) (by assumption) ?_
                  try simp only [Act.put, List.setIfInBounds_toArray, List.set_cons_zero, List.set_cons_succ]
                  refine tk1 (.pointer (some ⟨DB, 4, none⟩)) (by kernel_rfl) (by kernel_rfl) (by kernel_rfl) (fun _ _ _ h => h) rfl (fun w hSw => by (try dsimp only at hSw); obtain ⟨s4, s5, s6, s7, s8⟩ := hSw; go_simp) (by assumption) ?_
                  try simp only [Act.put, List.setIfInBounds_toArray, List.set_cons_zero, List.set_cons_succ]
                  refine tk2 (.agg (cmA x.c)) (by kernel_rfl) (by kernel_rfl) (by kernel_rfl) (fun _ _ _ h => h) rfl (fun w hSw => by (try dsimp only at hSw); obtain ⟨s4, s5, s6, s7, s8⟩ := hSw; go_simp) (by assumption) ?_
                  try simp only [Act.put, List.setIfInBounds_toArray, List.set_cons_zero, List.set_cons_succ]
                  refine tk4 (.pointer (some ⟨Y, 0, none⟩)) (by kernel_rfl) (by kernel_rfl) (by kernel_rfl) (fun _ _ _ h => h) rfl (fun w hSw => by (try dsimp only at hSw); obtain ⟨s4, s5, s6, s7, s8⟩ := hSw; go_simp) (by assumption) ?_
                  try simp only [Act.put, List.setIfInBounds_toArray, List.set_cons_zero, List.set_cons_succ]
                  refine tk5 (.pointer (some ⟨DB, 4, none⟩)) (by kernel_rfl) (by kernel_rfl) (by kernel_rfl) (fun _ _ _ h => h) rfl (fun w hSw => by (try dsimp only at hSw); obtain ⟨s4, s5, s6, s7, s8⟩ := hSw; go_simp) (by assumption) ?_
                  try simp only [Act.put, List.setIfInBounds_toArray, List.set_cons_zero, List.set_cons_succ]
                  refine tk6 (.agg (cmA x.c)) (by kernel_rfl) (by kernel_rfl) (by kernel_rfl) (fun _ _ _ h => h) rfl (fun w hSw => by (try dsimp only at hSw); obtain ⟨s4, s5, s6, s7, s8⟩ := hSw; go_simp) (by assumption) ?_
                  try simp only [Act.put, List.setIfInBounds_toArray, List.set_cons_zero, List.set_cons_succ]
                  refine cl3 (by kernel_rfl) rfl (fun K hK => ?_)
                  go_simp
                  go_at_call 15
                  refine Calls.mono HA.out ?_
                  intro r y2 h2
                  obtain ⟨S2, e2, p2, k2⟩ := h2.ex
                  subst e2
                  have J2 : Hid (DeI W y2 X Y DB S2 S3 Q q x) := J0.out.drew.stepA p2 k2
                  have m4 := J2.out.db.box 4 (.int .i64 x.c.kind) rfl
                  have m5 := J2.out.db.box 5 (.int .i64 x.c.session) rfl
                  have m6 := J2.out.db.box 6 (.int .i64 x.c.seq) rfl
                  have m7 := J2.out.db.box 7 (.string x.c.name) rfl
                  have m8 := J2.out.db.box 8 (.int .i64 x.c.n) rfl
                  clear p2 k2 h2
                  refine hK.out _ _ ?_ (fun hHeld => ?_)
                  · try dsimp only
                    exact ⟨by assumption, by assumption, by assumption, by assumption, by assumption⟩
                  clear hK K
                  try simp only [Act.put, List.setIfInBounds_toArray, List.set_cons_zero, List.set_cons_succ]
                  refine cl7 (by kernel_rfl) rfl (fun K hK => ?_)
                  have HB2 : Hid _ := HB.out y2 S2 J2.out
                  go_simp
                  go_at_call 16
                  refine Calls.mono HB2.out ?_
                  intro r y4 h4
                  obtain ⟨S4, e4, p4, k4⟩ := h4.ex
                  subst e4
                  have J4 : Hid (DeI W y4 X Y DB S2 S4 Q Q x) := J2.out.stepX p4 k4
                  have i4 := J4.out.db.box 4 (.int .i64 x.c.kind) rfl
                  have i5 := J4.out.db.box 5 (.int .i64 x.c.session) rfl
                  have i6 := J4.out.db.box 6 (.int .i64 x.c.seq) rfl
                  have i7 := J4.out.db.box 7 (.string x.c.name) rfl
                  have i8 := J4.out.db.box 8 (.int .i64 x.c.n) rfl
                  clear p4 k4 h4
                  refine hK.out _ _ ?_ (fun hHeld => ?_)
                  · try dsimp only
                    exact ⟨by assumption, by assumption, by assumption, by assumption, by assumption⟩
                  clear hK K
                  try simp only [Act.put, List.setIfInBounds_toArray, List.set_cons_zero, List.set_cons_succ]
                  refine tk8 (.bool true) (by kernel_rfl) (by kernel_rfl) (by kernel_rfl) (fun _ _ _ h => h) rfl (fun w hSw => by (try dsimp only at hSw); obtain ⟨s4, s5, s6, s7, s8⟩ := hSw; go_simp) (by assumption) ?_
                  try simp only [Act.put, List.setIfInBounds_toArray, List.set_cons_zero, List.set_cons_succ]
                  refine tk9 (.bool true) (by kernel_rfl) (by kernel_rfl) (by kernel_rfl) (fun _ _ _ h => h) rfl (fun w hSw => by (try dsimp only at hSw); obtain ⟨s4, s5, s6, s7, s8⟩ := hSw; go_simp) (by assumption) ?_
                  try simp only [Act.put, List.setIfInBounds_toArray, List.set_cons_zero, List.set_cons_succ]
                  refine wpAnyH_done (by kernel_rfl) ?_ _
                  clear HA HB HB2 J0 J2 i4 m4 i5 m5 i6 m6 i7 m7 i8 m8
                  obtain ⟨a1, a2, b3, a4, l4, P4⟩ := J4.out.ra
                  obtain ⟨va3, vc3, e3⟩ := (OwnEn.row P4.o3).form
                  have e3' : b3 = .slice va3 Q.vals.length vc3 := e3
                  subst e3'
                  have w5 := P4.cell 5 (.bool Q.is) rfl
                  have w6 := P4.cell 6 (.slice va3 Q.vals.length vc3) rfl
                  have HV : Hid (∀ y, Below y4.drew.heap.size y4.drew y → y.cell? ⟨Y, 5, none⟩ = some (.bool Q.is) ∧ y.cell? ⟨Y, 6, none⟩ = some (.slice va3 Q.vals.length vc3)) := fun y b => ⟨(P4.drew.fresh b).cell 5 _ rfl, (P4.drew.fresh b).cell 6 _ rfl⟩
                  have HV3 : Hid (∀ y, Below y4.drew.heap.size y4.drew y → RowAt enC y (.slice va3 Q.vals.length vc3) Q.vals) := fun y b => OwnEn.row (P4.drew.fresh b).o3
                  have HOP : Hid (∀ y, Below y4.drew.heap.size y4.drew y → Calls Try.prog 23 #[.pointer (some ⟨Y, 0, none⟩)] y fun e w' => ∃ u, e = .returned u ∧ OwnEn w' y.heap.size u (openP Q) ∧ Below y.heap.size y w') := fun y b => (P4.drew.fresh b).ropen (by have := HQ2.out.ln; omega)
                  have HL : Hid (Lim Q) := HQ2.out.lim HFF.out.fb (by omega)
                  have HVL : Hid (Q.vals.length ≤ 1002) := HQ2.out.vl
                  have HOL : Hid ((openP Q).length ≤ 1300) := by
                    show (openP Q).length ≤ 1300
                    unfold openP
                    rw [List.length_map]
                    have := HQ2.out.ln
                    omega
                  have tq : (Q.is != Q.is) = false := by simp
                  clear P4 e3
                  go_upto_region 20 with fail
                  refine wp_region_held_drew (S := (fun y : World => y.cell? ⟨Y, 5, none⟩ = some (.bool Q.is) ∧ y.cell? ⟨Y, 6, none⟩ = some (.slice va3 Q.vals.length vc3))) (by kernel_rfl) ?_ (fun hHeld0 => ?_)
                  · try dsimp only
                    exact ⟨by assumption, by assumption⟩
                  refine tk0 (.bool true) (by kernel_rfl) (by kernel_rfl) (by kernel_rfl) (fun _ _ _ h => h) rfl (fun w hSw => by (try dsimp only at hSw); obtain ⟨s5, s6⟩ := hSw; go_simp) (by assumption) ?_
                  try simp only [Act.put, List.setIfInBounds_toArray, List.set_cons_zero, List.set_cons_succ]
                  refine tk1 (.bool false) (by kernel_rfl) (by kernel_rfl) (by kernel_rfl) (fun _ _ _ h => h) rfl (fun w hSw => by (try dsimp only at hSw); obtain ⟨s5, s6⟩ := hSw; go_simp) (by assumption) ?_
                  try simp only [Act.put, List.setIfInBounds_toArray, List.set_cons_zero, List.set_cons_succ]
                  refine tk2 (.bool false) (by kernel_rfl) (by kernel_rfl) (by kernel_rfl) (fun _ _ _ h => h) rfl (fun w hSw => by (try dsimp only at hSw); obtain ⟨s5, s6⟩ := hSw; go_simp) (by assumption) ?_
                  try simp only [Act.put, List.setIfInBounds_toArray, List.set_cons_zero, List.set_cons_succ]
                  refine tk3 (.pointer (some ⟨X, 0, none⟩)) (by kernel_rfl) (by kernel_rfl) (by kernel_rfl) (fun _ _ _ h => h) rfl (fun w hSw => by (try dsimp only at hSw); obtain ⟨s5, s6⟩ := hSw; go_simp) (by assumption) ?_
                  try simp only [Act.put, List.setIfInBounds_toArray, List.set_cons_zero, List.set_cons_succ]
                  refine tk5 (.pointer (some ⟨Y, 0, none⟩)) (by kernel_rfl) (by kernel_rfl) (by kernel_rfl) (fun _ _ _ h => h) rfl (fun w hSw => by (try dsimp only at hSw); obtain ⟨s5, s6⟩ := hSw; go_simp) (by assumption) ?_
                  try simp only [Act.put, List.setIfInBounds_toArray, List.set_cons_zero, List.set_cons_succ]
                  refine tk6 (.pointer (some ⟨Y, 0, none⟩)) (by kernel_rfl) (by kernel_rfl) (by kernel_rfl) (fun _ _ _ h => h) rfl (fun w hSw => by (try dsimp only at hSw); obtain ⟨s5, s6⟩ := hSw; go_simp) (by assumption) ?_
                  try simp only [Act.put, List.setIfInBounds_toArray, List.set_cons_zero, List.set_cons_succ]
                  refine tk7 (.pointer (some ⟨Y, 5, none⟩)) (by kernel_rfl) (by kernel_rfl) (by kernel_rfl) (fun _ _ _ h => h) rfl (fun w hSw => by (try dsimp only at hSw); obtain ⟨s5, s6⟩ := hSw; go_simp) (by assumption) ?_
                  try simp only [Act.put, List.setIfInBounds_toArray, List.set_cons_zero, List.set_cons_succ]
                  refine tk8 (.bool Q.is) (by kernel_rfl) (by kernel_rfl) (by kernel_rfl) (fun _ _ _ h => h) rfl (fun w hSw => by (try dsimp only at hSw); obtain ⟨s5, s6⟩ := hSw; go_simp) (by assumption) ?_
                  try simp only [Act.put, List.setIfInBounds_toArray, List.set_cons_zero, List.set_cons_succ]
                  refine cl4 (by kernel_rfl) rfl (fun K hK => ?_)
                  go_simp
                  go_at_call 19
                  refine (pready_any J4.out.drew.ps).mono ?_
                  rintro r y5 ⟨rfl, hy5⟩
                  rw [hy5]
                  clear hy5
                  refine hK.out _ _ ?_ (fun hHeld => ?_)
                  · try dsimp only
                    exact ⟨by assumption, by assumption⟩
                  clear hK K
                  try simp only [Act.put, List.setIfInBounds_toArray, List.set_cons_zero, List.set_cons_succ]
                  refine tk9 (.bool false) (by kernel_rfl) (by kernel_rfl) (by kernel_rfl) (fun _ _ _ h => h) rfl (fun w hSw => by (try dsimp only at hSw); obtain ⟨s5, s6⟩ := hSw; go_simp) (by assumption) ?_
                  try simp only [Act.put, List.setIfInBounds_toArray, List.set_cons_zero, List.set_cons_succ]
                  refine tk10 (.bool false) (by kernel_rfl) (by kernel_rfl) (by kernel_rfl) (fun _ _ _ h => h) rfl (fun w hSw => by (try dsimp only at hSw); obtain ⟨s5, s6⟩ := hSw; go_simp) (by assumption) ?_
                  try simp only [Act.put, List.setIfInBounds_toArray, List.set_cons_zero, List.set_cons_succ]
                  refine tk11 (.bool false) (by kernel_rfl) (by kernel_rfl) (by kernel_rfl) (fun _ _ _ h => h) rfl (fun w hSw => by (try dsimp only at hSw); obtain ⟨s5, s6⟩ := hSw; go_simp) (by assumption) ?_
                  try simp only [Act.put, List.setIfInBounds_toArray, List.set_cons_zero, List.set_cons_succ]
                  refine tk12 (.pointer (some ⟨X, 0, none⟩)) (by kernel_rfl) (by kernel_rfl) (by kernel_rfl) (fun _ _ _ h => h) rfl (fun w hSw => by (try dsimp only at hSw); obtain ⟨s5, s6⟩ := hSw; go_simp) (by assumption) ?_
                  try simp only [Act.put, List.setIfInBounds_toArray, List.set_cons_zero, List.set_cons_succ]
                  refine tk14 (.pointer (some ⟨Y, 0, none⟩)) (by kernel_rfl) (by kernel_rfl) (by kernel_rfl) (fun _ _ _ h => h) rfl (fun w hSw => by (try dsimp only at hSw); obtain ⟨s5, s6⟩ := hSw; go_simp) (by assumption) ?_
                  try simp only [Act.put, List.setIfInBounds_toArray, List.set_cons_zero, List.set_cons_succ]
                  refine tk15 (.pointer (some ⟨Y, 0, none⟩)) (by kernel_rfl) (by kernel_rfl) (by kernel_rfl) (fun _ _ _ h => h) rfl (fun w hSw => by (try dsimp only at hSw); obtain ⟨s5, s6⟩ := hSw; go_simp) (by assumption) ?_
                  try simp only [Act.put, List.setIfInBounds_toArray, List.set_cons_zero, List.set_cons_succ]
                  refine tk16 (.pointer (some ⟨Y, 6, none⟩)) (by kernel_rfl) (by kernel_rfl) (by kernel_rfl) (fun _ _ _ h => h) rfl (fun w hSw => by (try dsimp only at hSw); obtain ⟨s5, s6⟩ := hSw; go_simp) (by assumption) ?_
                  try simp only [Act.put, List.setIfInBounds_toArray, List.set_cons_zero, List.set_cons_succ]
                  refine tk17 (.slice va3 Q.vals.length vc3) (by kernel_rfl) (by kernel_rfl) (by kernel_rfl) (fun _ _ _ h => h) rfl (fun w hSw => by (try dsimp only at hSw); obtain ⟨s5, s6⟩ := hSw; go_simp) (by assumption) ?_
                  try simp only [Act.put, List.setIfInBounds_toArray, List.set_cons_zero, List.set_cons_succ]
                  refine cl13 (by kernel_rfl) rfl (fun K hK => ?_)
                  go_simp
                  go_at_call 21
                  refine (pvals_any J4.out.drew.ps HL.out).mono ?_
                  rintro r y5 ⟨u5, rfl, o5, b5⟩
                  obtain ⟨p5, n5, q5, rfl⟩ := own_form o5
                  obtain ⟨g5, g6⟩ := HV.out y5 b5
                  have O5 : Hid _ := o5
                  have B5 : Hid _ := b5
                  clear o5 b5
                  refine hK.out _ _ ?_ (fun hHeld => ?_)
                  · try dsimp only
                    exact ⟨by assumption, by assumption⟩
                  clear hK K
                  try simp only [Act.put, List.setIfInBounds_toArray, List.set_cons_zero, List.set_cons_succ]
                  refine cl18 (by kernel_rfl) rfl (fun K hK => ?_)
                  go_simp
                  go_at_call 20
                  refine (ents_same y5 _ _ Q.vals (RowAt.own enC_len O5.out) (HV3.out y5 B5.out) (by have := HVL.out; omega)).mono ?_
                  rintro r y6 ⟨rfl, b6⟩
                  obtain ⟨h5, h6⟩ := HV.out y6 (bmm B5.out B5.out.size b6)
                  have B6 : Hid (Below y4.drew.heap.size y4.drew y6) := bmm B5.out B5.out.size b6
                  clear b6
                  refine hK.out _ _ ?_ (fun hHeld => ?_)
                  · try dsimp only
                    exact ⟨by assumption, by assumption⟩
                  clear hK K
                  try simp only [Act.put, List.setIfInBounds_toArray, List.set_cons_zero, List.set_cons_succ]
                  refine tk19 (.bool false) (by kernel_rfl) (by kernel_rfl) (by kernel_rfl) (fun _ _ _ h => h) rfl (fun w hSw => by (try dsimp only at hSw); obtain ⟨s5, s6⟩ := hSw; go_simp) (by assumption) ?_
                  try simp only [Act.put, List.setIfInBounds_toArray, List.set_cons_zero, List.set_cons_succ]
                  refine tk20 (.bool false) (by kernel_rfl) (by kernel_rfl) (by kernel_rfl) (fun _ _ _ h => h) rfl (fun w hSw => by (try dsimp only at hSw); obtain ⟨s5, s6⟩ := hSw; go_simp) (by assumption) ?_
                  try simp only [Act.put, List.setIfInBounds_toArray, List.set_cons_zero, List.set_cons_succ]
                  refine tk21 (.bool false) (by kernel_rfl) (by kernel_rfl) (by kernel_rfl) (fun _ _ _ h => h) rfl (fun w hSw => by (try dsimp only at hSw); obtain ⟨s5, s6⟩ := hSw; go_simp) (by assumption) ?_
                  try simp only [Act.put, List.setIfInBounds_toArray, List.set_cons_zero, List.set_cons_succ]
                  refine tk22 (.pointer (some ⟨X, 0, none⟩)) (by kernel_rfl) (by kernel_rfl) (by kernel_rfl) (fun _ _ _ h => h) rfl (fun w hSw => by (try dsimp only at hSw); obtain ⟨s5, s6⟩ := hSw; go_simp) (by assumption) ?_
                  try simp only [Act.put, List.setIfInBounds_toArray, List.set_cons_zero, List.set_cons_succ]
                  refine tk24 (.pointer (some ⟨Y, 0, none⟩)) (by kernel_rfl) (by kernel_rfl) (by kernel_rfl) (fun _ _ _ h => h) rfl (fun w hSw => by (try dsimp only at hSw); obtain ⟨s5, s6⟩ := hSw; go_simp) (by assumption) ?_
                  try simp only [Act.put, List.setIfInBounds_toArray, List.set_cons_zero, List.set_cons_succ]
                  refine cl23 (by kernel_rfl) rfl (fun K hK => ?_)
                  go_simp
                  go_at_call 22
                  refine (popen_any (J4.out.drew.below B6.out).ps HL.out).mono ?_
                  rintro r y7 ⟨u7, rfl, o7, b7⟩
                  obtain ⟨p7, n7, q7, rfl⟩ := own_form o7
                  obtain ⟨j5, j6⟩ := HV.out y7 (bmm B6.out B6.out.size b7)
                  have O7 : Hid _ := o7
                  have B7 : Hid (Below y4.drew.heap.size y4.drew y7) := bmm B6.out B6.out.size b7
                  clear o7 b7
                  refine hK.out _ _ ?_ (fun hHeld => ?_)
                  · try dsimp only
                    exact ⟨by assumption, by assumption⟩
                  clear hK K
                  try simp only [Act.put, List.setIfInBounds_toArray, List.set_cons_zero, List.set_cons_succ]
                  refine cl25 (by kernel_rfl) rfl (fun K hK => ?_)
                  go_simp
                  go_at_call 23
                  refine (HOP.out y7 B7.out).mono ?_
                  rintro r y8 ⟨u8, rfl, o8, b8⟩
                  obtain ⟨p8, n8, q8, rfl⟩ := own_form o8
                  obtain ⟨k5, k6⟩ := HV.out y8 (bmm B7.out B7.out.size b8)
                  have O8 : Hid _ := o8
                  have B78 : Hid _ := b8
                  have B8 : Hid (Below y4.drew.heap.size y4.drew y8) := bmm B7.out B7.out.size b8
                  clear o8 b8
                  refine hK.out _ _ ?_ (fun hHeld => ?_)
                  · try dsimp only
                    exact ⟨by assumption, by assumption⟩
                  clear hK K
                  try simp only [Act.put, List.setIfInBounds_toArray, List.set_cons_zero, List.set_cons_succ]
                  refine cl26 (by kernel_rfl) rfl (fun K hK => ?_)
                  go_simp
                  go_at_call 20
                  refine (ents_same y8 _ _ (openP Q) ((RowAt.own enC_len O7.out).fresh B78.out) (RowAt.own enC_len O8.out) (by have := HOL.out; omega)).mono ?_
                  rintro r y9 ⟨rfl, b9⟩
                  obtain ⟨l5, l6⟩ := HV.out y9 (bmm B8.out B8.out.size b9)
                  have D9 : Hid (Duo W y9 X Y Q) := (J4.out.drew.below (bmm B8.out B8.out.size b9)).duo
                  clear b9
                  refine hK.out _ _ ?_ (fun hHeld => ?_)
                  · try dsimp only
                    exact ⟨by assumption, by assumption⟩
                  clear hK K
                  try simp only [Act.put, List.setIfInBounds_toArray, List.set_cons_zero, List.set_cons_succ]
                  refine tk27 (.bool false) (by kernel_rfl) (by kernel_rfl) (by kernel_rfl) (fun _ _ _ h => h) rfl (fun w hSw => by (try dsimp only at hSw); obtain ⟨s5, s6⟩ := hSw; go_simp) (by assumption) ?_
                  try simp only [Act.put, List.setIfInBounds_toArray, List.set_cons_zero, List.set_cons_succ]
                  refine tk28 (.bool false) (by kernel_rfl) (by kernel_rfl) (by kernel_rfl) (fun _ _ _ h => h) rfl (fun w hSw => by (try dsimp only at hSw); obtain ⟨s5, s6⟩ := hSw; go_simp) (by assumption) ?_
                  try simp only [Act.put, List.setIfInBounds_toArray, List.set_cons_zero, List.set_cons_succ]
                  refine wpAnyH_done (by kernel_rfl) ?_ _
                  go_wp2
                  go_roundw
                  case rel => exact ⟨k + 1, Q, by omega, by omega, by go_num, HQ2, D9⟩
                  case measure => simp [intOf]; omega
                · have q2 : (x.kind == 2) = false := by simpa using k2
                  obtain ⟨Q, hQ⟩ : ∃ Q, Q = choP q x.slot := ⟨_, rfl⟩
                  have hA := J0.out.cho HQ.out HFF.out.fb (by omega) HX.out
                  have hB := fun (y : World) (S2 : Nat → Prop) (h : DeI W y X Y DB S2 S3 Q q x) => h.cho2 HQ.out (by omega)
                  have hP := HQ.out.cho x.slot
                  rw [← hQ] at hA
                  rw [← hQ] at hP
                  simp only [← hQ] at hB
                  have HA : Hid _ := hA
                  have HB : Hid _ := hB
                  have HQ2 : Hid (PlQ Q n f (k + 1)) := hP
                  clear hA hB hP hQ k0 k1 k2
                  go_upto_region 13 with (go_at_call 17; refine Calls.mono HA.out ?_; intro r y2 h2; obtain ⟨S2, e2, p2, k2'⟩ := h2.ex; subst e2; have J2 : Hid (DeI W y2 X Y DB S2 S3 Q q x) := J0.out.stepA p2 k2'; clear p2 k2' h2)
                  clear z0 z1 z2 z3 z4 z5 z6 z7 z8
                  have m2 := J2.out.db.box 2 (.int .i64 x.slot) rfl
                  have HB2 : Hid _ := HB.out y2 S2 J2.out
                  go_upto_region 20 with (go_at_call 18; refine Calls.mono HB2.out ?_; intro r y4 h4; obtain ⟨S4, e4, p4, k4⟩ := h4.ex; subst e4; have J4 : Hid (DeI W y4 X Y DB S2 S4 Q Q x) := J2.out.stepX p4 k4; clear p4 k4 h4)
                  clear HA HB HB2 J0 J2 m2
                  obtain ⟨a1, a2, b3, a4, l4, P4⟩ := J4.out.ra
                  obtain ⟨va3, vc3, e3⟩ := (OwnEn.row P4.o3).form
                  have e3' : b3 = .slice va3 Q.vals.length vc3 := e3
                  subst e3'
                  have w5 := P4.cell 5 (.bool Q.is) rfl
                  have w6 := P4.cell 6 (.slice va3 Q.vals.length vc3) rfl
                  have HV : Hid (∀ y, Below y4.drew.heap.size y4.drew y → y.cell? ⟨Y, 5, none⟩ = some (.bool Q.is) ∧ y.cell? ⟨Y, 6, none⟩ = some (.slice va3 Q.vals.length vc3)) := fun y b => ⟨(P4.drew.fresh b).cell 5 _ rfl, (P4.drew.fresh b).cell 6 _ rfl⟩
                  have HV3 : Hid (∀ y, Below y4.drew.heap.size y4.drew y → RowAt enC y (.slice va3 Q.vals.length vc3) Q.vals) := fun y b => OwnEn.row (P4.drew.fresh b).o3
                  have HOP : Hid (∀ y, Below y4.drew.heap.size y4.drew y → Calls Try.prog 23 #[.pointer (some ⟨Y, 0, none⟩)] y fun e w' => ∃ u, e = .returned u ∧ OwnEn w' y.heap.size u (openP Q) ∧ Below y.heap.size y w') := fun y b => (P4.drew.fresh b).ropen (by have := HQ2.out.ln; omega)
                  have HL : Hid (Lim Q) := HQ2.out.lim HFF.out.fb (by omega)
                  have HVL : Hid (Q.vals.length ≤ 1002) := HQ2.out.vl
                  have HOL : Hid ((openP Q).length ≤ 1300) := by
                    show (openP Q).length ≤ 1300
                    unfold openP
                    rw [List.length_map]
                    have := HQ2.out.ln
                    omega
                  have tq : (Q.is != Q.is) = false := by simp
                  clear P4 e3
                  refine wp_region_held_drew (S := (fun y : World => y.cell? ⟨Y, 5, none⟩ = some (.bool Q.is) ∧ y.cell? ⟨Y, 6, none⟩ = some (.slice va3 Q.vals.length vc3))) (by kernel_rfl) ?_ (fun hHeld0 => ?_)
                  · try dsimp only
                    exact ⟨by assumption, by assumption⟩
                  refine tk0 (.bool true) (by kernel_rfl) (by kernel_rfl) (by kernel_rfl) (fun _ _ _ h => h) rfl (fun w hSw => by (try dsimp only at hSw); obtain ⟨s5, s6⟩ := hSw; go_simp) (by assumption) ?_
                  try simp only [Act.put, List.setIfInBounds_toArray, List.set_cons_zero, List.set_cons_succ]
                  refine tk1 (.bool false) (by kernel_rfl) (by kernel_rfl) (by kernel_rfl) (fun _ _ _ h => h) rfl (fun w hSw => by (try dsimp only at hSw); obtain ⟨s5, s6⟩ := hSw; go_simp) (by assumption) ?_
                  try simp only [Act.put, List.setIfInBounds_toArray, List.set_cons_zero, List.set_cons_succ]
                  refine tk2 (.bool false) (by kernel_rfl) (by kernel_rfl) (by kernel_rfl) (fun _ _ _ h => h) rfl (fun w hSw => by (try dsimp only at hSw); obtain ⟨s5, s6⟩ := hSw; go_simp) (by assumption) ?_
                  try simp only [Act.put, List.setIfInBounds_toArray, List.set_cons_zero, List.set_cons_succ]
                  refine tk3 (.pointer (some ⟨X, 0, none⟩)) (by kernel_rfl) (by kernel_rfl) (by kernel_rfl) (fun _ _ _ h => h) rfl (fun w hSw => by (try dsimp only at hSw); obtain ⟨s5, s6⟩ := hSw; go_simp) (by assumption) ?_
                  try simp only [Act.put, List.setIfInBounds_toArray, List.set_cons_zero, List.set_cons_succ]
                  refine tk5 (.pointer (some ⟨Y, 0, none⟩)) (by kernel_rfl) (by kernel_rfl) (by kernel_rfl) (fun _ _ _ h => h) rfl (fun w hSw => by (try dsimp only at hSw); obtain ⟨s5, s6⟩ := hSw; go_simp) (by assumption) ?_
                  try simp only [Act.put, List.setIfInBounds_toArray, List.set_cons_zero, List.set_cons_succ]
                  refine tk6 (.pointer (some ⟨Y, 0, none⟩)) (by kernel_rfl) (by kernel_rfl) (by kernel_rfl) (fun _ _ _ h => h) rfl (fun w hSw => by (try dsimp only at hSw); obtain ⟨s5, s6⟩ := hSw; go_simp) (by assumption) ?_
                  try simp only [Act.put, List.setIfInBounds_toArray, List.set_cons_zero, List.set_cons_succ]
                  refine tk7 (.pointer (some ⟨Y, 5, none⟩)) (by kernel_rfl) (by kernel_rfl) (by kernel_rfl) (fun _ _ _ h => h) rfl (fun w hSw => by (try dsimp only at hSw); obtain ⟨s5, s6⟩ := hSw; go_simp) (by assumption) ?_
                  try simp only [Act.put, List.setIfInBounds_toArray, List.set_cons_zero, List.set_cons_succ]
                  refine tk8 (.bool Q.is) (by kernel_rfl) (by kernel_rfl) (by kernel_rfl) (fun _ _ _ h => h) rfl (fun w hSw => by (try dsimp only at hSw); obtain ⟨s5, s6⟩ := hSw; go_simp) (by assumption) ?_
                  try simp only [Act.put, List.setIfInBounds_toArray, List.set_cons_zero, List.set_cons_succ]
                  refine cl4 (by kernel_rfl) rfl (fun K hK => ?_)
                  go_simp
                  go_at_call 19
                  refine (pready_any J4.out.drew.ps).mono ?_
                  rintro r y5 ⟨rfl, hy5⟩
                  rw [hy5]
                  clear hy5
                  refine hK.out _ _ ?_ (fun hHeld => ?_)
                  · try dsimp only
                    exact ⟨by assumption, by assumption⟩
                  clear hK K
                  try simp only [Act.put, List.setIfInBounds_toArray, List.set_cons_zero, List.set_cons_succ]
                  refine tk9 (.bool false) (by kernel_rfl) (by kernel_rfl) (by kernel_rfl) (fun _ _ _ h => h) rfl (fun w hSw => by (try dsimp only at hSw); obtain ⟨s5, s6⟩ := hSw; go_simp) (by assumption) ?_
                  try simp only [Act.put, List.setIfInBounds_toArray, List.set_cons_zero, List.set_cons_succ]
                  refine tk10 (.bool false) (by kernel_rfl) (by kernel_rfl) (by kernel_rfl) (fun _ _ _ h => h) rfl (fun w hSw => by (try dsimp only at hSw); obtain ⟨s5, s6⟩ := hSw; go_simp) (by assumption) ?_
                  try simp only [Act.put, List.setIfInBounds_toArray, List.set_cons_zero, List.set_cons_succ]
                  refine tk11 (.bool false) (by kernel_rfl) (by kernel_rfl) (by kernel_rfl) (fun _ _ _ h => h) rfl (fun w hSw => by (try dsimp only at hSw); obtain ⟨s5, s6⟩ := hSw; go_simp) (by assumption) ?_
                  try simp only [Act.put, List.setIfInBounds_toArray, List.set_cons_zero, List.set_cons_succ]
                  refine tk12 (.pointer (some ⟨X, 0, none⟩)) (by kernel_rfl) (by kernel_rfl) (by kernel_rfl) (fun _ _ _ h => h) rfl (fun w hSw => by (try dsimp only at hSw); obtain ⟨s5, s6⟩ := hSw; go_simp) (by assumption) ?_
                  try simp only [Act.put, List.setIfInBounds_toArray, List.set_cons_zero, List.set_cons_succ]
                  refine tk14 (.pointer (some ⟨Y, 0, none⟩)) (by kernel_rfl) (by kernel_rfl) (by kernel_rfl) (fun _ _ _ h => h) rfl (fun w hSw => by (try dsimp only at hSw); obtain ⟨s5, s6⟩ := hSw; go_simp) (by assumption) ?_
                  try simp only [Act.put, List.setIfInBounds_toArray, List.set_cons_zero, List.set_cons_succ]
                  refine tk15 (.pointer (some ⟨Y, 0, none⟩)) (by kernel_rfl) (by kernel_rfl) (by kernel_rfl) (fun _ _ _ h => h) rfl (fun w hSw => by (try dsimp only at hSw); obtain ⟨s5, s6⟩ := hSw; go_simp) (by assumption) ?_
                  try simp only [Act.put, List.setIfInBounds_toArray, List.set_cons_zero, List.set_cons_succ]
                  refine tk16 (.pointer (some ⟨Y, 6, none⟩)) (by kernel_rfl) (by kernel_rfl) (by kernel_rfl) (fun _ _ _ h => h) rfl (fun w hSw => by (try dsimp only at hSw); obtain ⟨s5, s6⟩ := hSw; go_simp) (by assumption) ?_
                  try simp only [Act.put, List.setIfInBounds_toArray, List.set_cons_zero, List.set_cons_succ]
                  refine tk17 (.slice va3 Q.vals.length vc3) (by kernel_rfl) (by kernel_rfl) (by kernel_rfl) (fun _ _ _ h => h) rfl (fun w hSw => by (try dsimp only at hSw); obtain ⟨s5, s6⟩ := hSw; go_simp) (by assumption) ?_
                  try simp only [Act.put, List.setIfInBounds_toArray, List.set_cons_zero, List.set_cons_succ]
                  refine cl13 (by kernel_rfl) rfl (fun K hK => ?_)
                  go_simp
                  go_at_call 21
                  refine (pvals_any J4.out.drew.ps HL.out).mono ?_
                  rintro r y5 ⟨u5, rfl, o5, b5⟩
                  obtain ⟨p5, n5, q5, rfl⟩ := own_form o5
                  obtain ⟨g5, g6⟩ := HV.out y5 b5
                  have O5 : Hid _ := o5
                  have B5 : Hid _ := b5
                  clear o5 b5
                  refine hK.out _ _ ?_ (fun hHeld => ?_)
                  · try dsimp only
                    exact ⟨by assumption, by assumption⟩
                  clear hK K
                  try simp only [Act.put, List.setIfInBounds_toArray, List.set_cons_zero, List.set_cons_succ]
                  refine cl18 (by kernel_rfl) rfl (fun K hK => ?_)
                  go_simp
                  go_at_call 20
                  refine (ents_same y5 _ _ Q.vals (RowAt.own enC_len O5.out) (HV3.out y5 B5.out) (by have := HVL.out; omega)).mono ?_
                  rintro r y6 ⟨rfl, b6⟩
                  obtain ⟨h5, h6⟩ := HV.out y6 (bmm B5.out B5.out.size b6)
                  have B6 : Hid (Below y4.drew.heap.size y4.drew y6) := bmm B5.out B5.out.size b6
                  clear b6
                  refine hK.out _ _ ?_ (fun hHeld => ?_)
                  · try dsimp only
                    exact ⟨by assumption, by assumption⟩
                  clear hK K
                  try simp only [Act.put, List.setIfInBounds_toArray, List.set_cons_zero, List.set_cons_succ]
                  refine tk19 (.bool false) (by kernel_rfl) (by kernel_rfl) (by kernel_rfl) (fun _ _ _ h => h) rfl (fun w hSw => by (try dsimp only at hSw); obtain ⟨s5, s6⟩ := hSw; go_simp) (by assumption) ?_
                  try simp only [Act.put, List.setIfInBounds_toArray, List.set_cons_zero, List.set_cons_succ]
                  refine tk20 (.bool false) (by kernel_rfl) (by kernel_rfl) (by kernel_rfl) (fun _ _ _ h => h) rfl (fun w hSw => by (try dsimp only at hSw); obtain ⟨s5, s6⟩ := hSw; go_simp) (by assumption) ?_
                  try simp only [Act.put, List.setIfInBounds_toArray, List.set_cons_zero, List.set_cons_succ]
                  refine tk21 (.bool false) (by kernel_rfl) (by kernel_rfl) (by kernel_rfl) (fun _ _ _ h => h) rfl (fun w hSw => by (try dsimp only at hSw); obtain ⟨s5, s6⟩ := hSw; go_simp) (by assumption) ?_
                  try simp only [Act.put, List.setIfInBounds_toArray, List.set_cons_zero, List.set_cons_succ]
                  refine tk22 (.pointer (some ⟨X, 0, none⟩)) (by kernel_rfl) (by kernel_rfl) (by kernel_rfl) (fun _ _ _ h => h) rfl (fun w hSw => by (try dsimp only at hSw); obtain ⟨s5, s6⟩ := hSw; go_simp) (by assumption) ?_
                  try simp only [Act.put, List.setIfInBounds_toArray, List.set_cons_zero, List.set_cons_succ]
                  refine tk24 (.pointer (some ⟨Y, 0, none⟩)) (by kernel_rfl) (by kernel_rfl) (by kernel_rfl) (fun _ _ _ h => h) rfl (fun w hSw => by (try dsimp only at hSw); obtain ⟨s5, s6⟩ := hSw; go_simp) (by assumption) ?_
                  try simp only [Act.put, List.setIfInBounds_toArray, List.set_cons_zero, List.set_cons_succ]
                  refine cl23 (by kernel_rfl) rfl (fun K hK => ?_)
                  go_simp
                  go_at_call 22
                  refine (popen_any (J4.out.drew.below B6.out).ps HL.out).mono ?_
                  rintro r y7 ⟨u7, rfl, o7, b7⟩
                  obtain ⟨p7, n7, q7, rfl⟩ := own_form o7
                  obtain ⟨j5, j6⟩ := HV.out y7 (bmm B6.out B6.out.size b7)
                  have O7 : Hid _ := o7
                  have B7 : Hid (Below y4.drew.heap.size y4.drew y7) := bmm B6.out B6.out.size b7
                  clear o7 b7
                  refine hK.out _ _ ?_ (fun hHeld => ?_)
                  · try dsimp only
                    exact ⟨by assumption, by assumption⟩
                  clear hK K
                  try simp only [Act.put, List.setIfInBounds_toArray, List.set_cons_zero, List.set_cons_succ]
                  refine cl25 (by kernel_rfl) rfl (fun K hK => ?_)
                  go_simp
                  go_at_call 23
                  refine (HOP.out y7 B7.out).mono ?_
                  rintro r y8 ⟨u8, rfl, o8, b8⟩
                  obtain ⟨p8, n8, q8, rfl⟩ := own_form o8
                  obtain ⟨k5, k6⟩ := HV.out y8 (bmm B7.out B7.out.size b8)
                  have O8 : Hid _ := o8
                  have B78 : Hid _ := b8
                  have B8 : Hid (Below y4.drew.heap.size y4.drew y8) := bmm B7.out B7.out.size b8
                  clear o8 b8
                  refine hK.out _ _ ?_ (fun hHeld => ?_)
                  · try dsimp only
                    exact ⟨by assumption, by assumption⟩
                  clear hK K
                  try simp only [Act.put, List.setIfInBounds_toArray, List.set_cons_zero, List.set_cons_succ]
                  refine cl26 (by kernel_rfl) rfl (fun K hK => ?_)
                  go_simp
                  go_at_call 20
                  refine (ents_same y8 _ _ (openP Q) ((RowAt.own enC_len O7.out).fresh B78.out) (RowAt.own enC_len O8.out) (by have := HOL.out; omega)).mono ?_
                  rintro r y9 ⟨rfl, b9⟩
                  obtain ⟨l5, l6⟩ := HV.out y9 (bmm B8.out B8.out.size b9)
                  have D9 : Hid (Duo W y9 X Y Q) := (J4.out.drew.below (bmm B8.out B8.out.size b9)).duo
                  clear b9
                  refine hK.out _ _ ?_ (fun hHeld => ?_)
                  · try dsimp only
                    exact ⟨by assumption, by assumption⟩
                  clear hK K
                  try simp only [Act.put, List.setIfInBounds_toArray, List.set_cons_zero, List.set_cons_succ]
                  refine tk27 (.bool false) (by kernel_rfl) (by kernel_rfl) (by kernel_rfl) (fun _ _ _ h => h) rfl (fun w hSw => by (try dsimp only at hSw); obtain ⟨s5, s6⟩ := hSw; go_simp) (by assumption) ?_
                  try simp only [Act.put, List.setIfInBounds_toArray, List.set_cons_zero, List.set_cons_succ]
                  refine tk28 (.bool false) (by kernel_rfl) (by kernel_rfl) (by kernel_rfl) (fun _ _ _ h => h) rfl (fun w hSw => by (try dsimp only at hSw); obtain ⟨s5, s6⟩ := hSw; go_simp) (by assumption) ?_
                  try simp only [Act.put, List.setIfInBounds_toArray, List.set_cons_zero, List.set_cons_succ]
                  refine wpAnyH_done (by kernel_rfl) ?_ _
                  go_wp2
                  go_roundw
                  case rel => exact ⟨k + 1, Q, by omega, by omega, by go_num, HQ2, D9⟩
                  case measure => simp [intOf]; omega
          · have t1 : decide ((k : Int) < 200) = false := decide_eq_false (by omega)
            have BI : Hid (Below W.heap.size W wr) := I1.out.bel
            go_wp2_with (go_at_call 8; refine (awake_any _).mono ?_; rintro xx w3 ⟨rfl, b3⟩; have B3 : Hid (Below W.heap.size W w3) := bmm BI.out BI.out.size b3; clear b3)
            go_ret
            exact ⟨rfl, HBW.out.trans (B3.out.mono HBW.out.size)⟩
        · have t0 : decide ((k : Int) < (l.length : Int)) = false := decide_eq_false (by omega)
          have BI : Hid (Below W.heap.size W wr) := I1.out.bel
          go_wp2_with (go_at_call 8; refine (awake_any _).mono ?_; rintro xx w3 ⟨rfl, b3⟩; have B3 : Hid (Below W.heap.size W w3) := bmm BI.out BI.out.size b3; clear b3)
          go_ret
          exact ⟨rfl, HBW.out.trans (B3.out.mono HBW.out.size)⟩
end Go.Proofs.Ytmlgoecdefeapaa
