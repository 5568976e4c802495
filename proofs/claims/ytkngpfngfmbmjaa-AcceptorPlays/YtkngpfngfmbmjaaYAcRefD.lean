/-
  The document's acceptor: New. The condition: at most 2^28 entries, which rise above Base.
-/
import Derived.Test.YtkngpfngfmbmjaaYAcRefC
import Derived.Test.YtkngpfngfmbmjaaYAcNew
namespace Go.Proofs.Ytkngpfngfmbmjaa
open Go.Shelf Go.RowKit Go.Lib Go.Sort

section
variable {P : Program} {md : Region.Mode} {Q : Exit → Act → World → Prop} {S : World → Prop} {fuel : Nat} {listed : Array Bool} {a : Act} {w : World} {l : List Oper}
theorem rd4_11 {o0 o1 o2 o3 o4 o5 o6 o7 o8 o9 o10 o11 : Oper} (hr : Region.ready md (o0 :: o1 :: o2 :: o3 :: o4 :: o5 :: o6 :: o7 :: o8 :: o9 :: o10 :: o11 :: l).toArray listed = [4, 11]) (hw0 : Region.wanted o4 (yielded (o0 :: o1 :: o2 :: o3 :: o4 :: o5 :: o6 :: o7 :: o8 :: o9 :: o10 :: o11 :: l).toArray a.tmps) = true) (hw1 : Region.wanted o11 (yielded (o0 :: o1 :: o2 :: o3 :: o4 :: o5 :: o6 :: o7 :: o8 :: o9 :: o10 :: o11 :: l).toArray a.tmps) = true)
    (h0 : ∀ K' : Act → World → Prop, Shut (∀ a w, S w → (S w → wpAnyH P md (o0 :: o1 :: o2 :: o3 :: o4 :: o5 :: o6 :: o7 :: o8 :: o9 :: o10 :: o11 :: l).toArray Q S fuel (listed.setIfInBounds 4 true) a w) → K' a w) → Oper.wp P o4 a w K' Q)
    (h1 : ∀ K' : Act → World → Prop, Shut (∀ a w, S w → (S w → wpAnyH P md (o0 :: o1 :: o2 :: o3 :: o4 :: o5 :: o6 :: o7 :: o8 :: o9 :: o10 :: o11 :: l).toArray Q S fuel (listed.setIfInBounds 11 true) a w) → K' a w) → Oper.wp P o11 a w K' Q) : wpAnyH P md (o0 :: o1 :: o2 :: o3 :: o4 :: o5 :: o6 :: o7 :: o8 :: o9 :: o10 :: o11 :: l).toArray Q S (fuel + 1) listed a w :=
  wpAnyH_ready hr (by simp) (AllReadyH.cons (o := o4) rfl (fun K hK => by rw [if_pos hw0]; exact h0 K hK) (AllReadyH.cons (o := o11) rfl (fun K hK => by rw [if_pos hw1]; exact h1 K hK) AllReadyH.nil))
end

structure NwI (W y : World) (X : Nat) (D : Du) : Prop where
  ex : ∃ S v, RA y W.heap.size S X D v
  bel : Below W.heap.size W y
def nwD (d : Du) (k : Nat) : Du := foldD ⟨d.p, d.b, d.s, []⟩ ((d.es.take k).map accR)
theorem nwD_next (d : Du) (k : Nat) (hk : k < d.es.length) : nwD d (k + 1) = foldD (nwD d k) [accR d.es[k]] := by
  unfold nwD
  rw [List.take_add_one, List.getElem?_eq_getElem hk, List.map_append, foldD_append]
  rfl
theorem nwD_len (d : Du) (k : Nat) : (nwD d k).es.length ≤ k := by
  have h := foldD_length ((d.es.take k).map accR) ⟨d.p, d.b, d.s, []⟩
  rw [List.length_map, List.length_take] at h
  have h2 : (⟨d.p, d.b, d.s, []⟩ : Du).es.length = 0 := rfl
  unfold nwD
  omega
theorem nwD_all (d : Du) (h : Rises d.b d.es) (k : Nat) (hk : d.es.length ≤ k) : (nwD d k).b = d.b ∧ (nwD d k).s = d.s ∧ (nwD d k).es = d.es := by
  unfold nwD
  rw [List.take_of_length_le hk]
  have h1 := foldD_base (d.es.map accR) ⟨d.p, d.b, d.s, []⟩
  exact ⟨h1.1, h1.2, new_same d h⟩
set_option maxHeartbeats 6400000 in
set_option maxRecDepth 100000 in
theorem rnew_any (w : World) (d : Du) (v : Value) (hv : RowAt enC w v d.es) (hR : Rises d.b d.es) (hl : d.es.length ≤ 268435456) : Calls Try.prog 11 #[.agg (duA d v)] w (NewPost 63 w d) := by
  obtain ⟨va, vc, rfl⟩ := hv.form
  obtain ⟨W, hW⟩ : ∃ W, W = w.alloc (.cells (duA d (.slice va d.es.length vc)) 24) := ⟨_, rfl⟩
  have bW : Below w.heap.size w W := by rw [hW]; exact (Below.refl _ w).alloc (Nat.le_refl _) _
  have dW : DuAt W w.heap.size d (.slice va d.es.length vc) := by rw [hW]; exact heap_alloc_new w _
  have HD : Hid (∀ y, Below W.heap.size W y → DuAt y w.heap.size d (.slice va d.es.length vc)) := fun y b => (b.block _ (lt_of_block dW)).trans dW
  have HV : Hid (∀ y, Below W.heap.size W y → RowAt enC y (.slice va d.es.length vc) d.es) := fun y b => (hv.fresh bW).fresh b
  have HW : Hid (w.alloc (.cells (duA d (.slice va d.es.length vc)) 24) = W) := hW.symm
  have BW : Hid (Below w.heap.size w W) := bW
  have c0 := dW.c0
  have c1 := dW.c1
  have c2 := dW.c2
  have HRi : Hid _ := hR
  clear hW bW dW hv hR
  go_enter Try.func11, Try.ntmps11
  go_upto_region 1 with fail
  rw [HW.out]
  go_upto_region 2 with fail
  obtain ⟨y0, hy0⟩ : ∃ y, y = W.alloc (.cells #[.int .i64 d.p, .int .i64 d.b, .string d.s, .slice none 0 0] 63) := ⟨_, rfl⟩
  obtain ⟨X, hX⟩ : ∃ X, X = W.heap.size := ⟨_, rfl⟩
  have a0 : Below W.heap.size W y0 := by rw [hy0]; exact (Below.refl _ _).alloc (Nat.le_refl _) _
  have N0 : Hid (NwI W y0 X (nwD d 0)) := by
    refine ⟨⟨fun b => b = X ∨ (Value.slice none 0 0).ownBlock = some b, .slice none 0 0, ?_, World.ownsRow_nil _ _ _ _, by rw [hX]; exact Nat.le_refl _, by simp [Value.ownBlock], fun _ => Iff.rfl⟩, a0⟩
    rw [hy0, hX]
    exact heap_alloc_new W _
  have HY0 : Hid (W.alloc (.cells #[.int .i64 d.p, .int .i64 d.b, .string d.s, .slice none 0 0] 63) = y0) := hy0.symm
  have HX0 : Hid (W.heap.size = X) := hX.symm
  rw [HY0.out, HX0.out]
  clear hy0 hX a0 c0 c1 c2 HY0 HX0
  go_wp2
  go_loopw [4] (fun i wr => ∃ k : Nat, k ≤ d.es.length ∧ i = .int .i64 (k : Int) ∧ Hid (NwI W wr X (nwD d k))) (fun i _ => d.es.length - (intOf i).toNat)
  case atStart => exact ⟨0, Nat.zero_le _, rfl, N0⟩
  case round =>
    clear N0
    obtain ⟨k, hk, rfl, N1⟩ := hrel
    obtain ⟨⟨S1, v1, hp⟩, hb⟩ := N1.out
    have h1 := HD.out _ hb
    have c0 := h1.c0
    have c3 := h1.c3
    have hln := nwD_len d k
    clear h1 N1
    by_cases hkl : k < d.es.length
    · have t0 : decide ((k : Int) < (d.es.length : Int)) = true := decide_eq_true (by omega)
      have i1 : (k : Int) < (d.es.length : Int) := by omega
      have i2 : (0 : Int) ≤ (k : Int) := by omega
      have i3 : ((k : Int)).toNat = k := by omega
      have hnx := nwD_next d k hkl
      obtain ⟨D, hD⟩ : ∃ D, D = nwD d k := ⟨_, rfl⟩
      rw [← hD] at hp hln hnx
      obtain ⟨bk, off, cap', hvv, hcap, hbk, hc⟩ := (HV.out _ hb).cells enC_len (by omega)
      injection hvv with e1 e2 e3
      subst e1 e3
      obtain ⟨x, hx⟩ : ∃ x, x = d.es[k] := ⟨_, rfl⟩
      rw [← hx] at hnx
      have HC : Hid (∀ y, Below W.heap.size W y → y.cell? ⟨w.heap.size, 3, none⟩ = some (.slice (some ⟨bk, off, none⟩) d.es.length vc) ∧ y.cell? ⟨bk, off + k * 7, none⟩ = some (.int .i64 x.slot) ∧ y.cell? ⟨bk, off + k * 7 + 1, none⟩ = some (.int .i64 x.ballot) ∧ y.cell? ⟨bk, off + k * 7 + 2, none⟩ = some (.int .i64 x.cmd.kind) ∧ y.cell? ⟨bk, off + k * 7 + 3, none⟩ = some (.int .i64 x.cmd.session) ∧ y.cell? ⟨bk, off + k * 7 + 4, none⟩ = some (.int .i64 x.cmd.seq) ∧ y.cell? ⟨bk, off + k * 7 + 5, none⟩ = some (.string x.cmd.name) ∧ y.cell? ⟨bk, off + k * 7 + 6, none⟩ = some (.int .i64 x.cmd.n)) := fun y b => by
        obtain ⟨bk', off', cap2, hv2, _, _, hc2⟩ := (HV.out y b).cells enC_len (by omega)
        injection hv2 with e1 e2 e3
        injection e1 with e1
        injection e1 with e1 e4
        subst e1 e4
        exact ⟨(HD.out y b).c3, by have := hc2 k hkl 0 (.int .i64 x.slot) (by decide) (by rw [hx]; rfl); simpa using this, by have := hc2 k hkl 1 (.int .i64 x.ballot) (by decide) (by rw [hx]; rfl); simpa using this, by have := hc2 k hkl 2 (.int .i64 x.cmd.kind) (by decide) (by rw [hx]; rfl); simpa using this, by have := hc2 k hkl 3 (.int .i64 x.cmd.session) (by decide) (by rw [hx]; rfl); simpa using this, by have := hc2 k hkl 4 (.int .i64 x.cmd.seq) (by decide) (by rw [hx]; rfl); simpa using this, by have := hc2 k hkl 5 (.string x.cmd.name) (by decide) (by rw [hx]; rfl); simpa using this, by have := hc2 k hkl 6 (.int .i64 x.cmd.n) (by decide) (by rw [hx]; rfl); simpa using this⟩
      obtain ⟨pv, nv, qv, rfl⟩ := own_form hp.own
      have P1 : Hid _ := hp
      have B1 : Hid _ := hb
      have HX : Hid (nwD d (k + 1) = foldD D [accR x]) := hnx
      have m0 := hp.c0
      have m1 := hp.c1
      have m2 := hp.c2
      have m3 := hp.c3
      have cs := HC.out _ hb
      have ce0 := cs.2.1
      have ce1 := cs.2.2.1
      have ce2 := cs.2.2.2.1
      have ce3 := cs.2.2.2.2.1
      have ce4 := cs.2.2.2.2.2.1
      have ce5 := cs.2.2.2.2.2.2.1
      have ce6 := cs.2.2.2.2.2.2.2
      clear cs hc hx hnx hD hp hb hcap hbk
      go_upto_region 5 with fail
      refine wp_region_held_drew (S := (fun y : World => y.cell? ⟨w.heap.size, 3, none⟩ = some (.slice (some ⟨bk, off, none⟩) d.es.length vc) ∧ y.cell? ⟨bk, off + k * 7, none⟩ = some (.int .i64 x.slot) ∧ y.cell? ⟨bk, off + k * 7 + 1, none⟩ = some (.int .i64 x.ballot) ∧ y.cell? ⟨bk, off + k * 7 + 2, none⟩ = some (.int .i64 x.cmd.kind) ∧ y.cell? ⟨bk, off + k * 7 + 3, none⟩ = some (.int .i64 x.cmd.session) ∧ y.cell? ⟨bk, off + k * 7 + 4, none⟩ = some (.int .i64 x.cmd.seq) ∧ y.cell? ⟨bk, off + k * 7 + 5, none⟩ = some (.string x.cmd.name) ∧ y.cell? ⟨bk, off + k * 7 + 6, none⟩ = some (.int .i64 x.cmd.n))) (by kernel_rfl) ?_ (fun hHeld0 => ?_)
      · try dsimp only
        go_keep
      refine tk0 (.pointer (some ⟨X, 0, none⟩)) (by kernel_rfl) (by kernel_rfl) (by kernel_rfl) (fun _ _ _ h => h) rfl (fun w hSw => by (try dsimp only at hSw); obtain ⟨s3, a0, a1, a2, a3, a4, a5, a6⟩ := hSw; go_simp) (by assumption) ?_
      try simp only [Act.put, List.setIfInBounds_toArray, List.set_cons_zero, List.set_cons_succ]
      refine tk1 (.pointer (some ⟨X, 0, none⟩)) (by kernel_rfl) (by kernel_rfl) (by kernel_rfl) (fun _ _ _ h => h) rfl (fun w hSw => by (try dsimp only at hSw); obtain ⟨s3, a0, a1, a2, a3, a4, a5, a6⟩ := hSw; go_simp) (by assumption) ?_
      try simp only [Act.put, List.setIfInBounds_toArray, List.set_cons_zero, List.set_cons_succ]
      refine tk2 (.pointer (some ⟨X, 0, none⟩)) (by kernel_rfl) (by kernel_rfl) (by kernel_rfl) (fun _ _ _ h => h) rfl (fun w hSw => by (try dsimp only at hSw); obtain ⟨s3, a0, a1, a2, a3, a4, a5, a6⟩ := hSw; go_simp) (by assumption) ?_
      try simp only [Act.put, List.setIfInBounds_toArray, List.set_cons_zero, List.set_cons_succ]
      refine tk3 (.pointer (some ⟨X, 0, none⟩)) (by kernel_rfl) (by kernel_rfl) (by kernel_rfl) (fun _ _ _ h => h) rfl (fun w hSw => by (try dsimp only at hSw); obtain ⟨s3, a0, a1, a2, a3, a4, a5, a6⟩ := hSw; go_simp) (by assumption) ?_
      try simp only [Act.put, List.setIfInBounds_toArray, List.set_cons_zero, List.set_cons_succ]
      refine tk5 (.pointer (some ⟨w.heap.size, 3, none⟩)) (by kernel_rfl) (by kernel_rfl) (by kernel_rfl) (fun _ _ _ h => h) rfl (fun w hSw => by (try dsimp only at hSw); obtain ⟨s3, a0, a1, a2, a3, a4, a5, a6⟩ := hSw; go_simp) (by assumption) ?_
      try simp only [Act.put, List.setIfInBounds_toArray, List.set_cons_zero, List.set_cons_succ]
      refine tk6 (.slice (some ⟨bk, off, none⟩) d.es.length vc) (by kernel_rfl) (by kernel_rfl) (by kernel_rfl) (fun _ _ _ h => h) rfl (fun w hSw => by (try dsimp only at hSw); obtain ⟨s3, a0, a1, a2, a3, a4, a5, a6⟩ := hSw; go_simp) (by assumption) ?_
      try simp only [Act.put, List.setIfInBounds_toArray, List.set_cons_zero, List.set_cons_succ]
      refine tk7 (.int .i64 (k : Int)) (by kernel_rfl) (by kernel_rfl) (by kernel_rfl) (fun _ _ _ h => h) rfl (fun w hSw => by (try dsimp only at hSw); obtain ⟨s3, a0, a1, a2, a3, a4, a5, a6⟩ := hSw; go_simp) (by assumption) ?_
      try simp only [Act.put, List.setIfInBounds_toArray, List.set_cons_zero, List.set_cons_succ]
      refine tk8 (.pointer (some ⟨bk, off + k * 7, none⟩)) (by kernel_rfl) (by kernel_rfl) (by kernel_rfl) (fun _ _ _ h => h) rfl (fun w hSw => by (try dsimp only at hSw); obtain ⟨s3, a0, a1, a2, a3, a4, a5, a6⟩ := hSw; go_simp) (by assumption) ?_
      try simp only [Act.put, List.setIfInBounds_toArray, List.set_cons_zero, List.set_cons_succ]
      refine tk9 (.agg (enA x)) (by kernel_rfl) (by kernel_rfl) (by kernel_rfl) (fun _ _ _ h => h) rfl (fun w hSw => by (try dsimp only at hSw); obtain ⟨s3, a0, a1, a2, a3, a4, a5, a6⟩ := hSw; go_simp) (by assumption) ?_
      try simp only [Act.put, List.setIfInBounds_toArray, List.set_cons_zero, List.set_cons_succ]
      refine tk10 (.agg #[.int .i64 2, .int .i64 0, .int .i64 x.slot, .int .i64 x.ballot, .int .i64 x.cmd.kind, .int .i64 x.cmd.session, .int .i64 x.cmd.seq, .string x.cmd.name, .int .i64 x.cmd.n]) (by kernel_rfl) (by kernel_rfl) (by kernel_rfl) (fun _ _ _ h => h) rfl (fun w hSw => by (try dsimp only at hSw); obtain ⟨s3, a0, a1, a2, a3, a4, a5, a6⟩ := hSw; go_simp) (by assumption) ?_
      try simp only [Act.put, List.setIfInBounds_toArray, List.set_cons_zero, List.set_cons_succ]
      refine rd4_11 (by kernel_rfl) rfl rfl (fun K hK => ?_) (fun K hK => ?_)
      · go_simp
        refine hK.out _ _ ?_ (fun hHeld => ?_)
        · try dsimp only
          go_keep
        clear hK K
        try simp only [Act.put, List.setIfInBounds_toArray, List.set_cons_zero, List.set_cons_succ]
        refine cl11 (by kernel_rfl) rfl (fun K hK => ?_)
        go_simp
        obtain ⟨y3, hy3⟩ : ∃ y, y = wr.drew.alloc (.cells #[.int .i64 2, .int .i64 0, .int .i64 x.slot, .int .i64 x.ballot, .int .i64 x.cmd.kind, .int .i64 x.cmd.session, .int .i64 x.cmd.seq, .string x.cmd.name, .int .i64 x.cmd.n] 65) := ⟨_, rfl⟩
        have t3 : Below wr.heap.size wr y3 := by rw [hy3]; exact undrew ((Below.refl _ wr.drew).alloc (Nat.le_refl _) _)
        have p3 := P1.out.fresh t3
        have rw3 : RowAt rcC y3 (.slice (some ⟨wr.heap.size, 0, none⟩) 1 1) [accR x] := by rw [hy3]; exact RowAt.built (heap_alloc_new wr.drew _) rfl 1 rfl rfl
        rw [show (wr.alloc (.cells #[.int .i64 2, .int .i64 0, .int .i64 x.slot, .int .i64 x.ballot, .int .i64 x.cmd.kind, .int .i64 x.cmd.session, .int .i64 x.cmd.seq, .string x.cmd.name, .int .i64 x.cmd.n] 65)).drew = y3 from hy3.symm]
        have b3 := bmm B1.out B1.out.size t3
        have P3 : Hid _ := p3
        have RW3 : Hid _ := rw3
        have k0 := p3.c0
        have k1 := p3.c1
        have k2 := p3.c2
        have k3 := p3.c3
        have vs := HC.out y3 b3
        have v3 := vs.1
        have ve0 := vs.2.1
        have ve1 := vs.2.2.1
        have ve2 := vs.2.2.2.1
        have ve3 := vs.2.2.2.2.1
        have ve4 := vs.2.2.2.2.2.1
        have ve5 := vs.2.2.2.2.2.2.1
        have ve6 := vs.2.2.2.2.2.2.2
        clear vs
        have B3 : Hid _ := b3
        clear hy3 t3 p3 rw3 b3
        refine hK.out _ _ ?_ (fun hHeld => ?_)
        · try dsimp only
          go_keep
        clear hK K
        try simp only [Act.put, List.setIfInBounds_toArray, List.set_cons_zero, List.set_cons_succ]
        refine cl12 (by kernel_rfl) rfl (fun K hK => ?_)
        go_simp
        go_at_call 24
        refine (rfold_any y3 D _ _ [accR x] (OwnEn.row P3.out.own) RW3.out (by omega) (by simp)).mono ?_
        rintro r y4 ⟨v4, rfl, o4, t4⟩
        obtain ⟨p4, n4, q4, rfl⟩ := own_form o4
        have p4x := P3.out.fresh t4
        have b4 := bmm B3.out B3.out.size t4
        have P4 : Hid _ := p4x
        have O4 : Hid (OwnEn y4 W.heap.size (.slice p4 n4 q4) (foldD D [accR x]).es) := own_mono o4 B3.out.size
        have us := HC.out y4 b4
        have u3 := us.1
        have ue0 := us.2.1
        have ue1 := us.2.2.1
        have ue2 := us.2.2.2.1
        have ue3 := us.2.2.2.2.1
        have ue4 := us.2.2.2.2.2.1
        have ue5 := us.2.2.2.2.2.2.1
        have ue6 := us.2.2.2.2.2.2.2
        clear us
        have B4 : Hid _ := b4
        clear p4x o4 t4 b4
        refine hK.out _ _ ?_ (fun hHeld => ?_)
        · try dsimp only
          go_keep
        clear hK K
        try simp only [Act.put, List.setIfInBounds_toArray, List.set_cons_zero, List.set_cons_succ]
        refine tk13 (.pointer (some ⟨X, 0, none⟩)) (by kernel_rfl) (by kernel_rfl) (by kernel_rfl) (fun _ _ _ h => h) rfl (fun w hSw => by (try dsimp only at hSw); obtain ⟨s3, a0, a1, a2, a3, a4, a5, a6⟩ := hSw; go_simp) (by assumption) ?_
        try simp only [Act.put, List.setIfInBounds_toArray, List.set_cons_zero, List.set_cons_succ]
        refine tk14 (.pointer (some ⟨X, 0, none⟩)) (by kernel_rfl) (by kernel_rfl) (by kernel_rfl) (fun _ _ _ h => h) rfl (fun w hSw => by (try dsimp only at hSw); obtain ⟨s3, a0, a1, a2, a3, a4, a5, a6⟩ := hSw; go_simp) (by assumption) ?_
        try simp only [Act.put, List.setIfInBounds_toArray, List.set_cons_zero, List.set_cons_succ]
        refine cl15 (by kernel_rfl) rfl (fun K hK => ?_)
        refine wp_store_row 24 _ _ rfl X (duA (foldD D [accR x]) (.slice p4 n4 q4)) rfl rfl 63 _ P4.out.blk sizeDu rfl (by simp [Value.oneCell']) ?_
        obtain ⟨y5, hy5⟩ : ∃ y, y = y4.setRow X (duA (foldD D [accR x]) (.slice p4 n4 q4)) := ⟨_, rfl⟩
        have g5 : y4.grownBy y5 (some X) := by rw [hy5]; exact grown_setRow_g _ _ _
        have x5 : y5.heap[X]? = some (.cells (duA (foldD D [accR x]) (.slice p4 n4 q4)) 63 (0, 0)) := by rw [hy5]; exact setRow_heap _ X _ _ _ _ P4.out.blk
        rw [← hy5]
        have b5 := B4.out.grown g5 B4.out.size (fun k hk => by have h1 := Option.some.inj hk; have h2 := P4.out.lo; omega)
        have N5 : Hid (NwI W y5 X (foldD D [accR x])) := ⟨⟨_, _, P4.out.next x5 (own_keep O4.out fun g e => g5.block g (World.ownsRow.lt O4.out g e).2 (fun e2 => own_ne O4.out P4.out.blk (by decide) (by rw [e, e2]))) (by decide)⟩, b5⟩
        have fs := HC.out y5 b5
        have f3 := fs.1
        have fe0 := fs.2.1
        have fe1 := fs.2.2.1
        have fe2 := fs.2.2.2.1
        have fe3 := fs.2.2.2.2.1
        have fe4 := fs.2.2.2.2.2.1
        have fe5 := fs.2.2.2.2.2.2.1
        have fe6 := fs.2.2.2.2.2.2.2
        clear fs
        clear hy5 g5 x5 b5
        refine hK.out _ _ ?_ (fun hHeld => ?_)
        · try dsimp only
          go_keep
        clear hK K
        refine wpAnyH_done (by kernel_rfl) ?_ _
        go_wp2
        go_roundw
        case rel => exact ⟨k + 1, hkl, by go_num, by rw [HX.out]; exact N5⟩
        case measure => simp [intOf]; omega
      · go_simp
        obtain ⟨y3, hy3⟩ : ∃ y, y = wr.drew.alloc (.cells #[.int .i64 2, .int .i64 0, .int .i64 x.slot, .int .i64 x.ballot, .int .i64 x.cmd.kind, .int .i64 x.cmd.session, .int .i64 x.cmd.seq, .string x.cmd.name, .int .i64 x.cmd.n] 65) := ⟨_, rfl⟩
        have t3 : Below wr.heap.size wr y3 := by rw [hy3]; exact undrew ((Below.refl _ wr.drew).alloc (Nat.le_refl _) _)
        have p3 := P1.out.fresh t3
        have rw3 : RowAt rcC y3 (.slice (some ⟨wr.heap.size, 0, none⟩) 1 1) [accR x] := by rw [hy3]; exact RowAt.built (heap_alloc_new wr.drew _) rfl 1 rfl rfl
        rw [show (wr.alloc (.cells #[.int .i64 2, .int .i64 0, .int .i64 x.slot, .int .i64 x.ballot, .int .i64 x.cmd.kind, .int .i64 x.cmd.session, .int .i64 x.cmd.seq, .string x.cmd.name, .int .i64 x.cmd.n] 65)).drew = y3 from hy3.symm]
        have b3 := bmm B1.out B1.out.size t3
        have P3 : Hid _ := p3
        have RW3 : Hid _ := rw3
        have k0 := p3.c0
        have k1 := p3.c1
        have k2 := p3.c2
        have k3 := p3.c3
        have vs := HC.out y3 b3
        have v3 := vs.1
        have ve0 := vs.2.1
        have ve1 := vs.2.2.1
        have ve2 := vs.2.2.2.1
        have ve3 := vs.2.2.2.2.1
        have ve4 := vs.2.2.2.2.2.1
        have ve5 := vs.2.2.2.2.2.2.1
        have ve6 := vs.2.2.2.2.2.2.2
        clear vs
        have B3 : Hid _ := b3
        clear hy3 t3 p3 rw3 b3
        refine hK.out _ _ ?_ (fun hHeld => ?_)
        · try dsimp only
          go_keep
        clear hK K
        try simp only [Act.put, List.setIfInBounds_toArray, List.set_cons_zero, List.set_cons_succ]
        refine cl4 (by kernel_rfl) rfl (fun K hK => ?_)
        go_simp
        refine hK.out _ _ ?_ (fun hHeld => ?_)
        · try dsimp only
          go_keep
        clear hK K
        try simp only [Act.put, List.setIfInBounds_toArray, List.set_cons_zero, List.set_cons_succ]
        refine cl12 (by kernel_rfl) rfl (fun K hK => ?_)
        go_simp
        go_at_call 24
        refine (rfold_any y3 D _ _ [accR x] (OwnEn.row P3.out.own) RW3.out (by omega) (by simp)).mono ?_
        rintro r y4 ⟨v4, rfl, o4, t4⟩
        obtain ⟨p4, n4, q4, rfl⟩ := own_form o4
        have p4x := P3.out.fresh t4
        have b4 := bmm B3.out B3.out.size t4
        have P4 : Hid _ := p4x
        have O4 : Hid (OwnEn y4 W.heap.size (.slice p4 n4 q4) (foldD D [accR x]).es) := own_mono o4 B3.out.size
        have us := HC.out y4 b4
        have u3 := us.1
        have ue0 := us.2.1
        have ue1 := us.2.2.1
        have ue2 := us.2.2.2.1
        have ue3 := us.2.2.2.2.1
        have ue4 := us.2.2.2.2.2.1
        have ue5 := us.2.2.2.2.2.2.1
        have ue6 := us.2.2.2.2.2.2.2
        clear us
        have B4 : Hid _ := b4
        clear p4x o4 t4 b4
        refine hK.out _ _ ?_ (fun hHeld => ?_)
        · try dsimp only
          go_keep
        clear hK K
        try simp only [Act.put, List.setIfInBounds_toArray, List.set_cons_zero, List.set_cons_succ]
        refine tk13 (.pointer (some ⟨X, 0, none⟩)) (by kernel_rfl) (by kernel_rfl) (by kernel_rfl) (fun _ _ _ h => h) rfl (fun w hSw => by (try dsimp only at hSw); obtain ⟨s3, a0, a1, a2, a3, a4, a5, a6⟩ := hSw; go_simp) (by assumption) ?_
        try simp only [Act.put, List.setIfInBounds_toArray, List.set_cons_zero, List.set_cons_succ]
        refine tk14 (.pointer (some ⟨X, 0, none⟩)) (by kernel_rfl) (by kernel_rfl) (by kernel_rfl) (fun _ _ _ h => h) rfl (fun w hSw => by (try dsimp only at hSw); obtain ⟨s3, a0, a1, a2, a3, a4, a5, a6⟩ := hSw; go_simp) (by assumption) ?_
        try simp only [Act.put, List.setIfInBounds_toArray, List.set_cons_zero, List.set_cons_succ]
        refine cl15 (by kernel_rfl) rfl (fun K hK => ?_)
        refine wp_store_row 24 _ _ rfl X (duA (foldD D [accR x]) (.slice p4 n4 q4)) rfl rfl 63 _ P4.out.blk sizeDu rfl (by simp [Value.oneCell']) ?_
        obtain ⟨y5, hy5⟩ : ∃ y, y = y4.setRow X (duA (foldD D [accR x]) (.slice p4 n4 q4)) := ⟨_, rfl⟩
        have g5 : y4.grownBy y5 (some X) := by rw [hy5]; exact grown_setRow_g _ _ _
        have x5 : y5.heap[X]? = some (.cells (duA (foldD D [accR x]) (.slice p4 n4 q4)) 63 (0, 0)) := by rw [hy5]; exact setRow_heap _ X _ _ _ _ P4.out.blk
        rw [← hy5]
        have b5 := B4.out.grown g5 B4.out.size (fun k hk => by have h1 := Option.some.inj hk; have h2 := P4.out.lo; omega)
        have N5 : Hid (NwI W y5 X (foldD D [accR x])) := ⟨⟨_, _, P4.out.next x5 (own_keep O4.out fun g e => g5.block g (World.ownsRow.lt O4.out g e).2 (fun e2 => own_ne O4.out P4.out.blk (by decide) (by rw [e, e2]))) (by decide)⟩, b5⟩
        have fs := HC.out y5 b5
        have f3 := fs.1
        have fe0 := fs.2.1
        have fe1 := fs.2.2.1
        have fe2 := fs.2.2.2.1
        have fe3 := fs.2.2.2.2.1
        have fe4 := fs.2.2.2.2.2.1
        have fe5 := fs.2.2.2.2.2.2.1
        have fe6 := fs.2.2.2.2.2.2.2
        clear fs
        clear hy5 g5 x5 b5
        refine hK.out _ _ ?_ (fun hHeld => ?_)
        · try dsimp only
          go_keep
        clear hK K
        refine wpAnyH_done (by kernel_rfl) ?_ _
        go_wp2
        go_roundw
        case rel => exact ⟨k + 1, hkl, by go_num, by rw [HX.out]; exact N5⟩
        case measure => simp [intOf]; omega
    · have t0 : decide ((k : Int) < (d.es.length : Int)) = false := decide_eq_false (by omega)
      have i1 : ¬ (k : Int) < (d.es.length : Int) := by omega
      have ha := nwD_all d HRi.out k (by omega)
      have x0 := hp.c0
      have f0 := hp.fz 0
      have P2 : Hid _ := hp.set0 d.p
      have B2 : Hid (Below w.heap.size w (wr.setCell ⟨X, 0, none⟩ (.int .i64 d.p))) := (BW.out.trans (hb.mono BW.out.size)).setCell (p := ⟨X, 0, none⟩) (by show w.heap.size ≤ X; have h1 := hp.lo; have h2 := BW.out.size; omega) _
      have HA : Hid _ := ha
      clear hp hb ha
      go_wp2
      go_ret
      obtain ⟨a1, a2, a3⟩ := HA.out
      have p2 := P2.out
      rw [a1, a2, a3] at p2
      exact ⟨S1, X, v1, rfl, ⟨p2.blk, own_mono p2.own BW.out.size, Nat.le_trans BW.out.size p2.lo, p2.ne, p2.set⟩, B2.out⟩
end Go.Proofs.Ytkngpfngfmbmjaa
