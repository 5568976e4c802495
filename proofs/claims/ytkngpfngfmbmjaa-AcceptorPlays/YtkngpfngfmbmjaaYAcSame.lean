/-
  Whether both acceptors know the same: they do where what they know is one thing. The conditions: at most 2^29 entries, which rise; a text has at most 2^48 bytes.
-/
import Derived.Test.YtkngpfngfmbmjaaYAcRefD
import Derived.Test.YtkngpfngfmbmjaaYAcNil
import Derived.Test.YtkngpfngfmbmjaaYPack5
namespace Go.Proofs.Ytkngpfngfmbmjaa
open Go.Shelf Go.RowKit Go.Lib Go.Sort


set_option maxHeartbeats 3200000 in
set_option maxRecDepth 100000 in
/-- Two rows of the same entries, by the document's own. -/
theorem ents_same (w : World) (va vb : Value) (es : List En) (ha : RowAt enC w va es) (hb : RowAt enC w vb es) (hn : es.length ≤ 9223372036854775807) :
    Calls Try.prog 29 #[va, vb] w fun e w' => e = .returned (.bool true) ∧ Below w.heap.size w w' := by
  obtain ⟨pa, ca, rfl⟩ := ha.form
  obtain ⟨pb, cb, rfl⟩ := hb.form
  have GA : Hid (∀ y, Below w.heap.size w y → RowAt enC y (.slice pa es.length ca) es) := fun y b => ha.fresh b
  have GB : Hid (∀ y, Below w.heap.size w y → RowAt enC y (.slice pb es.length cb) es) := fun y b => hb.fresh b
  clear ha hb
  have hl' : ((es.length : Int) == (es.length : Int)) = true := by simp
  go_enter Try.func29, Try.ntmps29
  go_wp2
  go_loopw [4, 5] (fun _ i wr => ∃ k : Nat, k ≤ es.length ∧ i = .int .i64 (k : Int) ∧ Below w.heap.size w wr) (fun _ i _ => es.length - (intOf i).toNat)
  case atStart => exact ⟨0, Nat.zero_le _, rfl, Below.refl _ _⟩
  case round =>
    obtain ⟨k, hk, rfl, hbw⟩ := hrel
    by_cases hkl : k < es.length
    · obtain ⟨ka, oa, ca', hva, _, _, xa⟩ := (GA.out wr hbw).cells enC_len (by omega)
      obtain ⟨kb, ob, cb', hvb, _, _, xb⟩ := (GB.out wr hbw).cells enC_len (by omega)
      injection hva with e1 e2 e3
      injection hvb with e4 e5 e6
      subst e1 e3 e4 e6
      obtain ⟨x, hx⟩ : ∃ e, e = es[k] := ⟨_, rfl⟩
      have a0 := xa k hkl 0 (.int .i64 x.slot) (by decide) (by rw [hx]; rfl)
      have a1 := xa k hkl 1 (.int .i64 x.ballot) (by decide) (by rw [hx]; rfl)
      have a2 := xa k hkl 2 (.int .i64 x.cmd.kind) (by decide) (by rw [hx]; rfl)
      have a3 := xa k hkl 3 (.int .i64 x.cmd.session) (by decide) (by rw [hx]; rfl)
      have a4 := xa k hkl 4 (.int .i64 x.cmd.seq) (by decide) (by rw [hx]; rfl)
      have a5 := xa k hkl 5 (.string x.cmd.name) (by decide) (by rw [hx]; rfl)
      have a6 := xa k hkl 6 (.int .i64 x.cmd.n) (by decide) (by rw [hx]; rfl)
      have b0 := xb k hkl 0 (.int .i64 x.slot) (by decide) (by rw [hx]; rfl)
      have b1 := xb k hkl 1 (.int .i64 x.ballot) (by decide) (by rw [hx]; rfl)
      have b2 := xb k hkl 2 (.int .i64 x.cmd.kind) (by decide) (by rw [hx]; rfl)
      have b3 := xb k hkl 3 (.int .i64 x.cmd.session) (by decide) (by rw [hx]; rfl)
      have b4 := xb k hkl 4 (.int .i64 x.cmd.seq) (by decide) (by rw [hx]; rfl)
      have b5 := xb k hkl 5 (.string x.cmd.name) (by decide) (by rw [hx]; rfl)
      have b6 := xb k hkl 6 (.int .i64 x.cmd.n) (by decide) (by rw [hx]; rfl)
      rw [Nat.add_zero] at a0 b0
      have hkb : (k : Int) < (es.length : Int) := by omega
      have q := ent_neq x x
      rw [(eqE_iff x x).2 rfl] at q
      simp only [Bool.not_true] at q
      have BW : Hid _ := hbw
      clear xa xb hx hbw
      go_wp2
      go_region_held3 (fun w' => w'.cell? ⟨ka, oa + k * 7, none⟩ = some (.int .i64 x.slot) ∧ w'.cell? ⟨ka, oa + k * 7 + 1, none⟩ = some (.int .i64 x.ballot) ∧ w'.cell? ⟨ka, oa + k * 7 + 2, none⟩ = some (.int .i64 x.cmd.kind) ∧ w'.cell? ⟨ka, oa + k * 7 + 3, none⟩ = some (.int .i64 x.cmd.session) ∧ w'.cell? ⟨ka, oa + k * 7 + 4, none⟩ = some (.int .i64 x.cmd.seq) ∧ w'.cell? ⟨ka, oa + k * 7 + 5, none⟩ = some (.string x.cmd.name) ∧ w'.cell? ⟨ka, oa + k * 7 + 6, none⟩ = some (.int .i64 x.cmd.n) ∧ w'.cell? ⟨kb, ob + k * 7, none⟩ = some (.int .i64 x.slot) ∧ w'.cell? ⟨kb, ob + k * 7 + 1, none⟩ = some (.int .i64 x.ballot) ∧ w'.cell? ⟨kb, ob + k * 7 + 2, none⟩ = some (.int .i64 x.cmd.kind) ∧ w'.cell? ⟨kb, ob + k * 7 + 3, none⟩ = some (.int .i64 x.cmd.session) ∧ w'.cell? ⟨kb, ob + k * 7 + 4, none⟩ = some (.int .i64 x.cmd.seq) ∧ w'.cell? ⟨kb, ob + k * 7 + 5, none⟩ = some (.string x.cmd.name) ∧ w'.cell? ⟨kb, ob + k * 7 + 6, none⟩ = some (.int .i64 x.cmd.n)) (go_keep) (first | fail)
      go_wp2
      go_roundw
      case rel => exact ⟨k + 1, hkl, by go_num, ⟨BW.out.os, BW.out.tape, BW.out.output, BW.out.size, BW.out.block⟩⟩
      case measure => simp [intOf]; omega
    · have hkb : ¬ (k : Int) < (es.length : Int) := by omega
      obtain rfl : k = es.length := by omega
      have BW : Hid _ := hbw
      clear hbw
      go_wp2
      go_ret
      exact ⟨rfl, BW.out⟩
set_option maxHeartbeats 6400000 in
set_option maxRecDepth 100000 in
theorem same_any {w : World} {base base' X Y : Nat} {S S' : Nat → Prop} {d : Du} {v v' : Value} (h : PA w base S X d v) (h' : RA w base' S' Y d v') (hr : Rises d.b d.es) (hl : d.es.length ≤ 536870912) (hz : SzD d) (s : Int) : Calls Try.prog 12 #[.pointer (some ⟨X, 0, none⟩), .pointer (some ⟨Y, 0, none⟩), .int .i64 s] w fun e w' => e = .returned (.bool true) ∧ Below w.heap.size w w' := by
  obtain ⟨py, ny, cy, rfl⟩ := own_form h'.own
  have HP0 : Hid (∀ y, Below w.heap.size w y → PA y base S X d v) := fun y b => h.fresh b
  have HQ0 : Hid (∀ y, Below w.heap.size w y → RA y base' S' Y d (.slice py ny cy)) := fun y b => h'.fresh b
  have HR : Hid _ := hr
  have HZ : Hid _ := hz
  obtain ⟨o, ho⟩ : ∃ o, o = (findE d.es s).getD En.zero := ⟨_, rfl⟩
  obtain ⟨fs, hfs⟩ : ∃ fs, fs = (findE d.es s).isSome := ⟨_, rfl⟩
  have q1 : Calls Try.prog 22 #[.pointer (some ⟨X, 0, none⟩), .int .i64 s] w fun xx w' => xx = .returned (.tuple #[.agg (enA o), .bool fs]) ∧ Below w.heap.size w w' := by rw [ho, hfs]; exact pat_any h hr hl hz.es s
  have q2 : ∀ y, Below w.heap.size w y → Calls Try.prog 28 #[.pointer (some ⟨Y, 0, none⟩), .int .i64 s] y fun xx w' => xx = .returned (.tuple #[.agg (enA o), .bool fs]) ∧ Below y.heap.size y w' := fun y b => by rw [ho, hfs]; exact rat_any (HQ0.out y b) hl s
  have Q2 : Hid _ := q2
  clear h h' hr hz ho hfs q2
  go_enter Try.func12, Try.ntmps12
  go_upto_region 2 with (go_at_call 22; refine q1.mono ?_; rintro xx w1 ⟨rfl, b1⟩)
  obtain ⟨Y1, hY1⟩ : ∃ y, y = w1.alloc (.cells (enA o) 36) := ⟨_, rfl⟩
  obtain ⟨E1, hE1⟩ : ∃ O, O = w1.heap.size := ⟨_, rfl⟩
  have c1 : Below w.heap.size w Y1 := by rw [hY1]; exact b1.alloc b1.size _
  have e1 : EnAt Y1 E1 o := by rw [hY1, hE1]; exact heap_alloc_new w1 _
  have HY1 : Hid (w1.alloc (.cells (enA o) 36) = Y1) := hY1.symm
  have HE1 : Hid (w1.heap.size = E1) := hE1.symm
  rw [HY1.out, HE1.out]
  have qx := Q2.out Y1 c1
  have C1 : Hid _ := c1
  have EE1 : Hid _ := e1
  clear hY1 hE1 c1 e1 b1 q1 HY1 HE1
  go_upto_region 3 with (go_at_call 28; refine qx.mono ?_; rintro xx w2 ⟨rfl, b2⟩)
  obtain ⟨Y2, hY2⟩ : ∃ y, y = w2.alloc (.cells (enA o) 36) := ⟨_, rfl⟩
  obtain ⟨E2, hE2⟩ : ∃ O, O = w2.heap.size := ⟨_, rfl⟩
  have c2 : Below Y1.heap.size Y1 Y2 := by rw [hY2]; exact b2.alloc b2.size _
  have e2 : EnAt Y2 E2 o := by rw [hY2, hE2]; exact heap_alloc_new w2 _
  have e1 : EnAt Y2 E1 o := (c2.block _ (lt_of_block EE1.out)).trans EE1.out
  have cc : Below w.heap.size w Y2 := bmm C1.out C1.out.size c2
  have BY : Hid (Below w.heap.size w Y2) := cc
  have HP : Hid (∀ y, Below Y2.heap.size Y2 y → PA y base S X d v) := fun y b => (HP0.out Y2 cc).fresh b
  have HQ : Hid (∀ y, Below Y2.heap.size Y2 y → RA y base' S' Y d (.slice py ny cy)) := fun y b => (HQ0.out Y2 cc).fresh b
  have SC : Hid (∀ y, Below Y2.heap.size Y2 y → y.cell? ⟨Y, 0, none⟩ = some (.int .i64 d.p) ∧ y.cell? ⟨Y, 1, none⟩ = some (.int .i64 d.b) ∧ y.cell? ⟨Y, 2, none⟩ = some (.string d.s) ∧ y.cell? ⟨Y, 3, none⟩ = some (.slice py ny cy) ∧ y.cell? ⟨E1, 0, none⟩ = some (.int .i64 o.slot) ∧ y.cell? ⟨E1, 1, none⟩ = some (.int .i64 o.ballot) ∧ y.cell? ⟨E1, 2, none⟩ = some (.int .i64 o.cmd.kind) ∧ y.cell? ⟨E1, 3, none⟩ = some (.int .i64 o.cmd.session) ∧ y.cell? ⟨E1, 4, none⟩ = some (.int .i64 o.cmd.seq) ∧ y.cell? ⟨E1, 5, none⟩ = some (.string o.cmd.name) ∧ y.cell? ⟨E1, 6, none⟩ = some (.int .i64 o.cmd.n) ∧ y.cell? ⟨E2, 0, none⟩ = some (.int .i64 o.slot) ∧ y.cell? ⟨E2, 1, none⟩ = some (.int .i64 o.ballot) ∧ y.cell? ⟨E2, 2, none⟩ = some (.int .i64 o.cmd.kind) ∧ y.cell? ⟨E2, 3, none⟩ = some (.int .i64 o.cmd.session) ∧ y.cell? ⟨E2, 4, none⟩ = some (.int .i64 o.cmd.seq) ∧ y.cell? ⟨E2, 5, none⟩ = some (.string o.cmd.name) ∧ y.cell? ⟨E2, 6, none⟩ = some (.int .i64 o.cmd.n)) := fun y b => by
    have f1 : EnAt y E1 o := (b.block _ (lt_of_block e1)).trans e1
    have f2 : EnAt y E2 o := (b.block _ (lt_of_block e2)).trans e2
    have f3 := HQ.out y b
    exact ⟨f3.c0, f3.c1, f3.c2, f3.c3, EnAt.box f1 0 _ rfl, EnAt.box f1 1 _ rfl, EnAt.box f1 2 _ rfl, EnAt.box f1 3 _ rfl, EnAt.box f1 4 _ rfl, EnAt.box f1 5 _ rfl, EnAt.box f1 6 _ rfl, EnAt.box f2 0 _ rfl, EnAt.box f2 1 _ rfl, EnAt.box f2 2 _ rfl, EnAt.box f2 3 _ rfl, EnAt.box f2 4 _ rfl, EnAt.box f2 5 _ rfl, EnAt.box f2 6 _ rfl⟩
  have HY2 : Hid (w2.alloc (.cells (enA o) 36) = Y2) := hY2.symm
  have HE2 : Hid (w2.heap.size = E2) := hE2.symm
  rw [HY2.out, HE2.out]
  have hee : ∀ w, (binOp .eql 36 (.agg (enA o)) (.agg (enA o))).run Try.prog w = .ok (.bool true) w := fun w => by rw [ent_eql, (eqE_iff o o).2 rfl]
  have tf : (fs == fs) = true := by simp
  have tp : (d.p == d.p) = true := by simp
  clear hY2 hE2 c2 e2 e1 cc b2 qx HY2 HE2
  refine wp_region_held_drew (S := (fun y : World => y.cell? ⟨Y, 0, none⟩ = some (.int .i64 d.p) ∧ y.cell? ⟨Y, 1, none⟩ = some (.int .i64 d.b) ∧ y.cell? ⟨Y, 2, none⟩ = some (.string d.s) ∧ y.cell? ⟨Y, 3, none⟩ = some (.slice py ny cy) ∧ y.cell? ⟨E1, 0, none⟩ = some (.int .i64 o.slot) ∧ y.cell? ⟨E1, 1, none⟩ = some (.int .i64 o.ballot) ∧ y.cell? ⟨E1, 2, none⟩ = some (.int .i64 o.cmd.kind) ∧ y.cell? ⟨E1, 3, none⟩ = some (.int .i64 o.cmd.session) ∧ y.cell? ⟨E1, 4, none⟩ = some (.int .i64 o.cmd.seq) ∧ y.cell? ⟨E1, 5, none⟩ = some (.string o.cmd.name) ∧ y.cell? ⟨E1, 6, none⟩ = some (.int .i64 o.cmd.n) ∧ y.cell? ⟨E2, 0, none⟩ = some (.int .i64 o.slot) ∧ y.cell? ⟨E2, 1, none⟩ = some (.int .i64 o.ballot) ∧ y.cell? ⟨E2, 2, none⟩ = some (.int .i64 o.cmd.kind) ∧ y.cell? ⟨E2, 3, none⟩ = some (.int .i64 o.cmd.session) ∧ y.cell? ⟨E2, 4, none⟩ = some (.int .i64 o.cmd.seq) ∧ y.cell? ⟨E2, 5, none⟩ = some (.string o.cmd.name) ∧ y.cell? ⟨E2, 6, none⟩ = some (.int .i64 o.cmd.n))) (by kernel_rfl) ?_ (fun hHeld0 => ?_)
  · exact SC.out _ ⟨rfl, rfl, rfl, Nat.le_refl _, fun _ _ => rfl⟩
  obtain ⟨y0, hy0⟩ : ∃ y, y = Y2.drew := ⟨_, rfl⟩
  have b0 : Below Y2.heap.size Y2 y0 := by rw [hy0]; exact ⟨rfl, rfl, rfl, Nat.le_refl _, fun _ _ => rfl⟩
  rw [← hy0] at hHeld0 ⊢
  clear hy0
  have jx := SC.out y0 b0
  have j0 := jx.1
  have j1 := jx.2.1
  have j2 := jx.2.2.1
  have j3 := jx.2.2.2.1
  have j4 := jx.2.2.2.2.1
  have j5 := jx.2.2.2.2.2.1
  have j6 := jx.2.2.2.2.2.2.1
  have j7 := jx.2.2.2.2.2.2.2.1
  have j8 := jx.2.2.2.2.2.2.2.2.1
  have j9 := jx.2.2.2.2.2.2.2.2.2.1
  have j10 := jx.2.2.2.2.2.2.2.2.2.2.1
  have j11 := jx.2.2.2.2.2.2.2.2.2.2.2.1
  have j12 := jx.2.2.2.2.2.2.2.2.2.2.2.2.1
  have j13 := jx.2.2.2.2.2.2.2.2.2.2.2.2.2.1
  have j14 := jx.2.2.2.2.2.2.2.2.2.2.2.2.2.2.1
  have j15 := jx.2.2.2.2.2.2.2.2.2.2.2.2.2.2.2.1
  have j16 := jx.2.2.2.2.2.2.2.2.2.2.2.2.2.2.2.2.1
  have j17 := jx.2.2.2.2.2.2.2.2.2.2.2.2.2.2.2.2.2
  clear jx
  refine tk0 (.pointer (some ⟨X, 0, none⟩)) (by kernel_rfl) (by kernel_rfl) (by kernel_rfl) (fun _ _ _ h => h) rfl (fun w hSw => by (try dsimp only at hSw); obtain ⟨s0, s1, s2, s3, a0, a1, a2, a3, a4, a5, a6, b0, b1, b2, b3, b4, b5, b6⟩ := hSw; go_simp) (by assumption) ?_
  try simp only [Act.put, List.setIfInBounds_toArray, List.set_cons_zero, List.set_cons_succ]
  refine tk2 (.pointer (some ⟨Y, 0, none⟩)) (by kernel_rfl) (by kernel_rfl) (by kernel_rfl) (fun _ _ _ h => h) rfl (fun w hSw => by (try dsimp only at hSw); obtain ⟨s0, s1, s2, s3, a0, a1, a2, a3, a4, a5, a6, b0, b1, b2, b3, b4, b5, b6⟩ := hSw; go_simp) (by assumption) ?_
  try simp only [Act.put, List.setIfInBounds_toArray, List.set_cons_zero, List.set_cons_succ]
  refine tk3 (.pointer (some ⟨Y, 0, none⟩)) (by kernel_rfl) (by kernel_rfl) (by kernel_rfl) (fun _ _ _ h => h) rfl (fun w hSw => by (try dsimp only at hSw); obtain ⟨s0, s1, s2, s3, a0, a1, a2, a3, a4, a5, a6, b0, b1, b2, b3, b4, b5, b6⟩ := hSw; go_simp) (by assumption) ?_
  try simp only [Act.put, List.setIfInBounds_toArray, List.set_cons_zero, List.set_cons_succ]
  refine tk4 (.pointer (some ⟨Y, 0, none⟩)) (by kernel_rfl) (by kernel_rfl) (by kernel_rfl) (fun _ _ _ h => h) rfl (fun w hSw => by (try dsimp only at hSw); obtain ⟨s0, s1, s2, s3, a0, a1, a2, a3, a4, a5, a6, b0, b1, b2, b3, b4, b5, b6⟩ := hSw; go_simp) (by assumption) ?_
  try simp only [Act.put, List.setIfInBounds_toArray, List.set_cons_zero, List.set_cons_succ]
  refine tk5 (.pointer (some ⟨Y, 0, none⟩)) (by kernel_rfl) (by kernel_rfl) (by kernel_rfl) (fun _ _ _ h => h) rfl (fun w hSw => by (try dsimp only at hSw); obtain ⟨s0, s1, s2, s3, a0, a1, a2, a3, a4, a5, a6, b0, b1, b2, b3, b4, b5, b6⟩ := hSw; go_simp) (by assumption) ?_
  try simp only [Act.put, List.setIfInBounds_toArray, List.set_cons_zero, List.set_cons_succ]
  refine tk6 (.int .i64 d.p) (by kernel_rfl) (by kernel_rfl) (by kernel_rfl) (fun _ _ _ h => h) rfl (fun w hSw => by (try dsimp only at hSw); obtain ⟨s0, s1, s2, s3, a0, a1, a2, a3, a4, a5, a6, b0, b1, b2, b3, b4, b5, b6⟩ := hSw; go_simp) (by assumption) ?_
  try simp only [Act.put, List.setIfInBounds_toArray, List.set_cons_zero, List.set_cons_succ]
  refine cl1 (by kernel_rfl) rfl (fun K hK => ?_)
  go_simp
  go_at_call 20
  refine (pprom_any (HP.out y0 b0)).mono ?_
  rintro xx wz ⟨rfl, hwz⟩
  rw [hwz]
  clear hwz
  refine hK.out _ _ ?_ (fun hHeld => ?_)
  · try dsimp only
    go_keep
  clear hK K
  try simp only [Act.put, List.setIfInBounds_toArray, List.set_cons_zero, List.set_cons_succ]
  refine tk7 (.bool true) (by kernel_rfl) (by kernel_rfl) (by kernel_rfl) (fun _ _ _ h => h) rfl (fun w hSw => by (try dsimp only at hSw); obtain ⟨s0, s1, s2, s3, a0, a1, a2, a3, a4, a5, a6, b0, b1, b2, b3, b4, b5, b6⟩ := hSw; go_simp) (by assumption) ?_
  try simp only [Act.put, List.setIfInBounds_toArray, List.set_cons_zero, List.set_cons_succ]
  refine tk8 (.bool true) (by kernel_rfl) (by kernel_rfl) (by kernel_rfl) (fun _ _ _ h => h) rfl (fun w hSw => by (try dsimp only at hSw); obtain ⟨s0, s1, s2, s3, a0, a1, a2, a3, a4, a5, a6, b0, b1, b2, b3, b4, b5, b6⟩ := hSw; go_simp) (by assumption) ?_
  try simp only [Act.put, List.setIfInBounds_toArray, List.set_cons_zero, List.set_cons_succ]
  refine tk9 (.pointer (some ⟨X, 0, none⟩)) (by kernel_rfl) (by kernel_rfl) (by kernel_rfl) (fun _ _ _ h => h) rfl (fun w hSw => by (try dsimp only at hSw); obtain ⟨s0, s1, s2, s3, a0, a1, a2, a3, a4, a5, a6, b0, b1, b2, b3, b4, b5, b6⟩ := hSw; go_simp) (by assumption) ?_
  try simp only [Act.put, List.setIfInBounds_toArray, List.set_cons_zero, List.set_cons_succ]
  refine tk11 (.pointer (some ⟨Y, 0, none⟩)) (by kernel_rfl) (by kernel_rfl) (by kernel_rfl) (fun _ _ _ h => h) rfl (fun w hSw => by (try dsimp only at hSw); obtain ⟨s0, s1, s2, s3, a0, a1, a2, a3, a4, a5, a6, b0, b1, b2, b3, b4, b5, b6⟩ := hSw; go_simp) (by assumption) ?_
  try simp only [Act.put, List.setIfInBounds_toArray, List.set_cons_zero, List.set_cons_succ]
  refine tk12 (.pointer (some ⟨Y, 0, none⟩)) (by kernel_rfl) (by kernel_rfl) (by kernel_rfl) (fun _ _ _ h => h) rfl (fun w hSw => by (try dsimp only at hSw); obtain ⟨s0, s1, s2, s3, a0, a1, a2, a3, a4, a5, a6, b0, b1, b2, b3, b4, b5, b6⟩ := hSw; go_simp) (by assumption) ?_
  try simp only [Act.put, List.setIfInBounds_toArray, List.set_cons_zero, List.set_cons_succ]
  refine tk13 (.pointer (some ⟨Y, 0, none⟩)) (by kernel_rfl) (by kernel_rfl) (by kernel_rfl) (fun _ _ _ h => h) rfl (fun w hSw => by (try dsimp only at hSw); obtain ⟨s0, s1, s2, s3, a0, a1, a2, a3, a4, a5, a6, b0, b1, b2, b3, b4, b5, b6⟩ := hSw; go_simp) (by assumption) ?_
  try simp only [Act.put, List.setIfInBounds_toArray, List.set_cons_zero, List.set_cons_succ]
  refine tk14 (.agg #[.int .i64 d.p, .int .i64 d.b, .string d.s, .slice py ny cy]) (by kernel_rfl) (by kernel_rfl) (by kernel_rfl) (fun _ _ _ h => h) rfl (fun w hSw => by (try dsimp only at hSw); obtain ⟨s0, s1, s2, s3, a0, a1, a2, a3, a4, a5, a6, b0, b1, b2, b3, b4, b5, b6⟩ := hSw; go_simp) (by assumption) ?_
  try simp only [Act.put, List.setIfInBounds_toArray, List.set_cons_zero, List.set_cons_succ]
  refine cl10 (by kernel_rfl) rfl (fun K hK => ?_)
  go_simp
  go_at_call 25
  refine (pdur_any (HP.out y0 b0) HR.out hl HZ.out).mono ?_
  rintro xx y1 ⟨v1, rfl, o1, c1⟩
  obtain ⟨p1, n1, q1, rfl⟩ := own_form o1
  have b1 := bmm b0 b0.size c1
  have O1 : Hid _ := o1
  clear o1
  have kx := SC.out y1 b1
  have k0 := kx.1
  have k1 := kx.2.1
  have k2 := kx.2.2.1
  have k3 := kx.2.2.2.1
  have k4 := kx.2.2.2.2.1
  have k5 := kx.2.2.2.2.2.1
  have k6 := kx.2.2.2.2.2.2.1
  have k7 := kx.2.2.2.2.2.2.2.1
  have k8 := kx.2.2.2.2.2.2.2.2.1
  have k9 := kx.2.2.2.2.2.2.2.2.2.1
  have k10 := kx.2.2.2.2.2.2.2.2.2.2.1
  have k11 := kx.2.2.2.2.2.2.2.2.2.2.2.1
  have k12 := kx.2.2.2.2.2.2.2.2.2.2.2.2.1
  have k13 := kx.2.2.2.2.2.2.2.2.2.2.2.2.2.1
  have k14 := kx.2.2.2.2.2.2.2.2.2.2.2.2.2.2.1
  have k15 := kx.2.2.2.2.2.2.2.2.2.2.2.2.2.2.2.1
  have k16 := kx.2.2.2.2.2.2.2.2.2.2.2.2.2.2.2.2.1
  have k17 := kx.2.2.2.2.2.2.2.2.2.2.2.2.2.2.2.2.2
  clear kx
  refine hK.out _ _ ?_ (fun hHeld => ?_)
  · try dsimp only
    go_keep
  clear hK K
  try simp only [Act.put, List.setIfInBounds_toArray, List.set_cons_zero, List.set_cons_succ]
  refine cl15 (by kernel_rfl) rfl (fun K hK => ?_)
  go_simp
  go_at_call 23
  refine (rsameD_any _ d d _ _ (OwnEn.row O1.out) (OwnEn.row (HQ.out y1 b1).own) (by omega) true (by simp)).mono ?_
  rintro xx y2 ⟨rfl, c2⟩
  have b2 := bmm b1 b1.size c2
  have lx := SC.out y2 b2
  have l0 := lx.1
  have l1 := lx.2.1
  have l2 := lx.2.2.1
  have l3 := lx.2.2.2.1
  have l4 := lx.2.2.2.2.1
  have l5 := lx.2.2.2.2.2.1
  have l6 := lx.2.2.2.2.2.2.1
  have l7 := lx.2.2.2.2.2.2.2.1
  have l8 := lx.2.2.2.2.2.2.2.2.1
  have l9 := lx.2.2.2.2.2.2.2.2.2.1
  have l10 := lx.2.2.2.2.2.2.2.2.2.2.1
  have l11 := lx.2.2.2.2.2.2.2.2.2.2.2.1
  have l12 := lx.2.2.2.2.2.2.2.2.2.2.2.2.1
  have l13 := lx.2.2.2.2.2.2.2.2.2.2.2.2.2.1
  have l14 := lx.2.2.2.2.2.2.2.2.2.2.2.2.2.2.1
  have l15 := lx.2.2.2.2.2.2.2.2.2.2.2.2.2.2.2.1
  have l16 := lx.2.2.2.2.2.2.2.2.2.2.2.2.2.2.2.2.1
  have l17 := lx.2.2.2.2.2.2.2.2.2.2.2.2.2.2.2.2.2
  clear lx
  refine hK.out _ _ ?_ (fun hHeld => ?_)
  · try dsimp only
    go_keep
  clear hK K
  try simp only [Act.put, List.setIfInBounds_toArray, List.set_cons_zero, List.set_cons_succ]
  refine tk16 (.bool true) (by kernel_rfl) (by kernel_rfl) (by kernel_rfl) (fun _ _ _ h => h) rfl (fun w hSw => by (try dsimp only at hSw); obtain ⟨s0, s1, s2, s3, a0, a1, a2, a3, a4, a5, a6, b0, b1, b2, b3, b4, b5, b6⟩ := hSw; go_simp) (by assumption) ?_
  try simp only [Act.put, List.setIfInBounds_toArray, List.set_cons_zero, List.set_cons_succ]
  refine tk17 (.bool true) (by kernel_rfl) (by kernel_rfl) (by kernel_rfl) (fun _ _ _ h => h) rfl (fun w hSw => by (try dsimp only at hSw); obtain ⟨s0, s1, s2, s3, a0, a1, a2, a3, a4, a5, a6, b0, b1, b2, b3, b4, b5, b6⟩ := hSw; go_simp) (by assumption) ?_
  try simp only [Act.put, List.setIfInBounds_toArray, List.set_cons_zero, List.set_cons_succ]
  refine tk18 (.pointer (some ⟨X, 0, none⟩)) (by kernel_rfl) (by kernel_rfl) (by kernel_rfl) (fun _ _ _ h => h) rfl (fun w hSw => by (try dsimp only at hSw); obtain ⟨s0, s1, s2, s3, a0, a1, a2, a3, a4, a5, a6, b0, b1, b2, b3, b4, b5, b6⟩ := hSw; go_simp) (by assumption) ?_
  try simp only [Act.put, List.setIfInBounds_toArray, List.set_cons_zero, List.set_cons_succ]
  refine tk19 (.int .i64 s) (by kernel_rfl) (by kernel_rfl) (by kernel_rfl) (fun _ _ _ h => h) rfl (fun w hSw => by (try dsimp only at hSw); obtain ⟨s0, s1, s2, s3, a0, a1, a2, a3, a4, a5, a6, b0, b1, b2, b3, b4, b5, b6⟩ := hSw; go_simp) (by assumption) ?_
  try simp only [Act.put, List.setIfInBounds_toArray, List.set_cons_zero, List.set_cons_succ]
  refine tk21 (.pointer (some ⟨Y, 0, none⟩)) (by kernel_rfl) (by kernel_rfl) (by kernel_rfl) (fun _ _ _ h => h) rfl (fun w hSw => by (try dsimp only at hSw); obtain ⟨s0, s1, s2, s3, a0, a1, a2, a3, a4, a5, a6, b0, b1, b2, b3, b4, b5, b6⟩ := hSw; go_simp) (by assumption) ?_
  try simp only [Act.put, List.setIfInBounds_toArray, List.set_cons_zero, List.set_cons_succ]
  refine tk22 (.int .i64 s) (by kernel_rfl) (by kernel_rfl) (by kernel_rfl) (fun _ _ _ h => h) rfl (fun w hSw => by (try dsimp only at hSw); obtain ⟨s0, s1, s2, s3, a0, a1, a2, a3, a4, a5, a6, b0, b1, b2, b3, b4, b5, b6⟩ := hSw; go_simp) (by assumption) ?_
  try simp only [Act.put, List.setIfInBounds_toArray, List.set_cons_zero, List.set_cons_succ]
  refine cl20 (by kernel_rfl) rfl (fun K hK => ?_)
  go_simp
  go_at_call 21
  refine (pfrom_any (HP.out y2 b2) HR.out hl HZ.out.es s).mono ?_
  rintro xx y3 ⟨v3, rfl, o3, c3⟩
  obtain ⟨p3, n3, q3, rfl⟩ := own_form o3
  have b3 := bmm b2 b2.size c3
  have O3 : Hid _ := OwnEn.row o3
  clear o3
  have mx := SC.out y3 b3
  have m0 := mx.1
  have m1 := mx.2.1
  have m2 := mx.2.2.1
  have m3 := mx.2.2.2.1
  have m4 := mx.2.2.2.2.1
  have m5 := mx.2.2.2.2.2.1
  have m6 := mx.2.2.2.2.2.2.1
  have m7 := mx.2.2.2.2.2.2.2.1
  have m8 := mx.2.2.2.2.2.2.2.2.1
  have m9 := mx.2.2.2.2.2.2.2.2.2.1
  have m10 := mx.2.2.2.2.2.2.2.2.2.2.1
  have m11 := mx.2.2.2.2.2.2.2.2.2.2.2.1
  have m12 := mx.2.2.2.2.2.2.2.2.2.2.2.2.1
  have m13 := mx.2.2.2.2.2.2.2.2.2.2.2.2.2.1
  have m14 := mx.2.2.2.2.2.2.2.2.2.2.2.2.2.2.1
  have m15 := mx.2.2.2.2.2.2.2.2.2.2.2.2.2.2.2.1
  have m16 := mx.2.2.2.2.2.2.2.2.2.2.2.2.2.2.2.2.1
  have m17 := mx.2.2.2.2.2.2.2.2.2.2.2.2.2.2.2.2.2
  clear mx
  refine hK.out _ _ ?_ (fun hHeld => ?_)
  · try dsimp only
    go_keep
  clear hK K
  try simp only [Act.put, List.setIfInBounds_toArray, List.set_cons_zero, List.set_cons_succ]
  refine cl23 (by kernel_rfl) rfl (fun K hK => ?_)
  go_simp
  go_at_call 30
  refine (rfrom_any (HQ.out y3 b3) hl s).mono ?_
  rintro xx y4 ⟨v4, rfl, o4, c4⟩
  obtain ⟨p4, n4, q4, rfl⟩ := own_form o4
  have b4 := bmm b3 b3.size c4
  have O4 : Hid _ := OwnEn.row o4
  have O34 : Hid _ := O3.out.fresh c4
  clear o4
  have nx := SC.out y4 b4
  have n0 := nx.1
  have n1 := nx.2.1
  have n2 := nx.2.2.1
  have n3 := nx.2.2.2.1
  have n4 := nx.2.2.2.2.1
  have n5 := nx.2.2.2.2.2.1
  have n6 := nx.2.2.2.2.2.2.1
  have n7 := nx.2.2.2.2.2.2.2.1
  have n8 := nx.2.2.2.2.2.2.2.2.1
  have n9 := nx.2.2.2.2.2.2.2.2.2.1
  have n10 := nx.2.2.2.2.2.2.2.2.2.2.1
  have n11 := nx.2.2.2.2.2.2.2.2.2.2.2.1
  have n12 := nx.2.2.2.2.2.2.2.2.2.2.2.2.1
  have n13 := nx.2.2.2.2.2.2.2.2.2.2.2.2.2.1
  have n14 := nx.2.2.2.2.2.2.2.2.2.2.2.2.2.2.1
  have n15 := nx.2.2.2.2.2.2.2.2.2.2.2.2.2.2.2.1
  have n16 := nx.2.2.2.2.2.2.2.2.2.2.2.2.2.2.2.2.1
  have n17 := nx.2.2.2.2.2.2.2.2.2.2.2.2.2.2.2.2.2
  clear nx
  refine hK.out _ _ ?_ (fun hHeld => ?_)
  · try dsimp only
    go_keep
  clear hK K
  try simp only [Act.put, List.setIfInBounds_toArray, List.set_cons_zero, List.set_cons_succ]
  refine cl24 (by kernel_rfl) rfl (fun K hK => ?_)
  go_simp
  go_at_call 29
  refine (ents_same _ _ _ (fromE d.es s) O34.out O4.out (by have h9 : (fromE d.es s).length ≤ d.es.length := List.length_filter_le _ _; omega)).mono ?_
  rintro xx y5 ⟨rfl, c5⟩
  have b5 := bmm b4 b4.size c5
  have rx := SC.out y5 b5
  have r0 := rx.1
  have r1 := rx.2.1
  have r2 := rx.2.2.1
  have r3 := rx.2.2.2.1
  have r4 := rx.2.2.2.2.1
  have r5 := rx.2.2.2.2.2.1
  have r6 := rx.2.2.2.2.2.2.1
  have r7 := rx.2.2.2.2.2.2.2.1
  have r8 := rx.2.2.2.2.2.2.2.2.1
  have r9 := rx.2.2.2.2.2.2.2.2.2.1
  have r10 := rx.2.2.2.2.2.2.2.2.2.2.1
  have r11 := rx.2.2.2.2.2.2.2.2.2.2.2.1
  have r12 := rx.2.2.2.2.2.2.2.2.2.2.2.2.1
  have r13 := rx.2.2.2.2.2.2.2.2.2.2.2.2.2.1
  have r14 := rx.2.2.2.2.2.2.2.2.2.2.2.2.2.2.1
  have r15 := rx.2.2.2.2.2.2.2.2.2.2.2.2.2.2.2.1
  have r16 := rx.2.2.2.2.2.2.2.2.2.2.2.2.2.2.2.2.1
  have r17 := rx.2.2.2.2.2.2.2.2.2.2.2.2.2.2.2.2.2
  clear rx
  refine hK.out _ _ ?_ (fun hHeld => ?_)
  · try dsimp only
    go_keep
  clear hK K
  try simp only [Act.put, List.setIfInBounds_toArray, List.set_cons_zero, List.set_cons_succ]
  refine tk25 (.bool true) (by kernel_rfl) (by kernel_rfl) (by kernel_rfl) (fun _ _ _ h => h) rfl (fun w hSw => by (try dsimp only at hSw); obtain ⟨s0, s1, s2, s3, a0, a1, a2, a3, a4, a5, a6, b0, b1, b2, b3, b4, b5, b6⟩ := hSw; go_simp) (by assumption) ?_
  try simp only [Act.put, List.setIfInBounds_toArray, List.set_cons_zero, List.set_cons_succ]
  refine tk26 (.bool true) (by kernel_rfl) (by kernel_rfl) (by kernel_rfl) (fun _ _ _ h => h) rfl (fun w hSw => by (try dsimp only at hSw); obtain ⟨s0, s1, s2, s3, a0, a1, a2, a3, a4, a5, a6, b0, b1, b2, b3, b4, b5, b6⟩ := hSw; go_simp) (by assumption) ?_
  try simp only [Act.put, List.setIfInBounds_toArray, List.set_cons_zero, List.set_cons_succ]
  refine tk27 (.agg (enA o)) (by kernel_rfl) (by kernel_rfl) (by kernel_rfl) (fun _ _ _ h => h) rfl (fun w hSw => by (try dsimp only at hSw); obtain ⟨s0, s1, s2, s3, a0, a1, a2, a3, a4, a5, a6, b0, b1, b2, b3, b4, b5, b6⟩ := hSw; go_simp) (by assumption) ?_
  try simp only [Act.put, List.setIfInBounds_toArray, List.set_cons_zero, List.set_cons_succ]
  refine tk28 (.agg (enA o)) (by kernel_rfl) (by kernel_rfl) (by kernel_rfl) (fun _ _ _ h => h) rfl (fun w hSw => by (try dsimp only at hSw); obtain ⟨s0, s1, s2, s3, a0, a1, a2, a3, a4, a5, a6, b0, b1, b2, b3, b4, b5, b6⟩ := hSw; go_simp) (by assumption) ?_
  try simp only [Act.put, List.setIfInBounds_toArray, List.set_cons_zero, List.set_cons_succ]
  refine tk29 (.bool true) (by kernel_rfl) (by kernel_rfl) (by kernel_rfl) (fun _ _ _ h => h) rfl (fun w hSw => by (try dsimp only at hSw); obtain ⟨s0, s1, s2, s3, a0, a1, a2, a3, a4, a5, a6, b0, b1, b2, b3, b4, b5, b6⟩ := hSw; go_simp) (by assumption) ?_
  try simp only [Act.put, List.setIfInBounds_toArray, List.set_cons_zero, List.set_cons_succ]
  refine tk30 (.bool true) (by kernel_rfl) (by kernel_rfl) (by kernel_rfl) (fun _ _ _ h => h) rfl (fun w hSw => by (try dsimp only at hSw); obtain ⟨s0, s1, s2, s3, a0, a1, a2, a3, a4, a5, a6, b0, b1, b2, b3, b4, b5, b6⟩ := hSw; go_simp) (by assumption) ?_
  try simp only [Act.put, List.setIfInBounds_toArray, List.set_cons_zero, List.set_cons_succ]
  refine tk31 (.bool true) (by kernel_rfl) (by kernel_rfl) (by kernel_rfl) (fun _ _ _ h => h) rfl (fun w hSw => by (try dsimp only at hSw); obtain ⟨s0, s1, s2, s3, a0, a1, a2, a3, a4, a5, a6, b0, b1, b2, b3, b4, b5, b6⟩ := hSw; go_simp) (by assumption) ?_
  try simp only [Act.put, List.setIfInBounds_toArray, List.set_cons_zero, List.set_cons_succ]
  refine tk32 (.bool fs) (by kernel_rfl) (by kernel_rfl) (by kernel_rfl) (fun _ _ _ h => h) rfl (fun w hSw => by (try dsimp only at hSw); obtain ⟨s0, s1, s2, s3, a0, a1, a2, a3, a4, a5, a6, b0, b1, b2, b3, b4, b5, b6⟩ := hSw; go_simp) (by assumption) ?_
  try simp only [Act.put, List.setIfInBounds_toArray, List.set_cons_zero, List.set_cons_succ]
  refine tk33 (.bool fs) (by kernel_rfl) (by kernel_rfl) (by kernel_rfl) (fun _ _ _ h => h) rfl (fun w hSw => by (try dsimp only at hSw); obtain ⟨s0, s1, s2, s3, a0, a1, a2, a3, a4, a5, a6, b0, b1, b2, b3, b4, b5, b6⟩ := hSw; go_simp) (by assumption) ?_
  try simp only [Act.put, List.setIfInBounds_toArray, List.set_cons_zero, List.set_cons_succ]
  refine tk34 (.bool true) (by kernel_rfl) (by kernel_rfl) (by kernel_rfl) (fun _ _ _ h => h) rfl (fun w hSw => by (try dsimp only at hSw); obtain ⟨s0, s1, s2, s3, a0, a1, a2, a3, a4, a5, a6, b0, b1, b2, b3, b4, b5, b6⟩ := hSw; go_simp) (by assumption) ?_
  try simp only [Act.put, List.setIfInBounds_toArray, List.set_cons_zero, List.set_cons_succ]
  refine tk35 (.bool true) (by kernel_rfl) (by kernel_rfl) (by kernel_rfl) (fun _ _ _ h => h) rfl (fun w hSw => by (try dsimp only at hSw); obtain ⟨s0, s1, s2, s3, a0, a1, a2, a3, a4, a5, a6, b0, b1, b2, b3, b4, b5, b6⟩ := hSw; go_simp) (by assumption) ?_
  try simp only [Act.put, List.setIfInBounds_toArray, List.set_cons_zero, List.set_cons_succ]
  refine tk36 (.bool true) (by kernel_rfl) (by kernel_rfl) (by kernel_rfl) (fun _ _ _ h => h) rfl (fun w hSw => by (try dsimp only at hSw); obtain ⟨s0, s1, s2, s3, a0, a1, a2, a3, a4, a5, a6, b0, b1, b2, b3, b4, b5, b6⟩ := hSw; go_simp) (by assumption) ?_
  try simp only [Act.put, List.setIfInBounds_toArray, List.set_cons_zero, List.set_cons_succ]
  refine wpAnyH_done (by kernel_rfl) ?_ _
  go_wp2
  go_ret
  exact ⟨rfl, BY.out.trans (b5.mono BY.out.size)⟩
end Go.Proofs.Ytkngpfngfmbmjaa
