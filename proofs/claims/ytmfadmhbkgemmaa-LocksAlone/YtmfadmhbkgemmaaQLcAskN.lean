/-
  Package locks: a lock asked for that is not there; a lock asked for, whole. The conditions: numbers are ints, names at most 1000 bytes; fewer than 32767 deeds.
-/
import Derived.Test.YtmfadmhbkgemmaaQLcAsk
import Derived.Test.YtmfadmhbkgemmaaQSG
namespace Go.Proofs.Ytmfadmhbkgemmaa
open Go.RowKit

theorem lclone_any (s : ByteArray) (w : World) (hlim : s.size ≤ 281474976710656) :
    Calls Try.prog 32 #[.string s] w fun e w' => e = .returned (.string s) ∧ Below w.heap.size w w' := by
  go_enter Try.func32, Try.ntmps32
  go_wp2_with (go_at_call 54; refine (Try.stringslite_Clone s _ hlim).mono ?_; rintro e w1 ⟨rfl, bel⟩)
  go_ret
  exact ⟨rfl, bel⟩
/-- The lock is not there; a new one lies beside them. -/
structure AnI (w wr : World) (base D M : Nat) (N : Nat) (c : Int) (l : List Lk) (T : List (ByteArray × Nat)) (own : ByteArray → Nat → Prop) (nm : ByteArray) (X : Nat) (S1 : Nat → Prop) (cm : Array Value) (g : Nat) (x : Wq) : Prop where
  I : LcL wr base D M c (lookK l) T own
  at' : LcAt wr X S1 [] false []
  nS : ∀ b, S1 b → w.heap.size ≤ b ∧ ¬ setL D M own b
  cmd : wr.heap[w.heap.size]? = some (.cells cm cmT (0, 0))
  box : wr.heap[g]? = some (.cells (lcWA x) lcWT (0, 0))
  bel : Below w.heap.size w wr
  nb : ¬ S1 w.heap.size ∧ ¬ S1 g
section
variable {w wr w' : World} {base D M N X g : Nat} {c : Int} {l : List Lk} {T : List (ByteArray × Nat)} {own : ByteArray → Nat → Prop} {nm : ByteArray} {S1 : Nat → Prop} {cm : Array Value} {x : Wq}
theorem AnI.fresh (h : AnI w wr base D M N c l T own nm X S1 cm g x) (k : Below wr.heap.size wr w') : AnI w w' base D M N c l T own nm X S1 cm g x :=
  ⟨h.I.fresh k, h.at'.fresh k, h.nS, (k.block _ (lt_of_block h.cmd)).trans h.cmd, (k.block g (lt_of_block h.box)).trans h.box, h.bel.trans (k.mono h.bel.size), h.nb⟩
theorem AnI.c0 (h : AnI w wr base D M N c l T own nm X S1 cm g x) : wr.cell? ⟨g, 0, none⟩ = some (.int .i64 x.s) := by simp [World.cell?, h.box]
theorem AnI.c2 (h : AnI w wr base D M N c l T own nm X S1 cm g x) : wr.cell? ⟨g, 2, none⟩ = some (.bool x.rd) := by simp [World.cell?, h.box]
end
section
variable {w W wn wr w1 w5 w6 w' : World} {base D M N X g : Nat} {c c9 : Int} {l : List Lk} {T : List (ByteArray × Nat)} {own : ByteArray → Nat → Prop} {nm : ByteArray} {S1 : Nat → Prop} {cm : Array Value} {x : Wq} {h9 : List Int} {b9 : Bool} {r : SeR}
theorem AnI.mk' (I : LcL W base D M c (lookK l) T own) (bW : Below w.heap.size w W) (nW : W.heap[w.heap.size]? = some (.cells cm cmT (0, 0))) (hl : ∀ g, setL D M own g → g < w.heap.size) (bn : Below W.heap.size W wn) (ha : LcAt wn X S1 [] false []) (sn : ∀ b, S1 b → W.drew.heap.size ≤ b) : AnI w (wn.alloc (.cells (lcWA x) lcWT)) base D M N c l T own nm X S1 cm wn.heap.size x := by
  have b2 : Below wn.heap.size wn (wn.alloc (.cells (lcWA x) lcWT)) := (Below.refl _ wn).alloc (Nat.le_refl _) _
  have hW := lt_of_block nW
  have sn' : ∀ b, S1 b → W.heap.size ≤ b := sn
  refine ⟨(I.fresh bn).fresh b2, ha.fresh b2, fun b hb => ⟨Nat.le_trans bW.size (sn' b hb), fun h => ?_⟩, (b2.block _ (Nat.lt_of_lt_of_le hW bn.size)).trans ((bn.block _ hW).trans nW), heap_alloc_new wn _, bW.trans ((bn.trans (b2.mono bn.size)).mono bW.size), fun h => ?_, fun h => ?_⟩
  · have h1 := hl b h
    have h2 := sn' b hb
    have := bW.size
    omega
  · have := sn' _ h
    omega
  · have := ha.bd _ h
    omega
/-- Behind a grant. -/
structure GraR (w wr : World) (base D M : Nat) (c : Int) (l : List Lk) (T : List (ByteArray × Nat)) (own : ByteArray → Nat → Prop) (X : Nat) (S1 : Nat → Prop) (cm : Array Value) (h : List Int) (b : Bool) : Prop where
  I : LcL wr base D M c (lookK l) T own
  at' : LcAt wr X S1 h b []
  nS : ∀ b, S1 b → w.heap.size ≤ b ∧ ¬ setL D M own b
  cmd : wr.heap[w.heap.size]? = some (.cells cm cmT (0, 0))
  kept : Kept w wr (setL D M own) (setL D M own)
  bw : base ≤ w.heap.size
  nb : ¬ S1 w.heap.size
theorem GraR.fresh (h : GraR w wr base D M c l T own X S1 cm h9 b9) (k : Below wr.heap.size wr w') : GraR w w' base D M c l T own X S1 cm h9 b9 :=
  ⟨h.I.fresh k, h.at'.fresh k, h.nS, (k.block _ (lt_of_block h.cmd)).trans h.cmd, h.kept.trans (Kept.of k), h.bw, h.nb⟩
theorem GraR.cells (h : GraR w wr base D M c l T own X S1 cm h9 b9) (hc : cm[3]? = some (.string nm)) : wr.cell? ⟨D, 0, none⟩ = some (.map (some M)) ∧ wr.cell? ⟨w.heap.size, 3, none⟩ = some (.string nm) :=
  ⟨h.I.cellM, by simp only [World.cell?, h.cmd]; simpa using hc⟩
theorem cmd_name {k s n m : Int} (nm : ByteArray) : (cmA k s n nm m)[3]? = some (.string nm) := rfl
theorem AnI.gra (h : AnI w w1 base D M N c l T own nm X S1 cm g x) (G : GraQ w1 X D S1 [] M (c9, h9, b9, r) w5) (b6 : Below w5.heap.size w5 w6) (hc : 0 ≤ c9 ∧ c9 ≤ 18446744073709551615) (hD : D < w.heap.size) : GraR w w6 base D M c9 l T own X S1 cm h9 b9 := by
  have hk : ∀ b, b < w1.heap.size → ¬ S1 b → b ≠ D → w5.heap[b]? = w1.heap[b]? := fun b h1 h2 h3 => G.k.kept b h1 (fun e => by
    rcases e with e | e
    · exact h2 e
    · exact h3 e)
  have I5 := h.I.count G.d (fun g hg hgD => hk g (h.I.bd g hg).2 (fun e => (h.nS g e).2 hg) hgD) hc.1 hc.2
  have hcl := lt_of_block h.cmd
  have hbw : base ≤ w.heap.size := Nat.le_trans (h.I.lo D (Or.inl rfl)) (Nat.le_of_lt hD)
  refine GraR.fresh ⟨I5, G.at', h.nS, (hk _ hcl h.nb.1 (by omega)).trans h.cmd, ⟨G.k.os.trans h.bel.os, G.k.tape.trans h.bel.tape, G.k.output.trans h.bel.output, Nat.le_trans h.bel.size G.k.size, fun _ hb => Or.inl hb, fun b hb hn => (hk b (Nat.lt_of_lt_of_le hb h.bel.size) (fun e => by have := (h.nS b e).1; omega) (fun e => hn (Or.inl e))).trans (h.bel.block b hb)⟩, hbw, h.nb.1⟩ b6
theorem grownN {t : TypeId} {cs : Array Value} (h : wr.heap[g]? = some (.cells cs t (0, 0))) (hg : wr.grownBy w' (some M)) (hm : mNm.At wr M T) : w'.heap[g]? = some (.cells cs t (0, 0)) :=
  (hg.block g (lt_of_block h) (fun e => hm.ne h (Option.some.inj e).symm)).trans h
theorem GraR.put (h : GraR w wr base D M c l T own X S1 cm h9 b9) (hK : lookK l nm = none) (hc : cm[3]? = some (.string nm)) (hm : mNm.At w' M (putM T nm X)) (hg : wr.grownBy w' (some M)) :
    (LcL w' base D M c (updK (lookK l) nm (some ⟨nm, h9, b9, []⟩)) (putM T nm X) (updO own nm S1) ∧ Kept w w' (setL D M own) (setL D M (updO own nm S1))) ∧ (w'.cell? ⟨D, 0, none⟩ = some (.map (some M)) ∧ w'.cell? ⟨w.heap.size, 3, none⟩ = some (.string nm)) := by
  have I2 := h.I.add hK (x := ⟨nm, h9, b9, []⟩) h.at' (fun g hg => (h.nS g hg).2) (fun g hg => Nat.le_trans h.bw (h.nS g hg).1) hm hg
  refine ⟨⟨I2, ⟨hg.os.trans h.kept.os, hg.tape.trans h.kept.tape, hg.output.trans h.kept.output, Nat.le_trans h.kept.size hg.size, fun b hb => ?_, fun b hb hn => (hg.block b (Nat.lt_of_lt_of_le hb h.kept.size) (fun e => hn (Or.inr (Or.inl (Option.some.inj e))))).trans (h.kept.kept b hb hn)⟩⟩, I2.cellM, ?_⟩
  · rcases hb with hb | hb | ⟨n, hb⟩
    · exact Or.inl (Or.inl hb)
    · exact Or.inl (Or.inr (Or.inl hb))
    · by_cases e : n = nm
      · subst e
        rw [updO_same] at hb
        exact Or.inr (h.nS b hb).1
      · rw [updO_ne _ _ e] at hb
        exact Or.inl (Or.inr (Or.inr ⟨n, hb⟩))
  · have := grownN h.cmd hg h.I.map
    simp only [World.cell?, this]
    simpa using hc
theorem new_held (h : giveH c [] false x = (c9, h9, b9, r)) (he : r.err = 0) : 0 < h9.length := by
  have := (LkInv.newK (c := c) (x := x) ⟨#[]⟩ (by rw [h]; exact he)).ne
  rw [h] at this
  exact this
theorem new_none (h : giveH c [] false x = (c9, h9, b9, r)) (he : ¬ r.err = 0) : ¬ 0 < h9.length := by
  unfold giveH at h
  split at h
  · simp only [Prod.mk.injEq] at h
    exact absurd (by rw [← h.2.2.2]) he
  · split at h
    · simp only [Prod.mk.injEq] at h
      rw [← h.2.1]
      decide
    · simp only [Prod.mk.injEq] at h
      exact absurd (by rw [← h.2.2.2]) he
theorem new_inv (h : giveH c [] false x = (c9, h9, b9, r)) (nm : ByteArray) (he : r.err = 0) : LkInv ⟨nm, h9, b9, []⟩ := by
  have := LkInv.newK (c := c) (x := x) nm (by rw [h]; exact he)
  rw [h] at this
  exact this
theorem askL_new {k s n : Int} (hl : lookK l nm = none) (hk : ¬ (k ≠ 5 ∧ k ≠ 7)) (hx : x = ⟨s, n, k == 7⟩) : askL c l k s n nm = askN c l x nm := by
  rw [← lkIx_look] at hl
  unfold askL
  rw [if_neg hk]
  cases hj : lkIx l nm with
  | none => simp only; rw [hx]
  | some j =>
    rw [hj] at hl
    have hl : l[j]? = none := hl
    obtain ⟨h1, _⟩ := lkIx_at hj
    rw [List.getElem?_eq_none_iff] at hl
    omega
end
set_option maxRecDepth 100000 in
set_option maxHeartbeats 8000000 in
theorem pask_new {w : World} {base D M N : Nat} {c : Int} {l : List Lk} {T : List (ByteArray × Nat)} {own : ByteArray → Nat → Prop} {nm : ByteArray} (I : LcL w base D M c (lookK l) T own) (ok : LcOk l) (fit : LoFit N c l) (hnn : lookK l nm = none) {k s n m : Int} (hk : k = 5 ∨ k = 7) (hs : okI s) (hn : okI n) (hm : nm.size ≤ 1000) :
    Calls Try.prog 10 #[.pointer (some ⟨D, 0, none⟩), .agg (cmA k s n nm m)] w (AnsP w base D (setL D M own) (N + 1) (askN c l ⟨s, n, k == 7⟩ nm)) := by
  obtain ⟨W, hW⟩ : ∃ W, W = w.alloc (.cells (cmA k s n nm m) cmT) := ⟨_, rfl⟩
  have bW : Below w.heap.size w W := by rw [hW]; exact (Below.refl _ w).alloc (Nat.le_refl _) _
  have nW : W.heap[w.heap.size]? = some (.cells (cmA k s n nm m) cmT (0, 0)) := by rw [hW]; exact heap_alloc_new w _
  have IW := I.fresh bW
  have z0 : W.cell? ⟨D, 0, none⟩ = some (.map (some M)) := IW.cellM
  have y0 : W.cell? ⟨w.heap.size, 0, none⟩ = some (.int .i64 k) := by simp [World.cell?, nW]
  have y3 : W.cell? ⟨w.heap.size, 3, none⟩ = some (.string nm) := by simp [World.cell?, nW]
  have hlkd := (IW.keep (w' := W.drew) fun _ _ => rfl).look2 (nm := nm) (by unfold maxLen; omega)
  rw [hnn, (IW.no nm hnn).1] at hlkd
  have HS0 : Hid (W.drew.cell? ⟨D, 0, none⟩ = some (.map (some M)) ∧ W.drew.cell? ⟨w.heap.size, 3, none⟩ = some (.string nm) ∧ (Instr.lookup 58 (.map (some M)) (.string nm) true).run Try.prog W.drew = .ok (.tuple #[.pointer none, .bool false]) W.drew) := (show Hid _ from (⟨z0, y3, hlkd⟩ : _ ∧ _ ∧ _))
  have HI : Hid (LcL W base D M c (lookK l) T own) := IW
  have HB : Hid (Below w.heap.size w W ∧ W.heap[w.heap.size]? = some (.cells (cmA k s n nm m) cmT (0, 0))) := (show Hid _ from (⟨bW, nW⟩ : _ ∧ _))
  have HW : Hid (w.alloc (.cells #[.int .i64 k, .int .i64 s, .int .i64 n, .string nm, .int .i64 m] cmT) = W) := hW.symm
  have HO : Hid (okI s ∧ okI n ∧ nm.size ≤ 1000 ∧ (∀ g, setL D M own g → g < w.heap.size)) := (show Hid _ from (⟨hs, hn, hm, fun g hg => (I.bd g hg).2⟩ : _ ∧ _ ∧ _ ∧ _))
  have HL : Hid (LcOk l ∧ LoFit N c l ∧ lookK l nm = none ∧ T.length = l.length) := (show Hid _ from (⟨ok, fit, hnn, I.len (srt_nodup ok.srt)⟩ : _ ∧ _ ∧ _ ∧ _))
  clear I IW bW nW hW hs hn hm ok fit hnn
  rcases hk with rfl | rfl
  · skip
    change Calls _ _ _ _ (AnsP w base D (setL D M own) (N + 1) (askN c l ⟨s, n, false⟩ nm))
    obtain ⟨x, hx⟩ : ∃ x : Wq, x = ⟨s, n, false⟩ := ⟨_, rfl⟩
    rw [← hx]
    have HX : Hid (x = ⟨s, n, false⟩) := hx
    clear hx
    go_enter Try.func10, Try.ntmps10
    go_upto_region 1 with fail
    rw [HW.out]
    go_upto_region 3 with fail
    refine wp_region_held_drew (S := (fun w' : World => w'.cell? ⟨D, 0, none⟩ = some (.map (some M)) ∧ w'.cell? ⟨w.heap.size, 3, none⟩ = some (.string nm) ∧ (Instr.lookup 58 (.map (some M)) (.string nm) true).run Try.prog w' = .ok (.tuple #[.pointer none, .bool false]) w')) (by kernel_rfl) ?_ (fun hHeld0 => ?_)
    · exact HS0.out
    refine tk0 (.pointer (some ⟨D, 0, none⟩)) (by kernel_rfl) (by kernel_rfl) (by kernel_rfl) (fun _ _ _ h => h) rfl (fun w hSw => by (try dsimp only at hSw); obtain ⟨q0, q1, q2⟩ := hSw; go_simp) (by assumption) ?_
    try simp only [Act.put, List.setIfInBounds_toArray, List.set_cons_zero, List.set_cons_succ]
    refine tk1 (.pointer (some ⟨D, 0, none⟩)) (by kernel_rfl) (by kernel_rfl) (by kernel_rfl) (fun _ _ _ h => h) rfl (fun w hSw => by (try dsimp only at hSw); obtain ⟨q0, q1, q2⟩ := hSw; go_simp) (by assumption) ?_
    try simp only [Act.put, List.setIfInBounds_toArray, List.set_cons_zero, List.set_cons_succ]
    refine tk2 (.pointer (some ⟨D, 0, none⟩)) (by kernel_rfl) (by kernel_rfl) (by kernel_rfl) (fun _ _ _ h => h) rfl (fun w hSw => by (try dsimp only at hSw); obtain ⟨q0, q1, q2⟩ := hSw; go_simp) (by assumption) ?_
    try simp only [Act.put, List.setIfInBounds_toArray, List.set_cons_zero, List.set_cons_succ]
    refine tk3 (.map (some M)) (by kernel_rfl) (by kernel_rfl) (by kernel_rfl) (fun _ _ _ h => h) rfl (fun w hSw => by (try dsimp only at hSw); obtain ⟨q0, q1, q2⟩ := hSw; go_simp) (by assumption) ?_
    try simp only [Act.put, List.setIfInBounds_toArray, List.set_cons_zero, List.set_cons_succ]
    refine tk4 (.pointer (some ⟨w.heap.size, 3, none⟩)) (by kernel_rfl) (by kernel_rfl) (by kernel_rfl) (fun _ _ _ h => h) rfl (fun w hSw => by (try dsimp only at hSw); obtain ⟨q0, q1, q2⟩ := hSw; go_simp) (by assumption) ?_
    try simp only [Act.put, List.setIfInBounds_toArray, List.set_cons_zero, List.set_cons_succ]
    refine tk5 (.string nm) (by kernel_rfl) (by kernel_rfl) (by kernel_rfl) (fun _ _ _ h => h) rfl (fun w hSw => by (try dsimp only at hSw); obtain ⟨q0, q1, q2⟩ := hSw; go_simp) (by assumption) ?_
    try simp only [Act.put, List.setIfInBounds_toArray, List.set_cons_zero, List.set_cons_succ]
    refine tk6 (.tuple #[.pointer none, .bool false]) (by kernel_rfl) (by kernel_rfl) (by kernel_rfl) (fun _ _ _ h => h) rfl (fun w hSw => by (try dsimp only at hSw); obtain ⟨q0, q1, q2⟩ := hSw; go_simp) (by assumption) ?_
    try simp only [Act.put, List.setIfInBounds_toArray, List.set_cons_zero, List.set_cons_succ]
    refine tk7 (.tuple #[.pointer none, .bool false]) (by kernel_rfl) (by kernel_rfl) (by kernel_rfl) (fun _ _ _ h => h) rfl (fun w hSw => by (try dsimp only at hSw); obtain ⟨q0, q1, q2⟩ := hSw; go_simp) (by assumption) ?_
    try simp only [Act.put, List.setIfInBounds_toArray, List.set_cons_zero, List.set_cons_succ]
    refine tk8 (.pointer none) (by kernel_rfl) (by kernel_rfl) (by kernel_rfl) (fun _ _ _ h => h) rfl (fun w hSw => by (try dsimp only at hSw); obtain ⟨q0, q1, q2⟩ := hSw; go_simp) (by assumption) ?_
    try simp only [Act.put, List.setIfInBounds_toArray, List.set_cons_zero, List.set_cons_succ]
    refine tk9 (.bool false) (by kernel_rfl) (by kernel_rfl) (by kernel_rfl) (fun _ _ _ h => h) rfl (fun w hSw => by (try dsimp only at hSw); obtain ⟨q0, q1, q2⟩ := hSw; go_simp) (by assumption) ?_
    try simp only [Act.put, List.setIfInBounds_toArray, List.set_cons_zero, List.set_cons_succ]
    refine tk10 (.pointer none) (by kernel_rfl) (by kernel_rfl) (by kernel_rfl) (fun _ _ _ h => h) rfl (fun w hSw => by (try dsimp only at hSw); obtain ⟨q0, q1, q2⟩ := hSw; go_simp) (by assumption) ?_
    try simp only [Act.put, List.setIfInBounds_toArray, List.set_cons_zero, List.set_cons_succ]
    refine tk11 (.bool false) (by kernel_rfl) (by kernel_rfl) (by kernel_rfl) (fun _ _ _ h => h) rfl (fun w hSw => by (try dsimp only at hSw); obtain ⟨q0, q1, q2⟩ := hSw; go_simp) (by assumption) ?_
    try simp only [Act.put, List.setIfInBounds_toArray, List.set_cons_zero, List.set_cons_succ]
    refine wpAnyH_done (by kernel_rfl) ?_ _
    go_upto_region 6 with (go_at_call 22; refine (newLock_any _).mono ?_; rintro e wn ⟨X, S1, rfl, in1, sn, bn⟩)
    have bn0 : Below W.heap.size W wn := undrew bn
    have q1 : wn.cell? ⟨w.heap.size, 1, none⟩ = some (.int .i64 s) := by
      have := (bn0.block _ (lt_of_block HB.out.2)).trans HB.out.2
      simp [World.cell?, this]
    have q2 : wn.cell? ⟨w.heap.size, 2, none⟩ = some (.int .i64 n) := by
      have := (bn0.block _ (lt_of_block HB.out.2)).trans HB.out.2
      simp [World.cell?, this]
    have q0 : wn.cell? ⟨w.heap.size, 0, none⟩ = some (.int .i64 5) := by
      have := (bn0.block _ (lt_of_block HB.out.2)).trans HB.out.2
      simp [World.cell?, this]
    go_upto_region 7 with fail
    obtain ⟨V, hV⟩ : ∃ V, V = wn.alloc (.cells (lcWA ⟨s, n, false⟩) lcWT) := ⟨_, rfl⟩
    have HV : Hid (wn.alloc (.cells #[.int .i64 s, .int .i64 n, .bool false] lcWT) = V) := hV.symm
    rw [HV.out]
    have IV : Hid (AnI w V base D M N c l T own nm X S1 (cmA 5 s n nm m) wn.heap.size x) := (show Hid _ from (by
      rw [hV, HX.out]
      exact AnI.mk' HI.out HB.out.1 HB.out.2 HO.out.2.2.2 bn0 in1 sn))
    have HOX : Hid (inI x.s) := (show inI x.s from by rw [HX.out]; exact HO.out.1)
    have v0 := IV.out.c0
    clear hV bn bn0 q0 q1 q2 in1 sn z0 y0 y3 HV
    by_cases hf : 256 ≤ l.length
    · have HQ : Hid (askN c l x nm = (c, l, [⟨x.s, x.n, 17, 0, 0⟩], false)) := (show askN c l x nm = _ from by unfold askN; rw [if_pos hf])
      have t1 : decide ((l.length : Int) ≥ 256) = true := decide_eq_true (by omega)
      have t2 : decide (256 ≤ l.length) = true := decide_eq_true hf
      clear hf
      go_wp2_with (first | (go_at_call 25; rw [HW6.out]; refine (behind_any (base := w6.heap.size) (xs := []) (World.ownsRow_nil _ _ _ _) R6.out (Nat.le_refl _) (by simp)).mono ?_; rintro e w7 ⟨u7, rfl, o7, a7⟩; obtain ⟨p7, n7, c7, rfl⟩ := own_form o7) | (go_at_call 26; refine (refused_any w1 x 17).mono ?_; rintro e w5 ⟨rfl, b5⟩; obtain ⟨w6, hw6⟩ : ∃ w6, w6 = w5.alloc (.cells (rpA ⟨x.s, x.n, 17, 0, 0⟩) rpT) := ⟨_, rfl⟩; have b6 : Below w1.heap.size w1 w6 := (by rw [hw6]; exact b5.trans (((Below.refl _ w5).alloc (Nat.le_refl _) _).mono b5.size)); have I6 : Hid _ := I1.out.fresh b6; have R6 : Hid (RowAt rpC w6 (.slice (some ⟨w5.heap.size, 0, none⟩) 1 1) [⟨x.s, x.n, 17, 0, 0⟩]) := (by rw [hw6]; exact rp_one); have HW6 : Hid (w5.alloc (.cells #[.int .i64 x.s, .int .i64 x.n, .int .i64 17, .int .u64 0, .int .i64 0] rpT) = w6) := hw6.symm; clear hw6 b6 b5) | (show wpList _ _ _ (⟨_, Op.load lcWT _, _, _, _, _⟩ :: _) _ _; refine load_row_g rfl lcWT _ rfl wn.heap.size rfl lcWT (lcWA x) (0, 0) _ I1.out.box Try.underlying70 rfl sizeLw ?_) | (go_at_call 24; refine (lwaits_any I1.out.at' HOX.out).mono ?_; rintro e w2 ⟨rfl, hz2⟩; obtain rfl : w1 = w2 := hz2.symm) | (go_at_call 23; refine (holds_any IV.out.at' HOX.out).mono ?_; rintro e w1 ⟨rfl, b1⟩; have I1 : Hid _ := IV.out.fresh b1; have z1 := I1.out.c0; have z2 := I1.out.c2; have zD : w1.cell? ⟨D, 0, none⟩ = some (.map (some M)) := I1.out.I.cellM; have hln := fun ty => MapOf.len mNm_is I1.out.I.map ty; rw [HL.out.2.2.2] at hln; clear b1))
      go_ret2
      rw [HQ.out]
      have I7 := I6.out.fresh a7.below
      exact ⟨_, _, rfl, RowAt.own rpC_len o7, ⟨⟨M, T, own, I7.I, rfl⟩, HL.out.1, HL.out.2.1.up (Nat.le_succ _)⟩, Kept.of I7.bel, sep_new o7 fun g hg => (I6.out.I.bd g hg).2⟩
    · have t1 : decide ((l.length : Int) ≥ 256) = false := decide_eq_false (by omega)
      have t2 : decide (256 ≤ l.length) = false := decide_eq_false hf
      have hfit : fitH [] false x.rd = true := by unfold fitH; rfl
      obtain ⟨c9, h9, b9, r, hg⟩ : ∃ c9 h9 b9 r, giveH c [] false x = (c9, h9, b9, r) := ⟨_, _, _, _, rfl⟩
      have HQ : Hid (askN c l x nm = (c9, if r.err = 0 then addL l ⟨nm, h9, b9, []⟩ else l, [r], false)) := (show askN c l x nm = _ from by unfold askN; rw [if_neg hf, hg])
      have HQG : Hid (giveH c [] false x = (c9, h9, b9, r)) := hg
      have HGC : Hid (0 ≤ c9 ∧ c9 ≤ 18446744073709551615) := (show _ ∧ _ from by
        have := giveH_c (h := []) (b := false) (x := x) IV.out.I.c0 IV.out.I.c1
        rwa [hg] at this)
      have HFT : Hid (askL c l 5 s n nm = askN c l x nm) := (show askL c l 5 s n nm = askN c l x nm from askL_new HL.out.2.2.1 (by decide) HX.out)
      have hfi2 := HL.out.2.1.ask 5 s n nm HO.out.1 HO.out.2.1 HO.out.2.2.1
      rw [HFT.out, HQ.out] at hfi2
      have HF2 : Hid _ := hfi2
      clear hf hg hfi2
      by_cases he : r.err = 0
      · have hh : decide (0 < h9.length) = true := decide_eq_true (new_held HQG.out he)
        have HE : Hid (r.err = 0) := he
        clear he
        go_upto_region 16 with (first | (go_at_call 31; rw [HW6.out]; refine (held_any G6.out.at').mono ?_; rintro e w10 ⟨rfl, hz10⟩; obtain rfl : w6 = w10 := hz10.symm) | (go_at_call 30; refine (grant_any I1.out.at' I1.out.I.blk (fun e => (I1.out.nS D e).2 (Or.inl rfl)) I1.out.I.c0 I1.out.I.c1 x HOX.out rfl (by decide)).mono ?_; rw [HQG.out]; rintro e w5 ⟨rfl, G5⟩; obtain ⟨w6, hw6⟩ : ∃ w6, w6 = w5.alloc (.cells (rpA r) rpT) := ⟨_, rfl⟩; have b6 : Below w5.heap.size w5 w6 := (by rw [hw6]; exact (Below.refl _ w5).alloc (Nat.le_refl _) _); have n6 : w6.heap[w5.heap.size]? = some (.cells (rpA r) rpT (0, 0)) := (by rw [hw6]; exact heap_alloc_new w5 _); have HW6 : Hid (w5.alloc (.cells #[.int .i64 r.session, .int .i64 r.seq, .int .i64 r.err, .int .u64 r.token, .int .i64 r.n] rpT) = w6) := hw6.symm; have G6 : Hid (GraR w w6 base D M c9 l T own X S1 (cmA 5 s n nm m) h9 b9) := I1.out.gra G5 b6 HGC.out (HO.out.2.2.2 D (Or.inl rfl)); have N6 : Hid (w6.heap[w5.heap.size]? = some (.cells (rpA r) rpT (0, 0))) := n6; clear hw6 b6 n6 G5) | (go_at_call 28; refine (hasRoom_any I1.out.at' x.rd).mono ?_; rintro e w4 ⟨rfl, hz4⟩; obtain rfl : w1 = w4 := hz4.symm) | (go_at_call 27; refine (anybody_any I1.out.at').mono ?_; rintro e w3 ⟨rfl, hz3⟩; obtain rfl : w1 = w3 := hz3.symm) | (show wpList _ _ _ (⟨_, Op.load lcWT _, _, _, _, _⟩ :: _) _ _; refine load_row_g rfl lcWT _ rfl wn.heap.size rfl lcWT (lcWA x) (0, 0) _ I1.out.box Try.underlying70 rfl sizeLw ?_) | (go_at_call 24; refine (lwaits_any I1.out.at' HOX.out).mono ?_; rintro e w2 ⟨rfl, hz2⟩; obtain rfl : w1 = w2 := hz2.symm) | (go_at_call 23; refine (holds_any IV.out.at' HOX.out).mono ?_; rintro e w1 ⟨rfl, b1⟩; have I1 : Hid _ := IV.out.fresh b1; have z1 := I1.out.c0; have z2 := I1.out.c2; have zD : w1.cell? ⟨D, 0, none⟩ = some (.map (some M)) := I1.out.I.cellM; have hln := fun ty => MapOf.len mNm_is I1.out.I.map ty; rw [HL.out.2.2.2] at hln; clear b1))
        refine wp_region_held_drew (S := (fun w' : World => w'.cell? ⟨D, 0, none⟩ = some (.map (some M)) ∧ w'.cell? ⟨w.heap.size, 3, none⟩ = some (.string nm))) (by kernel_rfl) ?_ (fun hHeld0 => ?_)
        · exact G6.out.cells (cmd_name _)
        refine tk0 (.pointer (some ⟨D, 0, none⟩)) (by kernel_rfl) (by kernel_rfl) (by kernel_rfl) (fun _ _ _ h => h) rfl (fun w hSw => by (try dsimp only at hSw); obtain ⟨q0, q1⟩ := hSw; go_simp) (by assumption) ?_
        try simp only [Act.put, List.setIfInBounds_toArray, List.set_cons_zero, List.set_cons_succ]
        refine tk1 (.pointer (some ⟨D, 0, none⟩)) (by kernel_rfl) (by kernel_rfl) (by kernel_rfl) (fun _ _ _ h => h) rfl (fun w hSw => by (try dsimp only at hSw); obtain ⟨q0, q1⟩ := hSw; go_simp) (by assumption) ?_
        try simp only [Act.put, List.setIfInBounds_toArray, List.set_cons_zero, List.set_cons_succ]
        refine tk2 (.pointer (some ⟨D, 0, none⟩)) (by kernel_rfl) (by kernel_rfl) (by kernel_rfl) (fun _ _ _ h => h) rfl (fun w hSw => by (try dsimp only at hSw); obtain ⟨q0, q1⟩ := hSw; go_simp) (by assumption) ?_
        try simp only [Act.put, List.setIfInBounds_toArray, List.set_cons_zero, List.set_cons_succ]
        refine tk3 (.map (some M)) (by kernel_rfl) (by kernel_rfl) (by kernel_rfl) (fun _ _ _ h => h) rfl (fun w hSw => by (try dsimp only at hSw); obtain ⟨q0, q1⟩ := hSw; go_simp) (by assumption) ?_
        try simp only [Act.put, List.setIfInBounds_toArray, List.set_cons_zero, List.set_cons_succ]
        refine tk4 (.pointer (some ⟨w.heap.size, 3, none⟩)) (by kernel_rfl) (by kernel_rfl) (by kernel_rfl) (fun _ _ _ h => h) rfl (fun w hSw => by (try dsimp only at hSw); obtain ⟨q0, q1⟩ := hSw; go_simp) (by assumption) ?_
        try simp only [Act.put, List.setIfInBounds_toArray, List.set_cons_zero, List.set_cons_succ]
        refine tk5 (.string nm) (by kernel_rfl) (by kernel_rfl) (by kernel_rfl) (fun _ _ _ h => h) rfl (fun w hSw => by (try dsimp only at hSw); obtain ⟨q0, q1⟩ := hSw; go_simp) (by assumption) ?_
        try simp only [Act.put, List.setIfInBounds_toArray, List.set_cons_zero, List.set_cons_succ]
        refine tk7 (.pointer (some ⟨X, 0, none⟩)) (by kernel_rfl) (by kernel_rfl) (by kernel_rfl) (fun _ _ _ h => h) rfl (fun w hSw => by (try dsimp only at hSw); obtain ⟨q0, q1⟩ := hSw; go_simp) (by assumption) ?_
        try simp only [Act.put, List.setIfInBounds_toArray, List.set_cons_zero, List.set_cons_succ]
        refine cl6 (by kernel_rfl) rfl (fun K hK => ?_)
        go_simp
        go_at_call 32
        refine (lclone_any nm _ (by have := HO.out.2.2.1; omega)).mono ?_
        rintro e w8 ⟨rfl, b8⟩
        have G8 : Hid _ := G6.out.fresh (undrew b8)
        obtain ⟨w9, hrun, hm9, hg9, hz9⟩ := MapOf.put mNm_is G8.out.I.map (n := nm) (show nm.size ≤ maxLen from by unfold maxLen; have := HO.out.2.2.1; omega) X
        change (Instr.mapUpdate _ _ (.string nm) (.pointer (some ⟨X, 0, none⟩))).run _ _ = _ at hrun
        have HS8 : Hid _ := G8.out.cells (cmd_name _)
        have N8 : Hid _ := (undrew b8).block _ (lt_of_block N6.out) |>.trans N6.out
        have G9 : Hid _ := G8.out.put HL.out.2.2.1 (cmd_name _) hm9 hg9
        have N7 : Hid _ := grownN N8.out hg9 G8.out.I.map
        clear b8 hm9 hg9 hz9
        refine hK.out _ _ ?_ (fun hHeld => ?_)
        · exact HS8.out
        clear hK K
        try simp only [Act.put, List.setIfInBounds_toArray, List.set_cons_zero, List.set_cons_succ]
        refine cl8 (by kernel_rfl) rfl (fun K hK => ?_)
        go_simp
        refine hK.out _ _ ?_ (fun hHeld => ?_)
        · exact G9.out.2
        clear hK K
        try simp only [Act.put, List.setIfInBounds_toArray, List.set_cons_zero, List.set_cons_succ]
        refine wpAnyH_done (by kernel_rfl) ?_ _
        go_wp2_with (first | (go_at_call 25; rw [HW11.out]; refine (behind_any (base := w11.heap.size) (xs := []) (World.ownsRow_nil _ _ _ _) R11.out (Nat.le_refl _) (by simp)).mono ?_; rintro e w12 ⟨u12, rfl, o12, a12⟩; obtain ⟨p12, n12, c12, rfl⟩ := own_form o12) | (show wpList _ _ _ (⟨_, Op.load rpT _, _, _, _, _⟩ :: _) _ _; refine load_row_g rfl rpT _ rfl w5.heap.size rfl rpT (rpA r) (0, 0) _ N7.out Try.underlying52 rfl sizeRp ?_; obtain ⟨w11, hw11⟩ : ∃ w11, w11 = w9.alloc (.cells (rpA r) rpT) := ⟨_, rfl⟩; have B11 : Hid (Below w9.heap.size w9 w11) := (show Below w9.heap.size w9 w11 from (by rw [hw11]; exact (Below.refl _ w9).alloc (Nat.le_refl _) _)); have R11 : Hid (RowAt rpC w11 (.slice (some ⟨w9.heap.size, 0, none⟩) 1 1) [r]) := (by rw [hw11]; exact rp_one); have HW11 : Hid (w9.alloc (.cells #[.int .i64 r.session, .int .i64 r.seq, .int .i64 r.err, .int .u64 r.token, .int .i64 r.n] rpT) = w11) := hw11.symm; clear hw11))
        go_ret2
        rw [HQ.out, if_pos HE.out]
        have h2 := HF2.out
        rw [if_pos HE.out] at h2
        obtain ⟨I9, k9⟩ := G9.out.1
        have b12 : Below w9.heap.size w9 w12 := B11.out.trans (a12.below.mono B11.out.size)
        have F2 := HL.out.1.add' (new_inv HQG.out nm HE.out) HL.out.2.2.1
        refine ⟨_, _, rfl, RowAt.own rpC_len o12, ⟨⟨M, putM T nm X, updO own nm S1, ?_, rfl⟩, F2.1, h2⟩, k9.trans (Kept.of b12), sep_new o12 fun g hg => Nat.lt_of_lt_of_le (I9.bd g hg).2 B11.out.size⟩
        show LcL w12 base D M c9 (lookK (addL l ⟨nm, h9, b9, []⟩)) _ _
        rw [F2.2]
        exact I9.fresh b12
      · have hh : decide (0 < h9.length) = false := decide_eq_false (new_none HQG.out he)
        have HE : Hid (¬ r.err = 0) := he
        clear he
        go_wp2_with (first | (go_at_call 25; rw [HW11.out]; refine (behind_any (base := w11.heap.size) (xs := []) (World.ownsRow_nil _ _ _ _) R11.out (Nat.le_refl _) (by simp)).mono ?_; rintro e w12 ⟨u12, rfl, o12, a12⟩; obtain ⟨p12, n12, c12, rfl⟩ := own_form o12) | (show wpList _ _ _ (⟨_, Op.load rpT _, _, _, _, _⟩ :: _) _ _; refine load_row_g rfl rpT _ rfl w5.heap.size rfl rpT (rpA r) (0, 0) _ N6.out Try.underlying52 rfl sizeRp ?_; obtain ⟨w11, hw11⟩ : ∃ w11, w11 = w6.alloc (.cells (rpA r) rpT) := ⟨_, rfl⟩; have B11 : Hid (Below w6.heap.size w6 w11) := (show Below w6.heap.size w6 w11 from (by rw [hw11]; exact (Below.refl _ w6).alloc (Nat.le_refl _) _)); have R11 : Hid (RowAt rpC w11 (.slice (some ⟨w6.heap.size, 0, none⟩) 1 1) [r]) := (by rw [hw11]; exact rp_one); have HW11 : Hid (w6.alloc (.cells #[.int .i64 r.session, .int .i64 r.seq, .int .i64 r.err, .int .u64 r.token, .int .i64 r.n] rpT) = w11) := hw11.symm; clear hw11) | (go_at_call 31; rw [HW6.out]; refine (held_any G6.out.at').mono ?_; rintro e w10 ⟨rfl, hz10⟩; obtain rfl : w6 = w10 := hz10.symm) | (go_at_call 30; refine (grant_any I1.out.at' I1.out.I.blk (fun e => (I1.out.nS D e).2 (Or.inl rfl)) I1.out.I.c0 I1.out.I.c1 x HOX.out rfl (by decide)).mono ?_; rw [HQG.out]; rintro e w5 ⟨rfl, G5⟩; obtain ⟨w6, hw6⟩ : ∃ w6, w6 = w5.alloc (.cells (rpA r) rpT) := ⟨_, rfl⟩; have b6 : Below w5.heap.size w5 w6 := (by rw [hw6]; exact (Below.refl _ w5).alloc (Nat.le_refl _) _); have n6 : w6.heap[w5.heap.size]? = some (.cells (rpA r) rpT (0, 0)) := (by rw [hw6]; exact heap_alloc_new w5 _); have HW6 : Hid (w5.alloc (.cells #[.int .i64 r.session, .int .i64 r.seq, .int .i64 r.err, .int .u64 r.token, .int .i64 r.n] rpT) = w6) := hw6.symm; have G6 : Hid (GraR w w6 base D M c9 l T own X S1 (cmA 5 s n nm m) h9 b9) := I1.out.gra G5 b6 HGC.out (HO.out.2.2.2 D (Or.inl rfl)); have N6 : Hid (w6.heap[w5.heap.size]? = some (.cells (rpA r) rpT (0, 0))) := n6; clear hw6 b6 n6 G5) | (go_at_call 28; refine (hasRoom_any I1.out.at' x.rd).mono ?_; rintro e w4 ⟨rfl, hz4⟩; obtain rfl : w1 = w4 := hz4.symm) | (go_at_call 27; refine (anybody_any I1.out.at').mono ?_; rintro e w3 ⟨rfl, hz3⟩; obtain rfl : w1 = w3 := hz3.symm) | (show wpList _ _ _ (⟨_, Op.load lcWT _, _, _, _, _⟩ :: _) _ _; refine load_row_g rfl lcWT _ rfl wn.heap.size rfl lcWT (lcWA x) (0, 0) _ I1.out.box Try.underlying70 rfl sizeLw ?_) | (go_at_call 24; refine (lwaits_any I1.out.at' HOX.out).mono ?_; rintro e w2 ⟨rfl, hz2⟩; obtain rfl : w1 = w2 := hz2.symm) | (go_at_call 23; refine (holds_any IV.out.at' HOX.out).mono ?_; rintro e w1 ⟨rfl, b1⟩; have I1 : Hid _ := IV.out.fresh b1; have z1 := I1.out.c0; have z2 := I1.out.c2; have zD : w1.cell? ⟨D, 0, none⟩ = some (.map (some M)) := I1.out.I.cellM; have hln := fun ty => MapOf.len mNm_is I1.out.I.map ty; rw [HL.out.2.2.2] at hln; clear b1))
        go_ret2
        rw [HQ.out, if_neg HE.out]
        have h2 := HF2.out
        rw [if_neg HE.out] at h2
        have b12 : Below w6.heap.size w6 w12 := B11.out.trans (a12.below.mono B11.out.size)
        exact ⟨_, _, rfl, RowAt.own rpC_len o12, ⟨⟨M, T, own, G6.out.I.fresh b12, rfl⟩, HL.out.1, h2⟩, G6.out.kept.trans (Kept.of b12), sep_new o12 fun g hg => Nat.lt_of_lt_of_le (G6.out.I.bd g hg).2 B11.out.size⟩
  · skip
    change Calls _ _ _ _ (AnsP w base D (setL D M own) (N + 1) (askN c l ⟨s, n, true⟩ nm))
    obtain ⟨x, hx⟩ : ∃ x : Wq, x = ⟨s, n, true⟩ := ⟨_, rfl⟩
    rw [← hx]
    have HX : Hid (x = ⟨s, n, true⟩) := hx
    clear hx
    go_enter Try.func10, Try.ntmps10
    go_upto_region 1 with fail
    rw [HW.out]
    go_upto_region 3 with fail
    refine wp_region_held_drew (S := (fun w' : World => w'.cell? ⟨D, 0, none⟩ = some (.map (some M)) ∧ w'.cell? ⟨w.heap.size, 3, none⟩ = some (.string nm) ∧ (Instr.lookup 58 (.map (some M)) (.string nm) true).run Try.prog w' = .ok (.tuple #[.pointer none, .bool false]) w')) (by kernel_rfl) ?_ (fun hHeld0 => ?_)
    · exact HS0.out
    refine tk0 (.pointer (some ⟨D, 0, none⟩)) (by kernel_rfl) (by kernel_rfl) (by kernel_rfl) (fun _ _ _ h => h) rfl (fun w hSw => by (try dsimp only at hSw); obtain ⟨q0, q1, q2⟩ := hSw; go_simp) (by assumption) ?_
    try simp only [Act.put, List.setIfInBounds_toArray, List.set_cons_zero, List.set_cons_succ]
    refine tk1 (.pointer (some ⟨D, 0, none⟩)) (by kernel_rfl) (by kernel_rfl) (by kernel_rfl) (fun _ _ _ h => h) rfl (fun w hSw => by (try dsimp only at hSw); obtain ⟨q0, q1, q2⟩ := hSw; go_simp) (by assumption) ?_
    try simp only [Act.put, List.setIfInBounds_toArray, List.set_cons_zero, List.set_cons_succ]
    refine tk2 (.pointer (some ⟨D, 0, none⟩)) (by kernel_rfl) (by kernel_rfl) (by kernel_rfl) (fun _ _ _ h => h) rfl (fun w hSw => by (try dsimp only at hSw); obtain ⟨q0, q1, q2⟩ := hSw; go_simp) (by assumption) ?_
    try simp only [Act.put, List.setIfInBounds_toArray, List.set_cons_zero, List.set_cons_succ]
    refine tk3 (.map (some M)) (by kernel_rfl) (by kernel_rfl) (by kernel_rfl) (fun _ _ _ h => h) rfl (fun w hSw => by (try dsimp only at hSw); obtain ⟨q0, q1, q2⟩ := hSw; go_simp) (by assumption) ?_
    try simp only [Act.put, List.setIfInBounds_toArray, List.set_cons_zero, List.set_cons_succ]
    refine tk4 (.pointer (some ⟨w.heap.size, 3, none⟩)) (by kernel_rfl) (by kernel_rfl) (by kernel_rfl) (fun _ _ _ h => h) rfl (fun w hSw => by (try dsimp only at hSw); obtain ⟨q0, q1, q2⟩ := hSw; go_simp) (by assumption) ?_
    try simp only [Act.put, List.setIfInBounds_toArray, List.set_cons_zero, List.set_cons_succ]
    refine tk5 (.string nm) (by kernel_rfl) (by kernel_rfl) (by kernel_rfl) (fun _ _ _ h => h) rfl (fun w hSw => by (try dsimp only at hSw); obtain ⟨q0, q1, q2⟩ := hSw; go_simp) (by assumption) ?_
    try simp only [Act.put, List.setIfInBounds_toArray, List.set_cons_zero, List.set_cons_succ]
    refine tk6 (.tuple #[.pointer none, .bool false]) (by kernel_rfl) (by kernel_rfl) (by kernel_rfl) (fun _ _ _ h => h) rfl (fun w hSw => by (try dsimp only at hSw); obtain ⟨q0, q1, q2⟩ := hSw; go_simp) (by assumption) ?_
    try simp only [Act.put, List.setIfInBounds_toArray, List.set_cons_zero, List.set_cons_succ]
    refine tk7 (.tuple #[.pointer none, .bool false]) (by kernel_rfl) (by kernel_rfl) (by kernel_rfl) (fun _ _ _ h => h) rfl (fun w hSw => by (try dsimp only at hSw); obtain ⟨q0, q1, q2⟩ := hSw; go_simp) (by assumption) ?_
    try simp only [Act.put, List.setIfInBounds_toArray, List.set_cons_zero, List.set_cons_succ]
    refine tk8 (.pointer none) (by kernel_rfl) (by kernel_rfl) (by kernel_rfl) (fun _ _ _ h => h) rfl (fun w hSw => by (try dsimp only at hSw); obtain ⟨q0, q1, q2⟩ := hSw; go_simp) (by assumption) ?_
    try simp only [Act.put, List.setIfInBounds_toArray, List.set_cons_zero, List.set_cons_succ]
    refine tk9 (.bool false) (by kernel_rfl) (by kernel_rfl) (by kernel_rfl) (fun _ _ _ h => h) rfl (fun w hSw => by (try dsimp only at hSw); obtain ⟨q0, q1, q2⟩ := hSw; go_simp) (by assumption) ?_
    try simp only [Act.put, List.setIfInBounds_toArray, List.set_cons_zero, List.set_cons_succ]
    refine tk10 (.pointer none) (by kernel_rfl) (by kernel_rfl) (by kernel_rfl) (fun _ _ _ h => h) rfl (fun w hSw => by (try dsimp only at hSw); obtain ⟨q0, q1, q2⟩ := hSw; go_simp) (by assumption) ?_
    try simp only [Act.put, List.setIfInBounds_toArray, List.set_cons_zero, List.set_cons_succ]
    refine tk11 (.bool false) (by kernel_rfl) (by kernel_rfl) (by kernel_rfl) (fun _ _ _ h => h) rfl (fun w hSw => by (try dsimp only at hSw); obtain ⟨q0, q1, q2⟩ := hSw; go_simp) (by assumption) ?_
    try simp only [Act.put, List.setIfInBounds_toArray, List.set_cons_zero, List.set_cons_succ]
    refine wpAnyH_done (by kernel_rfl) ?_ _
    go_upto_region 6 with (go_at_call 22; refine (newLock_any _).mono ?_; rintro e wn ⟨X, S1, rfl, in1, sn, bn⟩)
    have bn0 : Below W.heap.size W wn := undrew bn
    have q1 : wn.cell? ⟨w.heap.size, 1, none⟩ = some (.int .i64 s) := by
      have := (bn0.block _ (lt_of_block HB.out.2)).trans HB.out.2
      simp [World.cell?, this]
    have q2 : wn.cell? ⟨w.heap.size, 2, none⟩ = some (.int .i64 n) := by
      have := (bn0.block _ (lt_of_block HB.out.2)).trans HB.out.2
      simp [World.cell?, this]
    have q0 : wn.cell? ⟨w.heap.size, 0, none⟩ = some (.int .i64 7) := by
      have := (bn0.block _ (lt_of_block HB.out.2)).trans HB.out.2
      simp [World.cell?, this]
    go_upto_region 7 with fail
    obtain ⟨V, hV⟩ : ∃ V, V = wn.alloc (.cells (lcWA ⟨s, n, true⟩) lcWT) := ⟨_, rfl⟩
    have HV : Hid (wn.alloc (.cells #[.int .i64 s, .int .i64 n, .bool true] lcWT) = V) := hV.symm
    rw [HV.out]
    have IV : Hid (AnI w V base D M N c l T own nm X S1 (cmA 7 s n nm m) wn.heap.size x) := (show Hid _ from (by
      rw [hV, HX.out]
      exact AnI.mk' HI.out HB.out.1 HB.out.2 HO.out.2.2.2 bn0 in1 sn))
    have HOX : Hid (inI x.s) := (show inI x.s from by rw [HX.out]; exact HO.out.1)
    have v0 := IV.out.c0
    clear hV bn bn0 q0 q1 q2 in1 sn z0 y0 y3 HV
    by_cases hf : 256 ≤ l.length
    · have HQ : Hid (askN c l x nm = (c, l, [⟨x.s, x.n, 17, 0, 0⟩], false)) := (show askN c l x nm = _ from by unfold askN; rw [if_pos hf])
      have t1 : decide ((l.length : Int) ≥ 256) = true := decide_eq_true (by omega)
      have t2 : decide (256 ≤ l.length) = true := decide_eq_true hf
      clear hf
      go_wp2_with (first | (go_at_call 25; rw [HW6.out]; refine (behind_any (base := w6.heap.size) (xs := []) (World.ownsRow_nil _ _ _ _) R6.out (Nat.le_refl _) (by simp)).mono ?_; rintro e w7 ⟨u7, rfl, o7, a7⟩; obtain ⟨p7, n7, c7, rfl⟩ := own_form o7) | (go_at_call 26; refine (refused_any w1 x 17).mono ?_; rintro e w5 ⟨rfl, b5⟩; obtain ⟨w6, hw6⟩ : ∃ w6, w6 = w5.alloc (.cells (rpA ⟨x.s, x.n, 17, 0, 0⟩) rpT) := ⟨_, rfl⟩; have b6 : Below w1.heap.size w1 w6 := (by rw [hw6]; exact b5.trans (((Below.refl _ w5).alloc (Nat.le_refl _) _).mono b5.size)); have I6 : Hid _ := I1.out.fresh b6; have R6 : Hid (RowAt rpC w6 (.slice (some ⟨w5.heap.size, 0, none⟩) 1 1) [⟨x.s, x.n, 17, 0, 0⟩]) := (by rw [hw6]; exact rp_one); have HW6 : Hid (w5.alloc (.cells #[.int .i64 x.s, .int .i64 x.n, .int .i64 17, .int .u64 0, .int .i64 0] rpT) = w6) := hw6.symm; clear hw6 b6 b5) | (show wpList _ _ _ (⟨_, Op.load lcWT _, _, _, _, _⟩ :: _) _ _; refine load_row_g rfl lcWT _ rfl wn.heap.size rfl lcWT (lcWA x) (0, 0) _ I1.out.box Try.underlying70 rfl sizeLw ?_) | (go_at_call 24; refine (lwaits_any I1.out.at' HOX.out).mono ?_; rintro e w2 ⟨rfl, hz2⟩; obtain rfl : w1 = w2 := hz2.symm) | (go_at_call 23; refine (holds_any IV.out.at' HOX.out).mono ?_; rintro e w1 ⟨rfl, b1⟩; have I1 : Hid _ := IV.out.fresh b1; have z1 := I1.out.c0; have z2 := I1.out.c2; have zD : w1.cell? ⟨D, 0, none⟩ = some (.map (some M)) := I1.out.I.cellM; have hln := fun ty => MapOf.len mNm_is I1.out.I.map ty; rw [HL.out.2.2.2] at hln; clear b1))
      go_ret2
      rw [HQ.out]
      have I7 := I6.out.fresh a7.below
      exact ⟨_, _, rfl, RowAt.own rpC_len o7, ⟨⟨M, T, own, I7.I, rfl⟩, HL.out.1, HL.out.2.1.up (Nat.le_succ _)⟩, Kept.of I7.bel, sep_new o7 fun g hg => (I6.out.I.bd g hg).2⟩
    · have t1 : decide ((l.length : Int) ≥ 256) = false := decide_eq_false (by omega)
      have t2 : decide (256 ≤ l.length) = false := decide_eq_false hf
      have hfit : fitH [] false x.rd = true := by unfold fitH; rfl
      obtain ⟨c9, h9, b9, r, hg⟩ : ∃ c9 h9 b9 r, giveH c [] false x = (c9, h9, b9, r) := ⟨_, _, _, _, rfl⟩
      have HQ : Hid (askN c l x nm = (c9, if r.err = 0 then addL l ⟨nm, h9, b9, []⟩ else l, [r], false)) := (show askN c l x nm = _ from by unfold askN; rw [if_neg hf, hg])
      have HQG : Hid (giveH c [] false x = (c9, h9, b9, r)) := hg
      have HGC : Hid (0 ≤ c9 ∧ c9 ≤ 18446744073709551615) := (show _ ∧ _ from by
        have := giveH_c (h := []) (b := false) (x := x) IV.out.I.c0 IV.out.I.c1
        rwa [hg] at this)
      have HFT : Hid (askL c l 7 s n nm = askN c l x nm) := (show askL c l 7 s n nm = askN c l x nm from askL_new HL.out.2.2.1 (by decide) HX.out)
      have hfi2 := HL.out.2.1.ask 7 s n nm HO.out.1 HO.out.2.1 HO.out.2.2.1
      rw [HFT.out, HQ.out] at hfi2
      have HF2 : Hid _ := hfi2
      clear hf hg hfi2
      by_cases he : r.err = 0
      · have hh : decide (0 < h9.length) = true := decide_eq_true (new_held HQG.out he)
        have HE : Hid (r.err = 0) := he
        clear he
        go_upto_region 16 with (first | (go_at_call 31; rw [HW6.out]; refine (held_any G6.out.at').mono ?_; rintro e w10 ⟨rfl, hz10⟩; obtain rfl : w6 = w10 := hz10.symm) | (go_at_call 30; refine (grant_any I1.out.at' I1.out.I.blk (fun e => (I1.out.nS D e).2 (Or.inl rfl)) I1.out.I.c0 I1.out.I.c1 x HOX.out rfl (by decide)).mono ?_; rw [HQG.out]; rintro e w5 ⟨rfl, G5⟩; obtain ⟨w6, hw6⟩ : ∃ w6, w6 = w5.alloc (.cells (rpA r) rpT) := ⟨_, rfl⟩; have b6 : Below w5.heap.size w5 w6 := (by rw [hw6]; exact (Below.refl _ w5).alloc (Nat.le_refl _) _); have n6 : w6.heap[w5.heap.size]? = some (.cells (rpA r) rpT (0, 0)) := (by rw [hw6]; exact heap_alloc_new w5 _); have HW6 : Hid (w5.alloc (.cells #[.int .i64 r.session, .int .i64 r.seq, .int .i64 r.err, .int .u64 r.token, .int .i64 r.n] rpT) = w6) := hw6.symm; have G6 : Hid (GraR w w6 base D M c9 l T own X S1 (cmA 7 s n nm m) h9 b9) := I1.out.gra G5 b6 HGC.out (HO.out.2.2.2 D (Or.inl rfl)); have N6 : Hid (w6.heap[w5.heap.size]? = some (.cells (rpA r) rpT (0, 0))) := n6; clear hw6 b6 n6 G5) | (go_at_call 28; refine (hasRoom_any I1.out.at' x.rd).mono ?_; rintro e w4 ⟨rfl, hz4⟩; obtain rfl : w1 = w4 := hz4.symm) | (go_at_call 27; refine (anybody_any I1.out.at').mono ?_; rintro e w3 ⟨rfl, hz3⟩; obtain rfl : w1 = w3 := hz3.symm) | (show wpList _ _ _ (⟨_, Op.load lcWT _, _, _, _, _⟩ :: _) _ _; refine load_row_g rfl lcWT _ rfl wn.heap.size rfl lcWT (lcWA x) (0, 0) _ I1.out.box Try.underlying70 rfl sizeLw ?_) | (go_at_call 24; refine (lwaits_any I1.out.at' HOX.out).mono ?_; rintro e w2 ⟨rfl, hz2⟩; obtain rfl : w1 = w2 := hz2.symm) | (go_at_call 23; refine (holds_any IV.out.at' HOX.out).mono ?_; rintro e w1 ⟨rfl, b1⟩; have I1 : Hid _ := IV.out.fresh b1; have z1 := I1.out.c0; have z2 := I1.out.c2; have zD : w1.cell? ⟨D, 0, none⟩ = some (.map (some M)) := I1.out.I.cellM; have hln := fun ty => MapOf.len mNm_is I1.out.I.map ty; rw [HL.out.2.2.2] at hln; clear b1))
        refine wp_region_held_drew (S := (fun w' : World => w'.cell? ⟨D, 0, none⟩ = some (.map (some M)) ∧ w'.cell? ⟨w.heap.size, 3, none⟩ = some (.string nm))) (by kernel_rfl) ?_ (fun hHeld0 => ?_)
        · exact G6.out.cells (cmd_name _)
        refine tk0 (.pointer (some ⟨D, 0, none⟩)) (by kernel_rfl) (by kernel_rfl) (by kernel_rfl) (fun _ _ _ h => h) rfl (fun w hSw => by (try dsimp only at hSw); obtain ⟨q0, q1⟩ := hSw; go_simp) (by assumption) ?_
        try simp only [Act.put, List.setIfInBounds_toArray, List.set_cons_zero, List.set_cons_succ]
        refine tk1 (.pointer (some ⟨D, 0, none⟩)) (by kernel_rfl) (by kernel_rfl) (by kernel_rfl) (fun _ _ _ h => h) rfl (fun w hSw => by (try dsimp only at hSw); obtain ⟨q0, q1⟩ := hSw; go_simp) (by assumption) ?_
        try simp only [Act.put, List.setIfInBounds_toArray, List.set_cons_zero, List.set_cons_succ]
        refine tk2 (.pointer (some ⟨D, 0, none⟩)) (by kernel_rfl) (by kernel_rfl) (by kernel_rfl) (fun _ _ _ h => h) rfl (fun w hSw => by (try dsimp only at hSw); obtain ⟨q0, q1⟩ := hSw; go_simp) (by assumption) ?_
        try simp only [Act.put, List.setIfInBounds_toArray, List.set_cons_zero, List.set_cons_succ]
        refine tk3 (.map (some M)) (by kernel_rfl) (by kernel_rfl) (by kernel_rfl) (fun _ _ _ h => h) rfl (fun w hSw => by (try dsimp only at hSw); obtain ⟨q0, q1⟩ := hSw; go_simp) (by assumption) ?_
        try simp only [Act.put, List.setIfInBounds_toArray, List.set_cons_zero, List.set_cons_succ]
        refine tk4 (.pointer (some ⟨w.heap.size, 3, none⟩)) (by kernel_rfl) (by kernel_rfl) (by kernel_rfl) (fun _ _ _ h => h) rfl (fun w hSw => by (try dsimp only at hSw); obtain ⟨q0, q1⟩ := hSw; go_simp) (by assumption) ?_
        try simp only [Act.put, List.setIfInBounds_toArray, List.set_cons_zero, List.set_cons_succ]
        refine tk5 (.string nm) (by kernel_rfl) (by kernel_rfl) (by kernel_rfl) (fun _ _ _ h => h) rfl (fun w hSw => by (try dsimp only at hSw); obtain ⟨q0, q1⟩ := hSw; go_simp) (by assumption) ?_
        try simp only [Act.put, List.setIfInBounds_toArray, List.set_cons_zero, List.set_cons_succ]
        refine tk7 (.pointer (some ⟨X, 0, none⟩)) (by kernel_rfl) (by kernel_rfl) (by kernel_rfl) (fun _ _ _ h => h) rfl (fun w hSw => by (try dsimp only at hSw); obtain ⟨q0, q1⟩ := hSw; go_simp) (by assumption) ?_
        try simp only [Act.put, List.setIfInBounds_toArray, List.set_cons_zero, List.set_cons_succ]
        refine cl6 (by kernel_rfl) rfl (fun K hK => ?_)
        go_simp
        go_at_call 32
        refine (lclone_any nm _ (by have := HO.out.2.2.1; omega)).mono ?_
        rintro e w8 ⟨rfl, b8⟩
        have G8 : Hid _ := G6.out.fresh (undrew b8)
        obtain ⟨w9, hrun, hm9, hg9, hz9⟩ := MapOf.put mNm_is G8.out.I.map (n := nm) (show nm.size ≤ maxLen from by unfold maxLen; have := HO.out.2.2.1; omega) X
        change (Instr.mapUpdate _ _ (.string nm) (.pointer (some ⟨X, 0, none⟩))).run _ _ = _ at hrun
        have HS8 : Hid _ := G8.out.cells (cmd_name _)
        have N8 : Hid _ := (undrew b8).block _ (lt_of_block N6.out) |>.trans N6.out
        have G9 : Hid _ := G8.out.put HL.out.2.2.1 (cmd_name _) hm9 hg9
        have N7 : Hid _ := grownN N8.out hg9 G8.out.I.map
        clear b8 hm9 hg9 hz9
        refine hK.out _ _ ?_ (fun hHeld => ?_)
        · exact HS8.out
        clear hK K
        try simp only [Act.put, List.setIfInBounds_toArray, List.set_cons_zero, List.set_cons_succ]
        refine cl8 (by kernel_rfl) rfl (fun K hK => ?_)
        go_simp
        refine hK.out _ _ ?_ (fun hHeld => ?_)
        · exact G9.out.2
        clear hK K
        try simp only [Act.put, List.setIfInBounds_toArray, List.set_cons_zero, List.set_cons_succ]
        refine wpAnyH_done (by kernel_rfl) ?_ _
        go_wp2_with (first | (go_at_call 25; rw [HW11.out]; refine (behind_any (base := w11.heap.size) (xs := []) (World.ownsRow_nil _ _ _ _) R11.out (Nat.le_refl _) (by simp)).mono ?_; rintro e w12 ⟨u12, rfl, o12, a12⟩; obtain ⟨p12, n12, c12, rfl⟩ := own_form o12) | (show wpList _ _ _ (⟨_, Op.load rpT _, _, _, _, _⟩ :: _) _ _; refine load_row_g rfl rpT _ rfl w5.heap.size rfl rpT (rpA r) (0, 0) _ N7.out Try.underlying52 rfl sizeRp ?_; obtain ⟨w11, hw11⟩ : ∃ w11, w11 = w9.alloc (.cells (rpA r) rpT) := ⟨_, rfl⟩; have B11 : Hid (Below w9.heap.size w9 w11) := (show Below w9.heap.size w9 w11 from (by rw [hw11]; exact (Below.refl _ w9).alloc (Nat.le_refl _) _)); have R11 : Hid (RowAt rpC w11 (.slice (some ⟨w9.heap.size, 0, none⟩) 1 1) [r]) := (by rw [hw11]; exact rp_one); have HW11 : Hid (w9.alloc (.cells #[.int .i64 r.session, .int .i64 r.seq, .int .i64 r.err, .int .u64 r.token, .int .i64 r.n] rpT) = w11) := hw11.symm; clear hw11))
        go_ret2
        rw [HQ.out, if_pos HE.out]
        have h2 := HF2.out
        rw [if_pos HE.out] at h2
        obtain ⟨I9, k9⟩ := G9.out.1
        have b12 : Below w9.heap.size w9 w12 := B11.out.trans (a12.below.mono B11.out.size)
        have F2 := HL.out.1.add' (new_inv HQG.out nm HE.out) HL.out.2.2.1
        refine ⟨_, _, rfl, RowAt.own rpC_len o12, ⟨⟨M, putM T nm X, updO own nm S1, ?_, rfl⟩, F2.1, h2⟩, k9.trans (Kept.of b12), sep_new o12 fun g hg => Nat.lt_of_lt_of_le (I9.bd g hg).2 B11.out.size⟩
        show LcL w12 base D M c9 (lookK (addL l ⟨nm, h9, b9, []⟩)) _ _
        rw [F2.2]
        exact I9.fresh b12
      · have hh : decide (0 < h9.length) = false := decide_eq_false (new_none HQG.out he)
        have HE : Hid (¬ r.err = 0) := he
        clear he
        go_wp2_with (first | (go_at_call 25; rw [HW11.out]; refine (behind_any (base := w11.heap.size) (xs := []) (World.ownsRow_nil _ _ _ _) R11.out (Nat.le_refl _) (by simp)).mono ?_; rintro e w12 ⟨u12, rfl, o12, a12⟩; obtain ⟨p12, n12, c12, rfl⟩ := own_form o12) | (show wpList _ _ _ (⟨_, Op.load rpT _, _, _, _, _⟩ :: _) _ _; refine load_row_g rfl rpT _ rfl w5.heap.size rfl rpT (rpA r) (0, 0) _ N6.out Try.underlying52 rfl sizeRp ?_; obtain ⟨w11, hw11⟩ : ∃ w11, w11 = w6.alloc (.cells (rpA r) rpT) := ⟨_, rfl⟩; have B11 : Hid (Below w6.heap.size w6 w11) := (show Below w6.heap.size w6 w11 from (by rw [hw11]; exact (Below.refl _ w6).alloc (Nat.le_refl _) _)); have R11 : Hid (RowAt rpC w11 (.slice (some ⟨w6.heap.size, 0, none⟩) 1 1) [r]) := (by rw [hw11]; exact rp_one); have HW11 : Hid (w6.alloc (.cells #[.int .i64 r.session, .int .i64 r.seq, .int .i64 r.err, .int .u64 r.token, .int .i64 r.n] rpT) = w11) := hw11.symm; clear hw11) | (go_at_call 31; rw [HW6.out]; refine (held_any G6.out.at').mono ?_; rintro e w10 ⟨rfl, hz10⟩; obtain rfl : w6 = w10 := hz10.symm) | (go_at_call 30; refine (grant_any I1.out.at' I1.out.I.blk (fun e => (I1.out.nS D e).2 (Or.inl rfl)) I1.out.I.c0 I1.out.I.c1 x HOX.out rfl (by decide)).mono ?_; rw [HQG.out]; rintro e w5 ⟨rfl, G5⟩; obtain ⟨w6, hw6⟩ : ∃ w6, w6 = w5.alloc (.cells (rpA r) rpT) := ⟨_, rfl⟩; have b6 : Below w5.heap.size w5 w6 := (by rw [hw6]; exact (Below.refl _ w5).alloc (Nat.le_refl _) _); have n6 : w6.heap[w5.heap.size]? = some (.cells (rpA r) rpT (0, 0)) := (by rw [hw6]; exact heap_alloc_new w5 _); have HW6 : Hid (w5.alloc (.cells #[.int .i64 r.session, .int .i64 r.seq, .int .i64 r.err, .int .u64 r.token, .int .i64 r.n] rpT) = w6) := hw6.symm; have G6 : Hid (GraR w w6 base D M c9 l T own X S1 (cmA 7 s n nm m) h9 b9) := I1.out.gra G5 b6 HGC.out (HO.out.2.2.2 D (Or.inl rfl)); have N6 : Hid (w6.heap[w5.heap.size]? = some (.cells (rpA r) rpT (0, 0))) := n6; clear hw6 b6 n6 G5) | (go_at_call 28; refine (hasRoom_any I1.out.at' x.rd).mono ?_; rintro e w4 ⟨rfl, hz4⟩; obtain rfl : w1 = w4 := hz4.symm) | (go_at_call 27; refine (anybody_any I1.out.at').mono ?_; rintro e w3 ⟨rfl, hz3⟩; obtain rfl : w1 = w3 := hz3.symm) | (show wpList _ _ _ (⟨_, Op.load lcWT _, _, _, _, _⟩ :: _) _ _; refine load_row_g rfl lcWT _ rfl wn.heap.size rfl lcWT (lcWA x) (0, 0) _ I1.out.box Try.underlying70 rfl sizeLw ?_) | (go_at_call 24; refine (lwaits_any I1.out.at' HOX.out).mono ?_; rintro e w2 ⟨rfl, hz2⟩; obtain rfl : w1 = w2 := hz2.symm) | (go_at_call 23; refine (holds_any IV.out.at' HOX.out).mono ?_; rintro e w1 ⟨rfl, b1⟩; have I1 : Hid _ := IV.out.fresh b1; have z1 := I1.out.c0; have z2 := I1.out.c2; have zD : w1.cell? ⟨D, 0, none⟩ = some (.map (some M)) := I1.out.I.cellM; have hln := fun ty => MapOf.len mNm_is I1.out.I.map ty; rw [HL.out.2.2.2] at hln; clear b1))
        go_ret2
        rw [HQ.out, if_neg HE.out]
        have h2 := HF2.out
        rw [if_neg HE.out] at h2
        have b12 : Below w6.heap.size w6 w12 := B11.out.trans (a12.below.mono B11.out.size)
        exact ⟨_, _, rfl, RowAt.own rpC_len o12, ⟨⟨M, T, own, G6.out.I.fresh b12, rfl⟩, HL.out.1, h2⟩, G6.out.kept.trans (Kept.of b12), sep_new o12 fun g hg => Nat.lt_of_lt_of_le (G6.out.I.bd g hg).2 B11.out.size⟩
end Go.Proofs.Ytmfadmhbkgemmaa
