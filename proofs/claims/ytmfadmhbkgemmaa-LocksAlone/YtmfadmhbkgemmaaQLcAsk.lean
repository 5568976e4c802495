/-
  Package locks: a lock asked for, as plain data. The conditions: numbers are ints, names at most 1000 bytes; fewer than 32767 deeds.
-/
import Derived.Test.YtmfadmhbkgemmaaQLcW
namespace Go.Proofs.Ytmfadmhbkgemmaa
open Go.RowKit

/-- The lock is there: what the ways share. -/
structure AkT (w : World) (base D M : Nat) (N : Nat) (c : Int) (l : List Lk) (T : List (ByteArray × Nat)) (own : ByteArray → Nat → Prop) (nm : ByteArray) (i : Nat) (y : Lk) (X : Nat) : Prop where
  I : LcL w base D M c (lookK l) T own
  ok : LcOk l
  fit : LoFit N c l
  hi : l[i]? = some y
  hn : y.name = nm
  hX : lookM T nm = some X
  hA : LcAt w X (own nm) y.h y.wr y.q
  hN : N < 32767
section
variable {w w' : World} {base D M N i X : Nat} {c : Int} {l : List Lk} {T : List (ByteArray × Nat)} {own : ByteArray → Nat → Prop} {nm : ByteArray} {y : Lk}
theorem AkT.fresh (h : AkT w base D M N c l T own nm i y X) (k : Below w.heap.size w w') : AkT w' base D M N c l T own nm i y X :=
  ⟨h.I.fresh k, h.ok, h.fit, h.hi, h.hn, h.hX, h.hA.fresh k, h.hN⟩
end
/-- With the place of who asks, at g. -/
structure AkI (w wr : World) (base D M : Nat) (N : Nat) (c : Int) (l : List Lk) (T : List (ByteArray × Nat)) (own : ByteArray → Nat → Prop) (nm : ByteArray) (i : Nat) (y : Lk) (X g : Nat) (x : Wq) : Prop where
  at' : AkT wr base D M N c l T own nm i y X
  box : wr.heap[g]? = some (.cells (lcWA x) lcWT (0, 0))
  bel : Below w.heap.size w wr
section
variable {w W wr w' : World} {base D M N i X g : Nat} {c : Int} {l : List Lk} {T : List (ByteArray × Nat)} {own : ByteArray → Nat → Prop} {nm : ByteArray} {y : Lk} {x : Wq}
theorem AkI.fresh (h : AkI w wr base D M N c l T own nm i y X g x) (k : Below wr.heap.size wr w') : AkI w w' base D M N c l T own nm i y X g x :=
  ⟨h.at'.fresh k, (k.block g (lt_of_block h.box)).trans h.box, h.bel.trans (k.mono h.bel.size)⟩
theorem AkI.mk' (h : AkT W base D M N c l T own nm i y X) (b : Below w.heap.size w W) : AkI w (W.alloc (.cells (lcWA x) lcWT)).drew base D M N c l T own nm i y X W.heap.size x :=
  ⟨h.fresh ((Below.refl _ W).alloc (Nat.le_refl _) _).drew, heap_alloc_new W _, (b.alloc b.size _).drew⟩
theorem AkI.c0 (h : AkI w wr base D M N c l T own nm i y X g x) : wr.cell? ⟨g, 0, none⟩ = some (.int .i64 x.s) := by simp [World.cell?, h.box]
theorem AkI.c2 (h : AkI w wr base D M N c l T own nm i y X g x) : wr.cell? ⟨g, 2, none⟩ = some (.bool x.rd) := by simp [World.cell?, h.box]
theorem keptD {S S' : Nat → Prop} (k : Kept w w' S S') : Kept w w' (fun g => S g ∨ g = D) (fun g => S' g ∨ g = D) :=
  ⟨k.os, k.tape, k.output, k.size, fun g hg => by
    rcases hg with hg | hg
    · rcases k.old g hg with h | h
      · exact Or.inl (Or.inl h)
      · exact Or.inr h
    · exact Or.inl (Or.inr hg), fun g hg hn => k.kept g hg (fun e => hn (Or.inl e))⟩
theorem AkT.hl (h : AkT w base D M N c l T own nm i y X) : y.h.length < 65536 := by
  have := (h.fit.each y (List.mem_of_getElem? h.hi)).sum
  have := h.hN
  omega
theorem AkT.nofit (h : AkT w base D M N c l T own nm i y X) {rd : Bool} (hf : fitH y.h y.wr rd = false) : ¬ (rd = true ∧ y.wr = false) := by
  have := (h.ok.each y (List.mem_of_getElem? h.hi)).ne
  unfold fitH at hf
  rw [decide_eq_false (by omega), Bool.false_or] at hf
  rintro ⟨h1, h2⟩
  rw [h1, h2] at hf
  cases hf
theorem AkT.fits (h : AkT w base D M N c l T own nm i y X) {rd : Bool} (hf : fitH y.h y.wr rd = true) : rd = true ∧ y.wr = false := by
  have := (h.ok.each y (List.mem_of_getElem? h.hi)).ne
  unfold fitH at hf
  rw [decide_eq_false (by omega), Bool.false_or] at hf
  simpa using hf
theorem AkT.askL (h : AkT w base D M N c l T own nm i y X) {k s n : Int} (hk : ¬ (k ≠ 5 ∧ k ≠ 7)) (hx : x = ⟨s, n, k == 7⟩) : askL c l k s n nm = askS c l i y x := by
  have h1 : lookK l nm = some y := (lookK_iff (srt_nodup h.ok.srt)).2 ⟨List.mem_of_getElem? h.hi, h.hn⟩
  rw [← lkIx_look] at h1
  unfold Go.Proofs.Ytmfadmhbkgemmaa.askL
  rw [if_neg hk]
  cases hj : lkIx l nm with
  | none => rw [hj] at h1; cases h1
  | some j =>
    rw [hj] at h1
    have h1 : l[j]? = some y := h1
    obtain ⟨hjl, hje⟩ := List.getElem?_eq_some_iff.1 h1
    obtain ⟨hil, hie⟩ := List.getElem?_eq_some_iff.1 h.hi
    have hij : j = i := by
      have hp := List.pairwise_iff_getElem.1 (srt_nodup h.ok.srt)
      rcases Nat.lt_trichotomy j i with c | c | c
      · exact absurd (by rw [List.getElem_map, List.getElem_map, hje, hie]) (hp j i (by simpa using hjl) (by simpa using hil) c)
      · exact c
      · exact absurd (by rw [List.getElem_map, List.getElem_map, hje, hie]) (hp i j (by simpa using hil) (by simpa using hjl) c)
    subst hij
    simp only [h1]
    rw [hx]
end
set_option maxRecDepth 100000 in
set_option maxHeartbeats 8000000 in
theorem pask_there {w : World} {base D M N i X : Nat} {c : Int} {l : List Lk} {T : List (ByteArray × Nat)} {own : ByteArray → Nat → Prop} {nm : ByteArray} {y : Lk} (A : AkT w base D M N c l T own nm i y X) {k s n m : Int} (hk : k = 5 ∨ k = 7) (hs : okI s) (hn : okI n) (hm : nm.size ≤ 1000) :
    Calls Try.prog 10 #[.pointer (some ⟨D, 0, none⟩), .agg (cmA k s n nm m)] w (AnsP w base D (setL D M own) (N + 1) (askS c l i y ⟨s, n, k == 7⟩)) := by
  obtain ⟨W, hW⟩ : ∃ W, W = w.alloc (.cells (cmA k s n nm m) cmT) := ⟨_, rfl⟩
  have bW : Below w.heap.size w W := by rw [hW]; exact (Below.refl _ w).alloc (Nat.le_refl _) _
  have nW : W.heap[w.heap.size]? = some (.cells (cmA k s n nm m) cmT (0, 0)) := by rw [hW]; exact heap_alloc_new w _
  have AW := A.fresh bW
  have z0 : W.cell? ⟨D, 0, none⟩ = some (.map (some M)) := AW.I.cellM
  have y0 : W.cell? ⟨w.heap.size, 0, none⟩ = some (.int .i64 k) := by simp [World.cell?, nW]
  have y1 : W.cell? ⟨w.heap.size, 1, none⟩ = some (.int .i64 s) := by simp [World.cell?, nW]
  have y2 : W.cell? ⟨w.heap.size, 2, none⟩ = some (.int .i64 n) := by simp [World.cell?, nW]
  have y3 : W.cell? ⟨w.heap.size, 3, none⟩ = some (.string nm) := by simp [World.cell?, nW]
  have hlkd := (AW.I.keep (w' := W.drew) fun _ _ => rfl).look2 (nm := nm) (by unfold maxLen; omega)
  rw [AW.hX, ← AW.I.some', AW.hX] at hlkd
  have HS0 : Hid (W.drew.cell? ⟨D, 0, none⟩ = some (.map (some M)) ∧ W.drew.cell? ⟨w.heap.size, 3, none⟩ = some (.string nm) ∧ (Instr.lookup 58 (.map (some M)) (.string nm) true).run Try.prog W.drew = .ok (.tuple #[.pointer (some ⟨X, 0, none⟩), .bool true]) W.drew) := (show Hid _ from (⟨z0, y3, hlkd⟩ : _ ∧ _ ∧ _))
  have HA : Hid (AkT W base D M N c l T own nm i y X) := AW
  have HB : Hid (Below w.heap.size w W ∧ W.heap[w.heap.size]? = some (.cells (cmA k s n nm m) cmT (0, 0))) := (show Hid _ from (⟨bW, nW⟩ : _ ∧ _))
  have HW : Hid (w.alloc (.cells #[.int .i64 k, .int .i64 s, .int .i64 n, .string nm, .int .i64 m] cmT) = W) := hW.symm
  have HO : Hid (okI s ∧ okI n ∧ nm.size ≤ 1000) := (show Hid _ from (⟨hs, hn, hm⟩ : _ ∧ _ ∧ _))
  clear A AW bW nW hW hs hn hm
  rcases hk with rfl | rfl
  · skip
    change Calls _ _ _ _ (AnsP w base D (setL D M own) (N + 1) (askS c l i y ⟨s, n, false⟩))
    obtain ⟨x, hx⟩ : ∃ x : Wq, x = ⟨s, n, false⟩ := ⟨_, rfl⟩
    rw [← hx]
    have HX : Hid (x = ⟨s, n, false⟩) := hx
    clear hx
    go_enter Try.func10, Try.ntmps10
    go_upto_region 1 with fail
    rw [HW.out]
    go_upto_region 3 with fail
    refine wp_region_held_drew (S := (fun w' : World => w'.cell? ⟨D, 0, none⟩ = some (.map (some M)) ∧ w'.cell? ⟨w.heap.size, 3, none⟩ = some (.string nm) ∧ (Instr.lookup 58 (.map (some M)) (.string nm) true).run Try.prog w' = .ok (.tuple #[.pointer (some ⟨X, 0, none⟩), .bool true]) w')) (by kernel_rfl) ?_ (fun hHeld0 => ?_)
    · exact HS0.out
    refine tk0 (.pointer (some ⟨D, 0, none⟩)) (by kernel_rfl) (by kernel_rfl) (by kernel_rfl) (fun _ _ _ h => h) rfl (fun w hSw => by (try dsimp only at hSw); obtain ⟨q0, q1, q2⟩ := hSw; go_simp) (by assumption) ?_
    try simp only [Act.put, List.setIfInBounds_toArray, List.set_cons_zero, List.set_cons_succ]
    refine tk1 (.pointer (some ⟨D, 0, none⟩)) (by kernel_rfl) (by kernel_rfl) (by kernel_rfl) (fun _ _ _ h => h) rfl (fun w hSw => by (try dsimp only at hSw); obtain ⟨q0, q1, q2⟩ := hSw; go_simp) (by assumption) ?_
    try simp only [Act.put, List.setIfInBounds_toArray, List.set_cons_zero, List.set_cons_succ]
    refine tk2 (.pointer (some ⟨D, 0, none⟩)) (by kernel_rfl) (by kernel_rfl) (by kernel_rfl) (fun _ _ _ h => h) rfl (fun w hSw => by (try dsimp only at hSw); obtain ⟨q0, q1, q2⟩ := hSw; go_simp) (by assumption) ?_
    try simp only [Act.put, List.setIfInBounds_toArray, List.set_cons_zero, List.set_cons_succ]
    refine tk3 (.map (some M)) (by kernel_rfl) (by kernel_rfl) (by kernel_rfl) (fun _ _ _ h => h) rfl (fun w hSw => by (try dsimp only at hSw); obtain ⟨q0, q1, q2⟩ := hSw; go_simp) (by assumption) ?_
    try simp only [Act.put, List.setIfInBounds_toArray, List.set_cons_zero, List.set_cons_succ]
    refine tk4 (.pointer (some ⟨w.heap.size, 3, none⟩)) (by kernel_rfl) (by kernel_rfl) (by kernel_rfl) (fun _ _ _ h => h) rfl (fun w hSw => by (try dsimp only at hSw); obtain ⟨q0, q1, q2⟩ := hSw; go_simp) (by assumption) ?_
    try simp only [Act.put, List.setIfInBounds_toArray, List.set_cons_zero, List.set_cons_succ]
    refine tk5 (.string nm) (by kernel_rfl) (by kernel_rfl) (by kernel_rfl) (fun _ _ _ h => h) rfl (fun w hSw => by (try dsimp only at hSw); obtain ⟨q0, q1, q2⟩ := hSw; go_simp) (by assumption) ?_
    try simp only [Act.put, List.setIfInBounds_toArray, List.set_cons_zero, List.set_cons_succ]
    refine tk6 (.tuple #[.pointer (some ⟨X, 0, none⟩), .bool true]) (by kernel_rfl) (by kernel_rfl) (by kernel_rfl) (fun _ _ _ h => h) rfl (fun w hSw => by (try dsimp only at hSw); obtain ⟨q0, q1, q2⟩ := hSw; go_simp) (by assumption) ?_
    try simp only [Act.put, List.setIfInBounds_toArray, List.set_cons_zero, List.set_cons_succ]
    refine tk7 (.tuple #[.pointer (some ⟨X, 0, none⟩), .bool true]) (by kernel_rfl) (by kernel_rfl) (by kernel_rfl) (fun _ _ _ h => h) rfl (fun w hSw => by (try dsimp only at hSw); obtain ⟨q0, q1, q2⟩ := hSw; go_simp) (by assumption) ?_
    try simp only [Act.put, List.setIfInBounds_toArray, List.set_cons_zero, List.set_cons_succ]
    refine tk8 (.pointer (some ⟨X, 0, none⟩)) (by kernel_rfl) (by kernel_rfl) (by kernel_rfl) (fun _ _ _ h => h) rfl (fun w hSw => by (try dsimp only at hSw); obtain ⟨q0, q1, q2⟩ := hSw; go_simp) (by assumption) ?_
    try simp only [Act.put, List.setIfInBounds_toArray, List.set_cons_zero, List.set_cons_succ]
    refine tk9 (.bool true) (by kernel_rfl) (by kernel_rfl) (by kernel_rfl) (fun _ _ _ h => h) rfl (fun w hSw => by (try dsimp only at hSw); obtain ⟨q0, q1, q2⟩ := hSw; go_simp) (by assumption) ?_
    try simp only [Act.put, List.setIfInBounds_toArray, List.set_cons_zero, List.set_cons_succ]
    refine tk10 (.pointer (some ⟨X, 0, none⟩)) (by kernel_rfl) (by kernel_rfl) (by kernel_rfl) (fun _ _ _ h => h) rfl (fun w hSw => by (try dsimp only at hSw); obtain ⟨q0, q1, q2⟩ := hSw; go_simp) (by assumption) ?_
    try simp only [Act.put, List.setIfInBounds_toArray, List.set_cons_zero, List.set_cons_succ]
    refine tk11 (.bool true) (by kernel_rfl) (by kernel_rfl) (by kernel_rfl) (fun _ _ _ h => h) rfl (fun w hSw => by (try dsimp only at hSw); obtain ⟨q0, q1, q2⟩ := hSw; go_simp) (by assumption) ?_
    try simp only [Act.put, List.setIfInBounds_toArray, List.set_cons_zero, List.set_cons_succ]
    refine wpAnyH_done (by kernel_rfl) ?_ _
    go_upto_region 7 with fail
    obtain ⟨V, hV⟩ : ∃ V, V = (W.alloc (.cells (lcWA ⟨s, n, false⟩) lcWT)).drew := ⟨_, rfl⟩
    have HV : Hid ((W.alloc (.cells #[.int .i64 s, .int .i64 n, .bool false] lcWT)).drew = V) := hV.symm
    rw [HV.out]
    have IV : Hid (AkI w V base D M N c l T own nm i y X W.heap.size x) := (show Hid _ from (by rw [hV, ← HX.out]; exact AkI.mk' HA.out HB.out.1))
    have v0 := IV.out.c0
    have HOX : Hid (inI x.s) := (show inI x.s from by rw [HX.out]; exact HO.out.1)
    clear hV z0 y0 y1 y2 y3 HV HA
    cases hb : hasB y.h x.s with
    | true =>
      have HQ : Hid (askS c l i y x = (c, l, [⟨x.s, x.n, 12, 0, 0⟩], false)) := (show askS c l i y x = _ from by unfold askS inK; rw [hb]; rfl)
      go_wp2_with (first | (go_at_call 25; rw [HW6.out]; refine (behind_any (base := w6.heap.size) (xs := []) (World.ownsRow_nil _ _ _ _) R6.out (Nat.le_refl _) (by simp)).mono ?_; rintro e w7 ⟨u7, rfl, o7, a7⟩; obtain ⟨p7, n7, c7, rfl⟩ := own_form o7) | (go_at_call 26; refine (refused_any w1 x 12).mono ?_; rintro e w5 ⟨rfl, b5⟩; obtain ⟨w6, hw6⟩ : ∃ w6, w6 = w5.alloc (.cells (rpA ⟨x.s, x.n, 12, 0, 0⟩) rpT) := ⟨_, rfl⟩; have b6 : Below w1.heap.size w1 w6 := (by rw [hw6]; exact b5.trans (((Below.refl _ w5).alloc (Nat.le_refl _) _).mono b5.size)); have I6 : Hid _ := I1.out.fresh b6; have R6 : Hid (RowAt rpC w6 (.slice (some ⟨w5.heap.size, 0, none⟩) 1 1) [⟨x.s, x.n, 12, 0, 0⟩]) := (by rw [hw6]; exact rp_one); have HW6 : Hid (w5.alloc (.cells #[.int .i64 x.s, .int .i64 x.n, .int .i64 12, .int .u64 0, .int .i64 0] rpT) = w6) := hw6.symm; clear hw6 b6 b5) | (show wpList _ _ _ (⟨_, Op.load lcWT _, _, _, _, _⟩ :: _) _ _; refine load_row_g rfl lcWT _ rfl W.heap.size rfl lcWT (lcWA x) (0, 0) _ I1.out.box Try.underlying70 rfl sizeLw ?_) | (go_at_call 23; refine (holds_any IV.out.at'.hA HOX.out).mono ?_; rintro e w1 ⟨rfl, b1⟩; have I1 : Hid _ := IV.out.fresh b1; have z1 := I1.out.c0; have z2 := I1.out.c2; clear b1))
      go_ret2
      rw [HQ.out]
      have I7 := I6.out.fresh a7.below
      exact ⟨_, _, rfl, RowAt.own rpC_len o7, ⟨⟨M, T, own, I7.at'.I, rfl⟩, I7.at'.ok, I7.at'.fit.up (Nat.le_succ _)⟩, Kept.of I7.bel, sep_new o7 fun g hg => (I6.out.at'.I.bd g hg).2⟩
    | false =>
      cases hq : waitB y.q x.s with
      | true =>
        have HQ : Hid (askS c l i y x = (c, l, [⟨x.s, x.n, 12, 0, 0⟩], false)) := (show askS c l i y x = _ from by unfold askS inK; rw [hb, hq]; rfl)
        go_wp2_with (first | (go_at_call 25; rw [HW6.out]; refine (behind_any (base := w6.heap.size) (xs := []) (World.ownsRow_nil _ _ _ _) R6.out (Nat.le_refl _) (by simp)).mono ?_; rintro e w7 ⟨u7, rfl, o7, a7⟩; obtain ⟨p7, n7, c7, rfl⟩ := own_form o7) | (go_at_call 26; refine (refused_any w1 x 12).mono ?_; rintro e w5 ⟨rfl, b5⟩; obtain ⟨w6, hw6⟩ : ∃ w6, w6 = w5.alloc (.cells (rpA ⟨x.s, x.n, 12, 0, 0⟩) rpT) := ⟨_, rfl⟩; have b6 : Below w1.heap.size w1 w6 := (by rw [hw6]; exact b5.trans (((Below.refl _ w5).alloc (Nat.le_refl _) _).mono b5.size)); have I6 : Hid _ := I1.out.fresh b6; have R6 : Hid (RowAt rpC w6 (.slice (some ⟨w5.heap.size, 0, none⟩) 1 1) [⟨x.s, x.n, 12, 0, 0⟩]) := (by rw [hw6]; exact rp_one); have HW6 : Hid (w5.alloc (.cells #[.int .i64 x.s, .int .i64 x.n, .int .i64 12, .int .u64 0, .int .i64 0] rpT) = w6) := hw6.symm; clear hw6 b6 b5) | (show wpList _ _ _ (⟨_, Op.load lcWT _, _, _, _, _⟩ :: _) _ _; refine load_row_g rfl lcWT _ rfl W.heap.size rfl lcWT (lcWA x) (0, 0) _ I1.out.box Try.underlying70 rfl sizeLw ?_) | (go_at_call 24; refine (lwaits_any I1.out.at'.hA HOX.out).mono ?_; rintro e w2 ⟨rfl, hz2⟩; obtain rfl : w1 = w2 := hz2.symm) | (go_at_call 23; refine (holds_any IV.out.at'.hA HOX.out).mono ?_; rintro e w1 ⟨rfl, b1⟩; have I1 : Hid _ := IV.out.fresh b1; have z1 := I1.out.c0; have z2 := I1.out.c2; clear b1))
        go_ret2
        rw [HQ.out]
        have I7 := I6.out.fresh a7.below
        exact ⟨_, _, rfl, RowAt.own rpC_len o7, ⟨⟨M, T, own, I7.at'.I, rfl⟩, I7.at'.ok, I7.at'.fit.up (Nat.le_succ _)⟩, Kept.of I7.bel, sep_new o7 fun g hg => (I6.out.at'.I.bd g hg).2⟩
      | false =>
        have HQB : Hid (hasB y.h x.s = false) := hb
        have HQW : Hid (waitB y.q x.s = false) := hq
        cases hyq : y.q with
        | cons z q =>
          have HQ : Hid (askS c l i y x = (c, l.set i { y with q := y.q ++ [x] }, [], true)) := (show askS c l i y x = _ from by unfold askS inK; rw [hb, hq, if_neg (by decide), if_neg (fun e => by rw [hyq] at e; simp at e)])
          have HQF : Hid (y.q = [] → fitH y.h y.wr x.rd = false) := (show y.q = [] → fitH y.h y.wr x.rd = false from fun e => by rw [hyq] at e; cases e)
          have t1 : decide (0 < y.q.length) = true := decide_eq_true (by rw [hyq]; simp)
          clear hyq
          go_wp2_with (first | (go_at_call 29; refine (join_any I1.out.at'.hA x HOX.out HQW.out).mono ?_; rintro e w5 ⟨⟨v5, rfl⟩, S5, i5, k5⟩) | (show wpList _ _ _ (⟨_, Op.load lcWT _, _, _, _, _⟩ :: _) _ _; refine load_row_g rfl lcWT _ rfl W.heap.size rfl lcWT (lcWA x) (0, 0) _ I1.out.box Try.underlying70 rfl sizeLw ?_) | (go_at_call 27; refine (anybody_any I1.out.at'.hA).mono ?_; rintro e w3 ⟨rfl, hz3⟩; obtain rfl : w1 = w3 := hz3.symm) | (go_at_call 24; refine (lwaits_any I1.out.at'.hA HOX.out).mono ?_; rintro e w2 ⟨rfl, hz2⟩; obtain rfl : w1 = w2 := hz2.symm) | (go_at_call 23; refine (holds_any IV.out.at'.hA HOX.out).mono ?_; rintro e w1 ⟨rfl, b1⟩; have I1 : Hid _ := IV.out.fresh b1; have z1 := I1.out.c0; have z2 := I1.out.c2; clear b1))
          go_ret2
          have F1 := I1.out.at'
          have F2 := F1.ok.set' F1.hi (z := { y with q := y.q ++ [x] }) rfl ((F1.ok.each y (List.mem_of_getElem? F1.hi)).join HQB.out HQW.out HQF.out)
          have hd5 : w5.heap[D]? = some (.cells (pgA M c) pgT (0, 0)) := (k5.kept D (lt_of_block F1.I.blk) (F1.I.nD nm)).trans F1.I.blk
          obtain ⟨L5, K5⟩ := F1.I.turn F1.hX (x := { y with q := y.q ++ [x] }) i5 hd5 (keptD k5) k5.old F1.I.c0 F1.I.c1
          have hfit := F1.fit.ask 5 s n nm HO.out.1 HO.out.2.1 HO.out.2.2
          have hask : askL c l 5 s n nm = askS c l i y x := F1.askL (by decide) HX.out
          rw [hask, HQ.out] at hfit
          rw [HQ.out]
          refine ⟨_, _, rfl, RowAt.nil _, ⟨⟨M, T, _, ?_, rfl⟩, F2.1, hfit⟩, (Kept.of I1.out.bel).trans K5, sep_nil _⟩
          have e2 : lookK (l.set i { y with q := y.q ++ [x] }) = updK (lookK l) nm (some { y with q := y.q ++ [x] }) := F2.2.trans (congrArg (fun a => updK (lookK l) a (some { y with q := y.q ++ [x] })) F1.hn)
          show LcL w5 base D M c (lookK (l.set i { y with q := y.q ++ [x] })) _ _
          rw [e2]
          exact L5
        | nil =>
          have t1 : decide (0 < y.q.length) = false := decide_eq_false (by rw [hyq]; simp)
          cases hf : fitH y.h y.wr x.rd with
          | false =>
            have HQ : Hid (askS c l i y x = (c, l.set i { y with q := y.q ++ [x] }, [], true)) := (show askS c l i y x = _ from by unfold askS inK; rw [hb, hq, if_neg (by decide), if_neg (fun e => by have h1 := IV.out.at'.nofit hf; exact h1 e.2)])
            have HQF : Hid (y.q = [] → fitH y.h y.wr x.rd = false) := (show y.q = [] → fitH y.h y.wr x.rd = false from fun _ => hf)
            clear hyq
            go_wp2_with (first | (go_at_call 29; refine (join_any I1.out.at'.hA x HOX.out HQW.out).mono ?_; rintro e w5 ⟨⟨v5, rfl⟩, S5, i5, k5⟩) | (show wpList _ _ _ (⟨_, Op.load lcWT _, _, _, _, _⟩ :: _) _ _; refine load_row_g rfl lcWT _ rfl W.heap.size rfl lcWT (lcWA x) (0, 0) _ I1.out.box Try.underlying70 rfl sizeLw ?_) | (go_at_call 28; refine (hasRoom_any I1.out.at'.hA x.rd).mono ?_; rintro e w4 ⟨rfl, hz4⟩; obtain rfl : w1 = w4 := hz4.symm) | (go_at_call 27; refine (anybody_any I1.out.at'.hA).mono ?_; rintro e w3 ⟨rfl, hz3⟩; obtain rfl : w1 = w3 := hz3.symm) | (go_at_call 24; refine (lwaits_any I1.out.at'.hA HOX.out).mono ?_; rintro e w2 ⟨rfl, hz2⟩; obtain rfl : w1 = w2 := hz2.symm) | (go_at_call 23; refine (holds_any IV.out.at'.hA HOX.out).mono ?_; rintro e w1 ⟨rfl, b1⟩; have I1 : Hid _ := IV.out.fresh b1; have z1 := I1.out.c0; have z2 := I1.out.c2; clear b1))
            go_ret2
            have F1 := I1.out.at'
            have F2 := F1.ok.set' F1.hi (z := { y with q := y.q ++ [x] }) rfl ((F1.ok.each y (List.mem_of_getElem? F1.hi)).join HQB.out HQW.out HQF.out)
            have hd5 : w5.heap[D]? = some (.cells (pgA M c) pgT (0, 0)) := (k5.kept D (lt_of_block F1.I.blk) (F1.I.nD nm)).trans F1.I.blk
            obtain ⟨L5, K5⟩ := F1.I.turn F1.hX (x := { y with q := y.q ++ [x] }) i5 hd5 (keptD k5) k5.old F1.I.c0 F1.I.c1
            have hfit := F1.fit.ask 5 s n nm HO.out.1 HO.out.2.1 HO.out.2.2
            have hask : askL c l 5 s n nm = askS c l i y x := F1.askL (by decide) HX.out
            rw [hask, HQ.out] at hfit
            rw [HQ.out]
            refine ⟨_, _, rfl, RowAt.nil _, ⟨⟨M, T, _, ?_, rfl⟩, F2.1, hfit⟩, (Kept.of I1.out.bel).trans K5, sep_nil _⟩
            have e2 : lookK (l.set i { y with q := y.q ++ [x] }) = updK (lookK l) nm (some { y with q := y.q ++ [x] }) := F2.2.trans (congrArg (fun a => updK (lookK l) a (some { y with q := y.q ++ [x] })) F1.hn)
            show LcL w5 base D M c (lookK (l.set i { y with q := y.q ++ [x] })) _ _
            rw [e2]
            exact L5
          | true =>
            have hfi := IV.out.at'.fits hf
            obtain ⟨c9, h9, b9, r, hg⟩ : ∃ c9 h9 b9 r, giveH c y.h y.wr x = (c9, h9, b9, r) := ⟨_, _, _, _, rfl⟩
            have HQ : Hid (askS c l i y x = (c9, l.set i { y with h := h9, wr := b9 }, [r], false)) := (show askS c l i y x = _ from by unfold askS inK; rw [hb, hq, if_neg (by decide), if_pos ⟨by rw [hyq]; rfl, hfi.1, hfi.2⟩, hg])
            have HQG : Hid (giveH c y.h y.wr x = (c9, h9, b9, r) ∧ y.q = []) := (show Hid _ from (⟨hg, hyq⟩ : _ ∧ _))
            clear hyq hg hfi
            go_wp2_with (first | (go_at_call 25; rw [HW7.out]; refine (behind_any (base := w7.heap.size) (xs := []) (World.ownsRow_nil _ _ _ _) R7.out (Nat.le_refl _) (by simp)).mono ?_; rintro e w8 ⟨u8, rfl, o8, a8⟩; obtain ⟨p8, n8, c8, rfl⟩ := own_form o8) | (show wpList _ _ _ (⟨_, Op.load rpT _, _, _, _, _⟩ :: _) _ _; rw [HW6.out]; refine load_row_g rfl rpT _ rfl w5.heap.size rfl rpT (rpA r) (0, 0) _ H6.out.2.1 Try.underlying52 rfl sizeRp ?_; obtain ⟨w7, hw7⟩ : ∃ w7, w7 = w6.alloc (.cells (rpA r) rpT) := ⟨_, rfl⟩; have b7 : Below w6.heap.size w6 w7 := (by rw [hw7]; exact (Below.refl _ w6).alloc (Nat.le_refl _) _); have R7 : Hid (RowAt rpC w7 (.slice (some ⟨w6.heap.size, 0, none⟩) 1 1) [r]) := (by rw [hw7]; exact rp_one); have B7 : Hid (Below w6.heap.size w6 w7) := b7; have HW7 : Hid (w6.alloc (.cells #[.int .i64 r.session, .int .i64 r.seq, .int .i64 r.err, .int .u64 r.token, .int .i64 r.n] rpT) = w7) := hw7.symm; clear hw7 b7) | (go_at_call 30; refine (grant_any I1.out.at'.hA I1.out.at'.I.blk (I1.out.at'.I.nD nm) I1.out.at'.I.c0 I1.out.at'.I.c1 x HOX.out HQB.out (I1.out.at'.hl)).mono ?_; rw [HQG.out.1]; rintro e w5 ⟨rfl, G5⟩; obtain ⟨w6, hw6⟩ : ∃ w6, w6 = w5.alloc (.cells (rpA r) rpT) := ⟨_, rfl⟩; have b6 : Below w5.heap.size w5 w6 := (by rw [hw6]; exact (Below.refl _ w5).alloc (Nat.le_refl _) _); have n6 : w6.heap[w5.heap.size]? = some (.cells (rpA r) rpT (0, 0)) := (by rw [hw6]; exact heap_alloc_new w5 _); have HW6 : Hid (w5.alloc (.cells #[.int .i64 r.session, .int .i64 r.seq, .int .i64 r.err, .int .u64 r.token, .int .i64 r.n] rpT) = w6) := hw6.symm; have H6 : Hid (Below w5.heap.size w5 w6 ∧ w6.heap[w5.heap.size]? = some (.cells (rpA r) rpT (0, 0)) ∧ GraQ w1 X D (own nm) y.q M (c9, h9, b9, r) w5) := (show Hid _ from (⟨b6, n6, G5⟩ : _ ∧ _ ∧ _)); clear hw6 b6 n6 G5) | (show wpList _ _ _ (⟨_, Op.load lcWT _, _, _, _, _⟩ :: _) _ _; refine load_row_g rfl lcWT _ rfl W.heap.size rfl lcWT (lcWA x) (0, 0) _ I1.out.box Try.underlying70 rfl sizeLw ?_) | (go_at_call 28; refine (hasRoom_any I1.out.at'.hA x.rd).mono ?_; rintro e w4 ⟨rfl, hz4⟩; obtain rfl : w1 = w4 := hz4.symm) | (go_at_call 27; refine (anybody_any I1.out.at'.hA).mono ?_; rintro e w3 ⟨rfl, hz3⟩; obtain rfl : w1 = w3 := hz3.symm) | (go_at_call 24; refine (lwaits_any I1.out.at'.hA HOX.out).mono ?_; rintro e w2 ⟨rfl, hz2⟩; obtain rfl : w1 = w2 := hz2.symm) | (go_at_call 23; refine (holds_any IV.out.at'.hA HOX.out).mono ?_; rintro e w1 ⟨rfl, b1⟩; have I1 : Hid _ := IV.out.fresh b1; have z1 := I1.out.c0; have z2 := I1.out.c2; clear b1))
            go_ret2
            have F1 := I1.out.at'
            have F3 := (F1.ok.each y (List.mem_of_getElem? F1.hi)).give (c := c) (x := x) HQG.out.2 HQB.out
            rw [HQG.out.1] at F3
            have F2 := F1.ok.set' F1.hi (z := { y with h := h9, wr := b9 }) rfl F3
            have hgc := giveH_c (h := y.h) (b := y.wr) (x := x) F1.I.c0 F1.I.c1
            rw [HQG.out.1] at hgc
            have G5 := H6.out.2.2
            obtain ⟨L5, K5⟩ := F1.I.turn F1.hX (x := { y with h := h9, wr := b9 }) (S1 := own nm) G5.at' G5.d G5.k (fun g hg => Or.inl hg) hgc.1 hgc.2
            have hfit := F1.fit.ask 5 s n nm HO.out.1 HO.out.2.1 HO.out.2.2
            have hask : askL c l 5 s n nm = askS c l i y x := F1.askL (by decide) HX.out
            rw [hask, HQ.out] at hfit
            rw [HQ.out]
            have b8 : Below w5.heap.size w5 w8 := H6.out.1.trans ((B7.out.trans (a8.below.mono B7.out.size)).mono H6.out.1.size)
            refine ⟨_, _, rfl, RowAt.own rpC_len o8, ⟨⟨M, T, _, ?_, rfl⟩, F2.1, hfit⟩, (Kept.of I1.out.bel).trans (K5.trans (Kept.of b8)), sep_new o8 fun g hg => Nat.lt_of_lt_of_le (L5.bd g hg).2 (Nat.le_trans H6.out.1.size B7.out.size)⟩
            have e2 : lookK (l.set i { y with h := h9, wr := b9 }) = updK (lookK l) nm (some { y with h := h9, wr := b9 }) := F2.2.trans (congrArg (fun a => updK (lookK l) a (some { y with h := h9, wr := b9 })) F1.hn)
            show LcL w8 base D M c9 (lookK (l.set i { y with h := h9, wr := b9 })) _ _
            rw [e2]
            exact L5.fresh b8
  · skip
    change Calls _ _ _ _ (AnsP w base D (setL D M own) (N + 1) (askS c l i y ⟨s, n, true⟩))
    obtain ⟨x, hx⟩ : ∃ x : Wq, x = ⟨s, n, true⟩ := ⟨_, rfl⟩
    rw [← hx]
    have HX : Hid (x = ⟨s, n, true⟩) := hx
    clear hx
    go_enter Try.func10, Try.ntmps10
    go_upto_region 1 with fail
    rw [HW.out]
    go_upto_region 3 with fail
    refine wp_region_held_drew (S := (fun w' : World => w'.cell? ⟨D, 0, none⟩ = some (.map (some M)) ∧ w'.cell? ⟨w.heap.size, 3, none⟩ = some (.string nm) ∧ (Instr.lookup 58 (.map (some M)) (.string nm) true).run Try.prog w' = .ok (.tuple #[.pointer (some ⟨X, 0, none⟩), .bool true]) w')) (by kernel_rfl) ?_ (fun hHeld0 => ?_)
    · exact HS0.out
    refine tk0 (.pointer (some ⟨D, 0, none⟩)) (by kernel_rfl) (by kernel_rfl) (by kernel_rfl) (fun _ _ _ h => h) rfl (fun w hSw => by (try dsimp only at hSw); obtain ⟨q0, q1, q2⟩ := hSw; go_simp) (by assumption) ?_
    try simp only [Act.put, List.setIfInBounds_toArray, List.set_cons_zero, List.set_cons_succ]
    refine tk1 (.pointer (some ⟨D, 0, none⟩)) (by kernel_rfl) (by kernel_rfl) (by kernel_rfl) (fun _ _ _ h => h) rfl (fun w hSw => by (try dsimp only at hSw); obtain ⟨q0, q1, q2⟩ := hSw; go_simp) (by assumption) ?_
    try simp only [Act.put, List.setIfInBounds_toArray, List.set_cons_zero, List.set_cons_succ]
    refine tk2 (.pointer (some ⟨D, 0, none⟩)) (by kernel_rfl) (by kernel_rfl) (by kernel_rfl) (fun _ _ _ h => h) rfl (fun w hSw => by (try dsimp only at hSw); obtain ⟨q0, q1, q2⟩ := hSw; go_simp) (by assumption) ?_
    try simp only [Act.put, List.setIfInBounds_toArray, List.set_cons_zero, List.set_cons_succ]
    refine tk3 (.map (some M)) (by kernel_rfl) (by kernel_rfl) (by kernel_rfl) (fun _ _ _ h => h) rfl (fun w hSw => by (try dsimp only at hSw); obtain ⟨q0, q1, q2⟩ := hSw; go_simp) (by assumption) ?_
    try simp only [Act.put, List.setIfInBounds_toArray, List.set_cons_zero, List.set_cons_succ]
    refine tk4 (.pointer (some ⟨w.heap.size, 3, none⟩)) (by kernel_rfl) (by kernel_rfl) (by kernel_rfl) (fun _ _ _ h => h) rfl (fun w hSw => by (try dsimp only at hSw); obtain ⟨q0, q1, q2⟩ := hSw; go_simp) (by assumption) ?_
    try simp only [Act.put, List.setIfInBounds_toArray, List.set_cons_zero, List.set_cons_succ]
    refine tk5 (.string nm) (by kernel_rfl) (by kernel_rfl) (by kernel_rfl) (fun _ _ _ h => h) rfl (fun w hSw => by (try dsimp only at hSw); obtain ⟨q0, q1, q2⟩ := hSw; go_simp) (by assumption) ?_
    try simp only [Act.put, List.setIfInBounds_toArray, List.set_cons_zero, List.set_cons_succ]
    refine tk6 (.tuple #[.pointer (some ⟨X, 0, none⟩), .bool true]) (by kernel_rfl) (by kernel_rfl) (by kernel_rfl) (fun _ _ _ h => h) rfl (fun w hSw => by (try dsimp only at hSw); obtain ⟨q0, q1, q2⟩ := hSw; go_simp) (by assumption) ?_
    try simp only [Act.put, List.setIfInBounds_toArray, List.set_cons_zero, List.set_cons_succ]
    refine tk7 (.tuple #[.pointer (some ⟨X, 0, none⟩), .bool true]) (by kernel_rfl) (by kernel_rfl) (by kernel_rfl) (fun _ _ _ h => h) rfl (fun w hSw => by (try dsimp only at hSw); obtain ⟨q0, q1, q2⟩ := hSw; go_simp) (by assumption) ?_
    try simp only [Act.put, List.setIfInBounds_toArray, List.set_cons_zero, List.set_cons_succ]
    refine tk8 (.pointer (some ⟨X, 0, none⟩)) (by kernel_rfl) (by kernel_rfl) (by kernel_rfl) (fun _ _ _ h => h) rfl (fun w hSw => by (try dsimp only at hSw); obtain ⟨q0, q1, q2⟩ := hSw; go_simp) (by assumption) ?_
    try simp only [Act.put, List.setIfInBounds_toArray, List.set_cons_zero, List.set_cons_succ]
    refine tk9 (.bool true) (by kernel_rfl) (by kernel_rfl) (by kernel_rfl) (fun _ _ _ h => h) rfl (fun w hSw => by (try dsimp only at hSw); obtain ⟨q0, q1, q2⟩ := hSw; go_simp) (by assumption) ?_
    try simp only [Act.put, List.setIfInBounds_toArray, List.set_cons_zero, List.set_cons_succ]
    refine tk10 (.pointer (some ⟨X, 0, none⟩)) (by kernel_rfl) (by kernel_rfl) (by kernel_rfl) (fun _ _ _ h => h) rfl (fun w hSw => by (try dsimp only at hSw); obtain ⟨q0, q1, q2⟩ := hSw; go_simp) (by assumption) ?_
    try simp only [Act.put, List.setIfInBounds_toArray, List.set_cons_zero, List.set_cons_succ]
    refine tk11 (.bool true) (by kernel_rfl) (by kernel_rfl) (by kernel_rfl) (fun _ _ _ h => h) rfl (fun w hSw => by (try dsimp only at hSw); obtain ⟨q0, q1, q2⟩ := hSw; go_simp) (by assumption) ?_
    try simp only [Act.put, List.setIfInBounds_toArray, List.set_cons_zero, List.set_cons_succ]
    refine wpAnyH_done (by kernel_rfl) ?_ _
    go_upto_region 7 with fail
    obtain ⟨V, hV⟩ : ∃ V, V = (W.alloc (.cells (lcWA ⟨s, n, true⟩) lcWT)).drew := ⟨_, rfl⟩
    have HV : Hid ((W.alloc (.cells #[.int .i64 s, .int .i64 n, .bool true] lcWT)).drew = V) := hV.symm
    rw [HV.out]
    have IV : Hid (AkI w V base D M N c l T own nm i y X W.heap.size x) := (show Hid _ from (by rw [hV, ← HX.out]; exact AkI.mk' HA.out HB.out.1))
    have v0 := IV.out.c0
    have HOX : Hid (inI x.s) := (show inI x.s from by rw [HX.out]; exact HO.out.1)
    clear hV z0 y0 y1 y2 y3 HV HA
    cases hb : hasB y.h x.s with
    | true =>
      have HQ : Hid (askS c l i y x = (c, l, [⟨x.s, x.n, 12, 0, 0⟩], false)) := (show askS c l i y x = _ from by unfold askS inK; rw [hb]; rfl)
      go_wp2_with (first | (go_at_call 25; rw [HW6.out]; refine (behind_any (base := w6.heap.size) (xs := []) (World.ownsRow_nil _ _ _ _) R6.out (Nat.le_refl _) (by simp)).mono ?_; rintro e w7 ⟨u7, rfl, o7, a7⟩; obtain ⟨p7, n7, c7, rfl⟩ := own_form o7) | (go_at_call 26; refine (refused_any w1 x 12).mono ?_; rintro e w5 ⟨rfl, b5⟩; obtain ⟨w6, hw6⟩ : ∃ w6, w6 = w5.alloc (.cells (rpA ⟨x.s, x.n, 12, 0, 0⟩) rpT) := ⟨_, rfl⟩; have b6 : Below w1.heap.size w1 w6 := (by rw [hw6]; exact b5.trans (((Below.refl _ w5).alloc (Nat.le_refl _) _).mono b5.size)); have I6 : Hid _ := I1.out.fresh b6; have R6 : Hid (RowAt rpC w6 (.slice (some ⟨w5.heap.size, 0, none⟩) 1 1) [⟨x.s, x.n, 12, 0, 0⟩]) := (by rw [hw6]; exact rp_one); have HW6 : Hid (w5.alloc (.cells #[.int .i64 x.s, .int .i64 x.n, .int .i64 12, .int .u64 0, .int .i64 0] rpT) = w6) := hw6.symm; clear hw6 b6 b5) | (show wpList _ _ _ (⟨_, Op.load lcWT _, _, _, _, _⟩ :: _) _ _; refine load_row_g rfl lcWT _ rfl W.heap.size rfl lcWT (lcWA x) (0, 0) _ I1.out.box Try.underlying70 rfl sizeLw ?_) | (go_at_call 23; refine (holds_any IV.out.at'.hA HOX.out).mono ?_; rintro e w1 ⟨rfl, b1⟩; have I1 : Hid _ := IV.out.fresh b1; have z1 := I1.out.c0; have z2 := I1.out.c2; clear b1))
      go_ret2
      rw [HQ.out]
      have I7 := I6.out.fresh a7.below
      exact ⟨_, _, rfl, RowAt.own rpC_len o7, ⟨⟨M, T, own, I7.at'.I, rfl⟩, I7.at'.ok, I7.at'.fit.up (Nat.le_succ _)⟩, Kept.of I7.bel, sep_new o7 fun g hg => (I6.out.at'.I.bd g hg).2⟩
    | false =>
      cases hq : waitB y.q x.s with
      | true =>
        have HQ : Hid (askS c l i y x = (c, l, [⟨x.s, x.n, 12, 0, 0⟩], false)) := (show askS c l i y x = _ from by unfold askS inK; rw [hb, hq]; rfl)
        go_wp2_with (first | (go_at_call 25; rw [HW6.out]; refine (behind_any (base := w6.heap.size) (xs := []) (World.ownsRow_nil _ _ _ _) R6.out (Nat.le_refl _) (by simp)).mono ?_; rintro e w7 ⟨u7, rfl, o7, a7⟩; obtain ⟨p7, n7, c7, rfl⟩ := own_form o7) | (go_at_call 26; refine (refused_any w1 x 12).mono ?_; rintro e w5 ⟨rfl, b5⟩; obtain ⟨w6, hw6⟩ : ∃ w6, w6 = w5.alloc (.cells (rpA ⟨x.s, x.n, 12, 0, 0⟩) rpT) := ⟨_, rfl⟩; have b6 : Below w1.heap.size w1 w6 := (by rw [hw6]; exact b5.trans (((Below.refl _ w5).alloc (Nat.le_refl _) _).mono b5.size)); have I6 : Hid _ := I1.out.fresh b6; have R6 : Hid (RowAt rpC w6 (.slice (some ⟨w5.heap.size, 0, none⟩) 1 1) [⟨x.s, x.n, 12, 0, 0⟩]) := (by rw [hw6]; exact rp_one); have HW6 : Hid (w5.alloc (.cells #[.int .i64 x.s, .int .i64 x.n, .int .i64 12, .int .u64 0, .int .i64 0] rpT) = w6) := hw6.symm; clear hw6 b6 b5) | (show wpList _ _ _ (⟨_, Op.load lcWT _, _, _, _, _⟩ :: _) _ _; refine load_row_g rfl lcWT _ rfl W.heap.size rfl lcWT (lcWA x) (0, 0) _ I1.out.box Try.underlying70 rfl sizeLw ?_) | (go_at_call 24; refine (lwaits_any I1.out.at'.hA HOX.out).mono ?_; rintro e w2 ⟨rfl, hz2⟩; obtain rfl : w1 = w2 := hz2.symm) | (go_at_call 23; refine (holds_any IV.out.at'.hA HOX.out).mono ?_; rintro e w1 ⟨rfl, b1⟩; have I1 : Hid _ := IV.out.fresh b1; have z1 := I1.out.c0; have z2 := I1.out.c2; clear b1))
        go_ret2
        rw [HQ.out]
        have I7 := I6.out.fresh a7.below
        exact ⟨_, _, rfl, RowAt.own rpC_len o7, ⟨⟨M, T, own, I7.at'.I, rfl⟩, I7.at'.ok, I7.at'.fit.up (Nat.le_succ _)⟩, Kept.of I7.bel, sep_new o7 fun g hg => (I6.out.at'.I.bd g hg).2⟩
      | false =>
        have HQB : Hid (hasB y.h x.s = false) := hb
        have HQW : Hid (waitB y.q x.s = false) := hq
        cases hyq : y.q with
        | cons z q =>
          have HQ : Hid (askS c l i y x = (c, l.set i { y with q := y.q ++ [x] }, [], true)) := (show askS c l i y x = _ from by unfold askS inK; rw [hb, hq, if_neg (by decide), if_neg (fun e => by rw [hyq] at e; simp at e)])
          have HQF : Hid (y.q = [] → fitH y.h y.wr x.rd = false) := (show y.q = [] → fitH y.h y.wr x.rd = false from fun e => by rw [hyq] at e; cases e)
          have t1 : decide (0 < y.q.length) = true := decide_eq_true (by rw [hyq]; simp)
          clear hyq
          go_wp2_with (first | (go_at_call 29; refine (join_any I1.out.at'.hA x HOX.out HQW.out).mono ?_; rintro e w5 ⟨⟨v5, rfl⟩, S5, i5, k5⟩) | (show wpList _ _ _ (⟨_, Op.load lcWT _, _, _, _, _⟩ :: _) _ _; refine load_row_g rfl lcWT _ rfl W.heap.size rfl lcWT (lcWA x) (0, 0) _ I1.out.box Try.underlying70 rfl sizeLw ?_) | (go_at_call 27; refine (anybody_any I1.out.at'.hA).mono ?_; rintro e w3 ⟨rfl, hz3⟩; obtain rfl : w1 = w3 := hz3.symm) | (go_at_call 24; refine (lwaits_any I1.out.at'.hA HOX.out).mono ?_; rintro e w2 ⟨rfl, hz2⟩; obtain rfl : w1 = w2 := hz2.symm) | (go_at_call 23; refine (holds_any IV.out.at'.hA HOX.out).mono ?_; rintro e w1 ⟨rfl, b1⟩; have I1 : Hid _ := IV.out.fresh b1; have z1 := I1.out.c0; have z2 := I1.out.c2; clear b1))
          go_ret2
          have F1 := I1.out.at'
          have F2 := F1.ok.set' F1.hi (z := { y with q := y.q ++ [x] }) rfl ((F1.ok.each y (List.mem_of_getElem? F1.hi)).join HQB.out HQW.out HQF.out)
          have hd5 : w5.heap[D]? = some (.cells (pgA M c) pgT (0, 0)) := (k5.kept D (lt_of_block F1.I.blk) (F1.I.nD nm)).trans F1.I.blk
          obtain ⟨L5, K5⟩ := F1.I.turn F1.hX (x := { y with q := y.q ++ [x] }) i5 hd5 (keptD k5) k5.old F1.I.c0 F1.I.c1
          have hfit := F1.fit.ask 7 s n nm HO.out.1 HO.out.2.1 HO.out.2.2
          have hask : askL c l 7 s n nm = askS c l i y x := F1.askL (by decide) HX.out
          rw [hask, HQ.out] at hfit
          rw [HQ.out]
          refine ⟨_, _, rfl, RowAt.nil _, ⟨⟨M, T, _, ?_, rfl⟩, F2.1, hfit⟩, (Kept.of I1.out.bel).trans K5, sep_nil _⟩
          have e2 : lookK (l.set i { y with q := y.q ++ [x] }) = updK (lookK l) nm (some { y with q := y.q ++ [x] }) := F2.2.trans (congrArg (fun a => updK (lookK l) a (some { y with q := y.q ++ [x] })) F1.hn)
          show LcL w5 base D M c (lookK (l.set i { y with q := y.q ++ [x] })) _ _
          rw [e2]
          exact L5
        | nil =>
          have t1 : decide (0 < y.q.length) = false := decide_eq_false (by rw [hyq]; simp)
          cases hf : fitH y.h y.wr x.rd with
          | false =>
            have HQ : Hid (askS c l i y x = (c, l.set i { y with q := y.q ++ [x] }, [], true)) := (show askS c l i y x = _ from by unfold askS inK; rw [hb, hq, if_neg (by decide), if_neg (fun e => by have h1 := IV.out.at'.nofit hf; exact h1 e.2)])
            have HQF : Hid (y.q = [] → fitH y.h y.wr x.rd = false) := (show y.q = [] → fitH y.h y.wr x.rd = false from fun _ => hf)
            clear hyq
            go_wp2_with (first | (go_at_call 29; refine (join_any I1.out.at'.hA x HOX.out HQW.out).mono ?_; rintro e w5 ⟨⟨v5, rfl⟩, S5, i5, k5⟩) | (show wpList _ _ _ (⟨_, Op.load lcWT _, _, _, _, _⟩ :: _) _ _; refine load_row_g rfl lcWT _ rfl W.heap.size rfl lcWT (lcWA x) (0, 0) _ I1.out.box Try.underlying70 rfl sizeLw ?_) | (go_at_call 28; refine (hasRoom_any I1.out.at'.hA x.rd).mono ?_; rintro e w4 ⟨rfl, hz4⟩; obtain rfl : w1 = w4 := hz4.symm) | (go_at_call 27; refine (anybody_any I1.out.at'.hA).mono ?_; rintro e w3 ⟨rfl, hz3⟩; obtain rfl : w1 = w3 := hz3.symm) | (go_at_call 24; refine (lwaits_any I1.out.at'.hA HOX.out).mono ?_; rintro e w2 ⟨rfl, hz2⟩; obtain rfl : w1 = w2 := hz2.symm) | (go_at_call 23; refine (holds_any IV.out.at'.hA HOX.out).mono ?_; rintro e w1 ⟨rfl, b1⟩; have I1 : Hid _ := IV.out.fresh b1; have z1 := I1.out.c0; have z2 := I1.out.c2; clear b1))
            go_ret2
            have F1 := I1.out.at'
            have F2 := F1.ok.set' F1.hi (z := { y with q := y.q ++ [x] }) rfl ((F1.ok.each y (List.mem_of_getElem? F1.hi)).join HQB.out HQW.out HQF.out)
            have hd5 : w5.heap[D]? = some (.cells (pgA M c) pgT (0, 0)) := (k5.kept D (lt_of_block F1.I.blk) (F1.I.nD nm)).trans F1.I.blk
            obtain ⟨L5, K5⟩ := F1.I.turn F1.hX (x := { y with q := y.q ++ [x] }) i5 hd5 (keptD k5) k5.old F1.I.c0 F1.I.c1
            have hfit := F1.fit.ask 7 s n nm HO.out.1 HO.out.2.1 HO.out.2.2
            have hask : askL c l 7 s n nm = askS c l i y x := F1.askL (by decide) HX.out
            rw [hask, HQ.out] at hfit
            rw [HQ.out]
            refine ⟨_, _, rfl, RowAt.nil _, ⟨⟨M, T, _, ?_, rfl⟩, F2.1, hfit⟩, (Kept.of I1.out.bel).trans K5, sep_nil _⟩
            have e2 : lookK (l.set i { y with q := y.q ++ [x] }) = updK (lookK l) nm (some { y with q := y.q ++ [x] }) := F2.2.trans (congrArg (fun a => updK (lookK l) a (some { y with q := y.q ++ [x] })) F1.hn)
            show LcL w5 base D M c (lookK (l.set i { y with q := y.q ++ [x] })) _ _
            rw [e2]
            exact L5
          | true =>
            have hfi := IV.out.at'.fits hf
            obtain ⟨c9, h9, b9, r, hg⟩ : ∃ c9 h9 b9 r, giveH c y.h y.wr x = (c9, h9, b9, r) := ⟨_, _, _, _, rfl⟩
            have HQ : Hid (askS c l i y x = (c9, l.set i { y with h := h9, wr := b9 }, [r], false)) := (show askS c l i y x = _ from by unfold askS inK; rw [hb, hq, if_neg (by decide), if_pos ⟨by rw [hyq]; rfl, hfi.1, hfi.2⟩, hg])
            have HQG : Hid (giveH c y.h y.wr x = (c9, h9, b9, r) ∧ y.q = []) := (show Hid _ from (⟨hg, hyq⟩ : _ ∧ _))
            clear hyq hg hfi
            go_wp2_with (first | (go_at_call 25; rw [HW7.out]; refine (behind_any (base := w7.heap.size) (xs := []) (World.ownsRow_nil _ _ _ _) R7.out (Nat.le_refl _) (by simp)).mono ?_; rintro e w8 ⟨u8, rfl, o8, a8⟩; obtain ⟨p8, n8, c8, rfl⟩ := own_form o8) | (show wpList _ _ _ (⟨_, Op.load rpT _, _, _, _, _⟩ :: _) _ _; rw [HW6.out]; refine load_row_g rfl rpT _ rfl w5.heap.size rfl rpT (rpA r) (0, 0) _ H6.out.2.1 Try.underlying52 rfl sizeRp ?_; obtain ⟨w7, hw7⟩ : ∃ w7, w7 = w6.alloc (.cells (rpA r) rpT) := ⟨_, rfl⟩; have b7 : Below w6.heap.size w6 w7 := (by rw [hw7]; exact (Below.refl _ w6).alloc (Nat.le_refl _) _); have R7 : Hid (RowAt rpC w7 (.slice (some ⟨w6.heap.size, 0, none⟩) 1 1) [r]) := (by rw [hw7]; exact rp_one); have B7 : Hid (Below w6.heap.size w6 w7) := b7; have HW7 : Hid (w6.alloc (.cells #[.int .i64 r.session, .int .i64 r.seq, .int .i64 r.err, .int .u64 r.token, .int .i64 r.n] rpT) = w7) := hw7.symm; clear hw7 b7) | (go_at_call 30; refine (grant_any I1.out.at'.hA I1.out.at'.I.blk (I1.out.at'.I.nD nm) I1.out.at'.I.c0 I1.out.at'.I.c1 x HOX.out HQB.out (I1.out.at'.hl)).mono ?_; rw [HQG.out.1]; rintro e w5 ⟨rfl, G5⟩; obtain ⟨w6, hw6⟩ : ∃ w6, w6 = w5.alloc (.cells (rpA r) rpT) := ⟨_, rfl⟩; have b6 : Below w5.heap.size w5 w6 := (by rw [hw6]; exact (Below.refl _ w5).alloc (Nat.le_refl _) _); have n6 : w6.heap[w5.heap.size]? = some (.cells (rpA r) rpT (0, 0)) := (by rw [hw6]; exact heap_alloc_new w5 _); have HW6 : Hid (w5.alloc (.cells #[.int .i64 r.session, .int .i64 r.seq, .int .i64 r.err, .int .u64 r.token, .int .i64 r.n] rpT) = w6) := hw6.symm; have H6 : Hid (Below w5.heap.size w5 w6 ∧ w6.heap[w5.heap.size]? = some (.cells (rpA r) rpT (0, 0)) ∧ GraQ w1 X D (own nm) y.q M (c9, h9, b9, r) w5) := (show Hid _ from (⟨b6, n6, G5⟩ : _ ∧ _ ∧ _)); clear hw6 b6 n6 G5) | (show wpList _ _ _ (⟨_, Op.load lcWT _, _, _, _, _⟩ :: _) _ _; refine load_row_g rfl lcWT _ rfl W.heap.size rfl lcWT (lcWA x) (0, 0) _ I1.out.box Try.underlying70 rfl sizeLw ?_) | (go_at_call 28; refine (hasRoom_any I1.out.at'.hA x.rd).mono ?_; rintro e w4 ⟨rfl, hz4⟩; obtain rfl : w1 = w4 := hz4.symm) | (go_at_call 27; refine (anybody_any I1.out.at'.hA).mono ?_; rintro e w3 ⟨rfl, hz3⟩; obtain rfl : w1 = w3 := hz3.symm) | (go_at_call 24; refine (lwaits_any I1.out.at'.hA HOX.out).mono ?_; rintro e w2 ⟨rfl, hz2⟩; obtain rfl : w1 = w2 := hz2.symm) | (go_at_call 23; refine (holds_any IV.out.at'.hA HOX.out).mono ?_; rintro e w1 ⟨rfl, b1⟩; have I1 : Hid _ := IV.out.fresh b1; have z1 := I1.out.c0; have z2 := I1.out.c2; clear b1))
            go_ret2
            have F1 := I1.out.at'
            have F3 := (F1.ok.each y (List.mem_of_getElem? F1.hi)).give (c := c) (x := x) HQG.out.2 HQB.out
            rw [HQG.out.1] at F3
            have F2 := F1.ok.set' F1.hi (z := { y with h := h9, wr := b9 }) rfl F3
            have hgc := giveH_c (h := y.h) (b := y.wr) (x := x) F1.I.c0 F1.I.c1
            rw [HQG.out.1] at hgc
            have G5 := H6.out.2.2
            obtain ⟨L5, K5⟩ := F1.I.turn F1.hX (x := { y with h := h9, wr := b9 }) (S1 := own nm) G5.at' G5.d G5.k (fun g hg => Or.inl hg) hgc.1 hgc.2
            have hfit := F1.fit.ask 7 s n nm HO.out.1 HO.out.2.1 HO.out.2.2
            have hask : askL c l 7 s n nm = askS c l i y x := F1.askL (by decide) HX.out
            rw [hask, HQ.out] at hfit
            rw [HQ.out]
            have b8 : Below w5.heap.size w5 w8 := H6.out.1.trans ((B7.out.trans (a8.below.mono B7.out.size)).mono H6.out.1.size)
            refine ⟨_, _, rfl, RowAt.own rpC_len o8, ⟨⟨M, T, _, ?_, rfl⟩, F2.1, hfit⟩, (Kept.of I1.out.bel).trans (K5.trans (Kept.of b8)), sep_new o8 fun g hg => Nat.lt_of_lt_of_le (L5.bd g hg).2 (Nat.le_trans H6.out.1.size B7.out.size)⟩
            have e2 : lookK (l.set i { y with h := h9, wr := b9 }) = updK (lookK l) nm (some { y with h := h9, wr := b9 }) := F2.2.trans (congrArg (fun a => updK (lookK l) a (some { y with h := h9, wr := b9 })) F1.hn)
            show LcL w8 base D M c9 (lookK (l.set i { y with h := h9, wr := b9 })) _ _
            rw [e2]
            exact L5.fresh b8
end Go.Proofs.Ytmfadmhbkgemmaa
