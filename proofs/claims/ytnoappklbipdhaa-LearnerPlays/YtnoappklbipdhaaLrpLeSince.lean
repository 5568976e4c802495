/-
  Package learner: the known entries from a slot on. The condition: at most 2^29 entries.
-/
import Derived.Test.YtnoappklbipdhaaLrpLeApply
import Derived.Test.YtnoappklbipdhaaLrpGRound
import Derived.Test.YtnoappklbipdhaaLrpPack5
namespace Go.Proofs.Ytnoappklbipdhaa
open Go.RowKit Go.Shelf

attribute [local go_sem] Oper.semAt_some

structure SiPost (w : World) (S : Nat → Prop) (xs : List En) (e : Ending) (w' : World) : Prop where
  ex : ∃ u, e = .returned u ∧ Below w.heap.size w w' ∧ AnsE w w' S u xs
/-- While entries are collected: N at most. -/
structure SiI (w : World) (X : Nat) (most : Int) (N : Nat) (pre : List En) (W : World) (SI : Nat → Prop) (u : Value) : Prop where
  tld : Tld W (w.heap.size + 1 + 1) (w.heap.size + 3) u pre
  ptr : W.heap[w.heap.size]? = some (.cells #[.pointer (some ⟨X, 0, none⟩)] 23 (0, 0))
  mst : W.heap[w.heap.size + 1]? = some (.cells #[.int .i64 most] 3 (0, 0))
  blk : W.heap[X]? = w.heap[X]?
  len : pre.length ≤ N
  set : ∀ g, SI g ↔ g = w.heap.size + 1 + 1 ∨ g = w.heap.size ∨ g = w.heap.size + 1 ∨ g = X ∨ u.ownBlock = some g
theorem SiI.lt {w : World} {X : Nat} {most : Int} {N : Nat} {pre : List En} {W : World} {SI : Nat → Prop} {u : Value} (hX : X < w.heap.size) (h : SiI w X most N pre W SI u) : ∀ g, SI g → g < W.heap.size := fun g hg => by
  have := h.tld.sz
  rcases (h.set g).1 hg with rfl | rfl | rfl | rfl | e
  · omega
  · omega
  · omega
  · omega
  · exact (h.tld.own.lt g e).2
theorem SiI.keep {w : World} {X : Nat} {most : Int} {N : Nat} {pre : List En} {W W' : World} {SI : Nat → Prop} {u : Value} (h : SiI w X most N pre W SI u) (hz : W.heap.size ≤ W'.heap.size) (he : ∀ b, SI b → W'.heap[b]? = W.heap[b]?) : SiI w X most N pre W' SI u :=
  ⟨h.tld.keep hz (he _ ((h.set _).2 (Or.inl rfl))) (fun g e => he g ((h.set g).2 (Or.inr (Or.inr (Or.inr (Or.inr e)))))), (he _ ((h.set _).2 (Or.inr (Or.inl rfl)))).trans h.ptr, (he _ ((h.set _).2 (Or.inr (Or.inr (Or.inl rfl))))).trans h.mst, (he _ ((h.set _).2 (Or.inr (Or.inr (Or.inr (Or.inl rfl)))))).trans h.blk, h.len, h.set⟩
theorem SiI.stays {w : World} {X : Nat} {most : Int} {N : Nat} (hX : X < w.heap.size) : Stays (fun pre W SI => ∃ u, SiI w X most N pre W SI u) :=
  ⟨fun _ _ _ ⟨_, h⟩ => h.lt hX, fun _ _ _ _ ⟨u, h⟩ hz he => ⟨u, h.keep hz he⟩⟩
/-- One more collected. -/
theorem SiI.more {w W w2 w6 : World} {X : Nat} {most : Int} {N : Nat} {pre : List En} {SI : Nat → Prop} {u : Value} {x : En} {pv : Option Addr} {nv cv : Nat} (hX : X < w.heap.size) (h : SiI w X most N pre W SI u) (hN : pre.length < N) {W4 : World} (h4 : W4.os = W.os ∧ W4.tape = W.tape ∧ W4.output = W.output ∧ W4.heap.size = W.heap.size ∧ ∀ g : Nat, W4.heap[g]? = W.heap[g]?)
    (hm : TldMore W4 (w.heap.size + 1 + 1) (w.heap.size + 3) u pre w2 x pv nv cv w6) :
    ∃ S', Kept W (w6.setCell ⟨w.heap.size + 1 + 1, 0, none⟩ (.slice pv nv cv)) SI S' ∧ SiI w X most N (pre ++ [x]) (w6.setCell ⟨w.heap.size + 1 + 1, 0, none⟩ (.slice pv nv cv)) S' (.slice pv nv cv) := by
  obtain ⟨o1, o2, o3, z4, k4⟩ := h4
  have hz := h.tld.sz
  have hnu : ∀ g, g < w.heap.size + 3 → u.ownBlock ≠ some g := fun g hg e => by have := (h.tld.own.lt g e).1; omega
  refine ⟨fun g => g = w.heap.size + 1 + 1 ∨ g = w.heap.size ∨ g = w.heap.size + 1 ∨ g = X ∨ (Value.slice pv nv cv).ownBlock = some g, ⟨?_, ?_, ?_, ?_, fun g hg => ?_, fun g hg hn => ?_⟩, hm.tld, ?_, ?_, ?_, ?_, fun _ => Iff.rfl⟩
  · exact hm.fr.1.trans o1
  · exact hm.fr.2.1.trans o2
  · exact hm.fr.2.2.1.trans o3
  · have := hm.fr.2.2.2; omega
  · rcases hg with e | e | e | e | e
    · exact Or.inl ((h.set g).2 (Or.inl e))
    · exact Or.inl ((h.set g).2 (Or.inr (Or.inl e)))
    · exact Or.inl ((h.set g).2 (Or.inr (Or.inr (Or.inl e))))
    · exact Or.inl ((h.set g).2 (Or.inr (Or.inr (Or.inr (Or.inl e)))))
    · rcases hm.lies g e with e3 | e3
      · exact Or.inl ((h.set g).2 (Or.inr (Or.inr (Or.inr (Or.inr e3)))))
      · exact Or.inr (by omega)
  · rw [hm.rest g (by omega) (fun e => hn ((h.set g).2 (Or.inl e))) (fun e => hn ((h.set g).2 (Or.inr (Or.inr (Or.inr (Or.inr e)))))), k4 g]
  · rw [hm.rest _ (by omega) (by omega) (hnu _ (by omega)), k4]
    exact h.ptr
  · rw [hm.rest _ (by omega) (by omega) (hnu _ (by omega)), k4]
    exact h.mst
  · rw [hm.rest _ (by omega) (by omega) (hnu _ (by omega)), k4]
    exact h.blk
  · rw [List.length_append]
    simp
    omega
set_option maxRecDepth 100000 in
set_option maxHeartbeats 8000000 in
theorem since_any {w : World} {base X : Nat} {S : Nat → Prop} {p : Ln} {n : Nat} (h : LnAt w base X S p n) (hn : n ≤ 536870912) {s most : Int} (hs : -9223372036854775808 ≤ s ∧ s ≤ MXi) : Calls Try.prog 13 #[.pointer (some ⟨X, 0, none⟩), .int .i64 s, .int .i64 most] w (SiPost w S (sinL p s most)) := by
  obtain ⟨F, l, hs', mb, v, hA, hR⟩ := h.ex
  obtain ⟨xs, hxs⟩ : ∃ xs, xs = leRow p.l s := ⟨_, rfl⟩
  have hrow := hR.ok.row s
  rw [← hxs] at hrow
  obtain ⟨N, hN⟩ : ∃ N, N = (min (p.ap - s + 1) most).toNat := ⟨_, rfl⟩
  have e1 : sinL p s most = xs.take N := by unfold sinL; rw [← hxs, ← hN]
  rw [e1]
  have hlk : lookM l = leF p.l := funext hR.lk
  obtain ⟨W0, hW0⟩ : ∃ W0, W0 = ((w.alloc (.cells #[.pointer (some ⟨X, 0, none⟩)] 23)).alloc (.cells #[.int .i64 most] 3)).alloc (.cells #[.slice none 0 0] 33) := ⟨_, rfl⟩
  have b0 : Below w.heap.size w W0 := by rw [hW0]; exact (((Below.refl _ w).alloc (Nat.le_refl _) _).alloc (by simp) _).alloc (by simp; omega) _
  have h2 := two_blocks w (.cells #[.pointer (some ⟨X, 0, none⟩)] 23) (.cells #[.int .i64 most] 3)
  have y0 : ((w.alloc (.cells #[.pointer (some ⟨X, 0, none⟩)] 23)).alloc (.cells #[.int .i64 most] 3)).heap[w.heap.size]? = some (.cells #[.pointer (some ⟨X, 0, none⟩)] 23 (0, 0)) := h2.1.trans (heap_alloc_new w _)
  have y1 : ((w.alloc (.cells #[.pointer (some ⟨X, 0, none⟩)] 23)).alloc (.cells #[.int .i64 most] 3)).heap[w.heap.size + 1]? = some (.cells #[.int .i64 most] 3 (0, 0)) := h2.2.trans (heap_alloc_new _ _)
  have x0 : W0.heap[w.heap.size]? = some (.cells #[.pointer (some ⟨X, 0, none⟩)] 23 (0, 0)) := by rw [hW0]; exact (Below.heap_alloc _ _ _ (by simp; omega)).trans y0
  have x1 : W0.heap[w.heap.size + 1]? = some (.cells #[.int .i64 most] 3 (0, 0)) := by rw [hW0]; exact (Below.heap_alloc _ _ _ (by simp)).trans y1
  have x2 : W0.heap[w.heap.size + 1 + 1]? = some (.cells #[.slice none 0 0] 33 (0, 0)) := by
    rw [hW0]
    have := heap_alloc_new ((w.alloc (.cells #[.pointer (some ⟨X, 0, none⟩)] 23)).alloc (.cells #[.int .i64 most] 3)) (.cells #[.slice none 0 0] 33)
    simpa [Nat.add_assoc] using this
  have z0 : W0.heap.size = w.heap.size + 3 := by rw [hW0]; simp
  have hA0 := hA.fresh b0
  have c2 : W0.cell? ⟨X, 2, none⟩ = some (.map (some mb)) := hA0.cell 2 (.map (some mb)) rfl
  have cb : W0.cell? ⟨w.heap.size, 0, none⟩ = some (.pointer (some ⟨X, 0, none⟩)) := by simp [World.cell?, x0]
  have dp : ((w.alloc (.cells #[.pointer (some ⟨X, 0, none⟩)] 23)).alloc (.cells #[.int .i64 most] 3)).cell? ⟨w.heap.size, 0, none⟩ = some (.pointer (some ⟨X, 0, none⟩)) := by simp only [World.cell?, y0]; rfl
  have HC : Hid (W0.cell? ⟨X, 2, none⟩ = some (.map (some mb))) := c2
  rw [hW0] at c2 cb
  have HW : Hid (((w.alloc (.cells #[.pointer (some ⟨X, 0, none⟩)] 23)).alloc (.cells #[.int .i64 most] 3)).alloc (.cells #[.slice none 0 0] 33) = W0) := hW0.symm
  have HA : Hid (LrAt w base X S p.ap F l hs' mb v ∧ LnRel p n F l hs' ∧ LrAt W0 base X S p.ap F l hs' mb v) := (show Hid _ from (⟨hA, hR, hA0⟩ : _ ∧ _ ∧ _))
  have HX : Hid (RowF (lookM l) s xs ∧ xs.length ≤ n ∧ -9223372036854775808 ≤ s ∧ s ≤ MXi) := (show Hid _ from (⟨by rw [hlk]; exact hrow.1, hrow.2, hs.1, hs.2⟩ : _ ∧ _ ∧ _ ∧ _))
  have B0 : Hid (Below w.heap.size w W0 ∧ W0.heap[w.heap.size]? = some (.cells #[.pointer (some ⟨X, 0, none⟩)] 23 (0, 0)) ∧ W0.heap[w.heap.size + 1]? = some (.cells #[.int .i64 most] 3 (0, 0)) ∧ W0.heap[w.heap.size + 1 + 1]? = some (.cells #[.slice none 0 0] 33 (0, 0)) ∧ W0.heap.size = w.heap.size + 3) := (show Hid _ from (⟨b0, x0, x1, x2, z0⟩ : _ ∧ _ ∧ _ ∧ _ ∧ _))
  have HN : Hid (N = (min (p.ap - s + 1) most).toNat) := hN
  clear hW0 h2 b0 x0 x1 x2 y0 y1 z0 hA hR hA0 h e1 hxs hrow hlk hN hs
  refine (callsIn_wide (n := 3)).1 ?_
  refine callsIn_of_wp_marks Try.func13 rfl trivial ?_ rfl
  simp only [Try.ntmps13, List.size_toArray, List.length_cons, List.length_nil, Nat.reduceAdd, Nat.reduceSub, Array.replicate_succ, Array.replicate_zero, List.push_toArray, List.append_toArray, List.nil_append, List.cons_append]
  gi_wp2_with (refine ⟨trivial, ?_⟩; gi_at_call 29; rw [HW.out]; refine (callsIn_wide.2 (row_any _ _ _)).mono ?_; rintro e w2 ⟨rfl, b2, k2, k1⟩; have B2 : Hid (Below W0.heap.size W0 w2 ∧ w2.heap[W0.heap.size]? = some (.cells #[.map (some mb)] 50 (0, 0)) ∧ w2.heap[W0.heap.size + 1]? = some (.cells #[.int .i64 s] 3 (0, 0))) := (show Hid _ from (⟨b2, k2, k1⟩ : _ ∧ _ ∧ _)); clear b2 k2 k1)
  have hXl : X < w.heap.size := HA.out.1.bd X HA.out.1.inX
  have HZ : Hid (W0.heap.size = w.heap.size + 3 ∧ W0.heap.size ≤ w2.heap.size ∧ X < w.heap.size) := (show Hid _ from (⟨B0.out.2.2.2.2, B2.out.1.size, hXl⟩ : _ ∧ _ ∧ _))
  have hmb : mb < w.heap.size := HA.out.1.bd mb HA.out.1.inM
  have b2w : ∀ g, g < w.heap.size + 3 → w2.heap[g]? = W0.heap[g]? := fun g hg => B2.out.1.block g (by have := HZ.out; omega)
  have hM2 : mKn.At w2 mb l := HA.out.2.2.map.keep (b2w mb (by omega))
  have hneM := HA.out.1.neX
  refine wpIn_iterS (enc := fun e : En => .agg (enA e)) (gf := 33) (lb := #[.pointer (some ⟨W0.heap.size + 1, 0, none⟩), .pointer (some ⟨W0.heap.size, 0, none⟩)]) rfl (enters_of Try.func33 (by kernel_rfl) rfl)
    (row_iters HX.out.1 ⟨by have := HX.out; omega, by have := HX.out; omega⟩ B2.out.2.2 B2.out.2.1 hM2) rfl (fun pre W SI => ∃ u, SiI w X most N pre W SI u) (SiI.stays hXl) (fun c q W SI => c = Code.exit 0 ∧ ∃ pre u, SiI w X most N pre W SI u ∧ pre = xs.take N) (fun c => ⟨fun _ _ _ ⟨_, _, _, h, _⟩ => h.lt hXl, fun _ _ _ _ ⟨hc, pre, u, h, hp⟩ hz he => ⟨hc, pre, u, h.keep hz he, hp⟩⟩)
    (S0 := fun g => g = w.heap.size + 1 + 1 ∨ g = w.heap.size ∨ g = w.heap.size + 1 ∨ g = X ∨ (Value.slice none 0 0).ownBlock = some g) ⟨.slice none 0 0, ?_⟩ ?_ (fun x => .cells (enA x) 30)
    (fun x B => { tmps := #[.pointer (some ⟨X, 0, none⟩), .int .i64 s, .int .i64 most, .pointer (some ⟨w.heap.size, 0, none⟩), undef, .pointer (some ⟨w.heap.size + 1, 0, none⟩), .slice none 0 0, .pointer (some ⟨w.heap.size + 1 + 1, 0, none⟩), .pointer (some ⟨B, 0, none⟩), .pointer (some ⟨X, 0, none⟩), .bool false, .pointer (some ⟨X, 0, none⟩), .pointer (some ⟨X, 0, none⟩), .pointer (some ⟨X, 2, none⟩), .map (some mb), .int .i64 s, .func (.func 33) #[] #[.pointer (some ⟨W0.heap.size + 1, 0, none⟩), .pointer (some ⟨W0.heap.size, 0, none⟩)], .agg (enA x), undef, undef, undef, undef, undef, undef, undef, undef, undef, undef, undef, undef, undef, undef, undef, undef, undef, undef, undef], defers := [] }) ?assign ?body ?done ?stop
  · have hz := HZ.out
    exact ⟨⟨(b2w _ (by omega)).trans B0.out.2.2.2.1, World.ownsRow_nil _ _ _ _, by omega, by omega⟩, (b2w _ (by omega)).trans B0.out.2.1, (b2w _ (by omega)).trans B0.out.2.2.1, (b2w _ (by omega)).trans (B0.out.1.block X hXl), Nat.zero_le _, fun _ => Iff.rfl⟩
  · have hz := HZ.out
    rintro b (rfl | rfl | rfl)
    · refine ⟨lt_of_block B2.out.2.2, fun h => ?_⟩
      rcases h with h | h | h | h | h
      · omega
      · omega
      · omega
      · omega
      · simp [Value.ownBlock] at h
    · refine ⟨lt_of_block B2.out.2.1, fun h => ?_⟩
      rcases h with h | h | h | h | h
      · omega
      · omega
      · omega
      · omega
      · simp [Value.ownBlock] at h
    · refine ⟨by omega, fun h => ?_⟩
      rcases h with h | h | h | h | h
      · omega
      · omega
      · omega
      · exact hneM h
      · simp [Value.ownBlock] at h
  case assign =>
    intro l' m x W' K hK
    gi_wp2
    exact hK _ ((Below.refl _ W').alloc (Nat.le_refl _) _) (heap_alloc_new W' _)
  case body =>
    rintro l' m B pre x suf W SI hxx hl' ⟨u, hI⟩ hnl hBl hnB hbx hTW
    have mixed : Try.prog.follows Departure.mixedOrders = true := by kernel_rfl
    have hpl : pre.length < xs.length := by
      rw [hxx, List.length_append]
      simp
    have hxe : xs[pre.length] = x := by simp [hxx]
    have hlx := HX.out.1.at' pre.length hpl
    rw [hxe] at hlx
    have hlf : leF p.l (s + (pre.length : Int)) = some x := by rw [← HA.out.2.1.lk]; exact hlx
    have hxs := leF_some hlf
    have htk : pre = xs.take pre.length := by simp [hxx]
    have HNm : Hid (x.cmd.name.size ≤ 281474976710656) := HA.out.2.1.ok.nm x hxs.1
    have HXS : Hid (x.slot = s + (pre.length : Int)) := hxs.2
    have HTK : Hid (pre = xs.take pre.length) := htk
    have hbx1 : EnBx W B x := hbx
    have ce := hbx1.c 0 _ rfl
    have cp : W.cell? ⟨w.heap.size, 0, none⟩ = some (.pointer (some ⟨X, 0, none⟩)) := by simp [World.cell?, hI.ptr]
    have cm : W.cell? ⟨w.heap.size + 1, 0, none⟩ = some (.int .i64 most) := by simp [World.cell?, hI.mst]
    have c0 : W.cell? ⟨X, 0, none⟩ = some (.int .i64 p.ap) := by
      have := HA.out.1.cell 0 (.int .i64 p.ap) rfl
      rw [← this]
      exact World.cell?_of_block hI.blk
    have cl : W.cell? ⟨w.heap.size + 1 + 1, 0, none⟩ = some u := by simp [World.cell?, hI.tld.box]
    obtain ⟨ua, uc, hue⟩ := (OwnEn.row hI.tld.own).form
    obtain ⟨un, hun⟩ : ∃ un, un = pre.length := ⟨_, rfl⟩
    rw [← hun] at hue
    rw [hue] at cl hI
    have HI : Hid _ := hI
    have HUN : Hid (un = pre.length) := hun
    have HE : Hid (EnBx W B x) := hbx1
    have HPL : Hid (pre.length + 1 ≤ 536870912) := (by have := HX.out.2.1; omega : pre.length + 1 ≤ 536870912)
    have HLEN : Hid (pre.length ≤ N) := hI.len
    have fin : (most ≤ (un : Int) ∨ p.ap < x.slot) → pre = xs.take N := fun hc => by
      have h1 := HLEN.out
      have h2 := HN.out
      have h3 := HXS.out
      have h4 := HUN.out
      have : N = pre.length := by omega
      rw [this]
      exact HTK.out
    have FINS : Hid _ := fin
    clear hI hxx hl' hnl hBl hnB hbx hTW hpl hxe hlx hlf hxs htk hbx1 hue hun hXl hmb b2w hM2 hneM fin
    by_cases hm : most ≤ (un : Int)
    · have t1 : decide (most ≤ (un : Int)) = true := decide_eq_true hm
      have HF : Hid (pre = xs.take N) := FINS.out (Or.inl hm)
      clear hm FINS
      gi_wp2
      have hS : W.drew.cell? ⟨w.heap.size + 1 + 1, 0, none⟩ = some (.slice ua un uc) ∧ W.drew.cell? ⟨w.heap.size + 1, 0, none⟩ = some (.int .i64 most) ∧ W.drew.cell? ⟨B, 0, none⟩ = some (.int .i64 x.slot) ∧ W.drew.cell? ⟨w.heap.size, 0, none⟩ = some (.pointer (some ⟨X, 0, none⟩)) ∧ W.drew.cell? ⟨X, 0, none⟩ = some (.int .i64 p.ap) := ⟨cl, cm, ce, cp, c0⟩
      refine wpIn_reads (S := fun w' => w'.cell? ⟨w.heap.size + 1 + 1, 0, none⟩ = some (.slice ua un uc) ∧ w'.cell? ⟨w.heap.size + 1, 0, none⟩ = some (.int .i64 most) ∧ w'.cell? ⟨B, 0, none⟩ = some (.int .i64 x.slot) ∧ w'.cell? ⟨w.heap.size, 0, none⟩ = some (.pointer (some ⟨X, 0, none⟩)) ∧ w'.cell? ⟨X, 0, none⟩ = some (.int .i64 p.ap)) mixed (by kernel_rfl) ?_ ?_
      · rintro ⟨a9, w9, h9⟩
        change ∃ S' : Nat → Prop, Kept W w9 SI S' ∧ ((Exit.outgrown = Exit.normal ∧ _) ∨ ∃ id, Exit.outgrown = Exit.exit id ∧ _) at h9
        obtain ⟨_, _, (⟨e9, _⟩ | ⟨_, e9, _⟩)⟩ := h9 <;> cases e9
      refine tk0 (.slice ua un uc) (by kernel_rfl) (by kernel_rfl) (by kernel_rfl) (fun _ _ _ h => h) rfl (fun w' hSw => by (try dsimp only at hSw); obtain ⟨s1, s2, s3, s4, s5⟩ := hSw; go_simp) hS ?_
      try simp only [Act.put, List.setIfInBounds_toArray, List.set_cons_zero, List.set_cons_succ]
      refine tk1 (.int .i64 (un : Int)) (by kernel_rfl) (by kernel_rfl) (by kernel_rfl) (fun _ _ _ h => h) rfl (fun w' hSw => by (try dsimp only at hSw); obtain ⟨s1, s2, s3, s4, s5⟩ := hSw; go_simp) hS ?_
      try simp only [Act.put, List.setIfInBounds_toArray, List.set_cons_zero, List.set_cons_succ]
      refine tk2 (.int .i64 most) (by kernel_rfl) (by kernel_rfl) (by kernel_rfl) (fun _ _ _ h => h) rfl (fun w' hSw => by (try dsimp only at hSw); obtain ⟨s1, s2, s3, s4, s5⟩ := hSw; go_simp) hS ?_
      try simp only [Act.put, List.setIfInBounds_toArray, List.set_cons_zero, List.set_cons_succ]
      refine tk3 (.bool true) (by kernel_rfl) (by kernel_rfl) (by kernel_rfl) (fun _ _ _ h => h) rfl (fun w' hSw => by (try dsimp only at hSw); obtain ⟨s1, s2, s3, s4, s5⟩ := hSw; go_simp) hS ?_
      try simp only [Act.put, List.setIfInBounds_toArray, List.set_cons_zero, List.set_cons_succ]
      refine tk4 (.bool true) (by kernel_rfl) (by kernel_rfl) (by kernel_rfl) (fun _ _ _ h => h) rfl (fun w' hSw => by (try dsimp only at hSw); obtain ⟨s1, s2, s3, s4, s5⟩ := hSw; go_simp) hS ?_
      try simp only [Act.put, List.setIfInBounds_toArray, List.set_cons_zero, List.set_cons_succ]
      refine sk5 (by kernel_rfl) (by kernel_rfl) (by kernel_rfl) (fun _ _ _ h => h) rfl hS ?_
      try simp only [Act.put, List.setIfInBounds_toArray, List.set_cons_zero, List.set_cons_succ]
      refine sk6 (by kernel_rfl) (by kernel_rfl) (by kernel_rfl) (fun _ _ _ h => h) rfl hS ?_
      try simp only [Act.put, List.setIfInBounds_toArray, List.set_cons_zero, List.set_cons_succ]
      refine sk7 (by kernel_rfl) (by kernel_rfl) (by kernel_rfl) (fun _ _ _ h => h) rfl hS ?_
      try simp only [Act.put, List.setIfInBounds_toArray, List.set_cons_zero, List.set_cons_succ]
      refine sk8 (by kernel_rfl) (by kernel_rfl) (by kernel_rfl) (fun _ _ _ h => h) rfl hS ?_
      try simp only [Act.put, List.setIfInBounds_toArray, List.set_cons_zero, List.set_cons_succ]
      refine sk9 (by kernel_rfl) (by kernel_rfl) (by kernel_rfl) (fun _ _ _ h => h) rfl hS ?_
      try simp only [Act.put, List.setIfInBounds_toArray, List.set_cons_zero, List.set_cons_succ]
      refine sk10 (by kernel_rfl) (by kernel_rfl) (by kernel_rfl) (fun _ _ _ h => h) rfl hS ?_
      try simp only [Act.put, List.setIfInBounds_toArray, List.set_cons_zero, List.set_cons_succ]
      refine sk11 (by kernel_rfl) (by kernel_rfl) (by kernel_rfl) (fun _ _ _ h => h) rfl hS ?_
      try simp only [Act.put, List.setIfInBounds_toArray, List.set_cons_zero, List.set_cons_succ]
      refine tk12 (.bool true) (by kernel_rfl) (by kernel_rfl) (by kernel_rfl) (fun _ _ _ h => h) rfl (fun w' hSw => by (try dsimp only at hSw); obtain ⟨s1, s2, s3, s4, s5⟩ := hSw; go_simp) hS ?_
      try simp only [Act.put, List.setIfInBounds_toArray, List.set_cons_zero, List.set_cons_succ]
      refine wpAnyH_done (by kernel_rfl) ?_ _
      gi_wp2
      exact ⟨SI, kept_drew _ _, Or.inr ⟨0, rfl, rfl, pre, _, HI.out.keep (Nat.le_refl _) (fun _ _ => rfl), HF.out⟩⟩
    · have t1 : decide (most ≤ (un : Int)) = false := decide_eq_false hm
      have HM : Hid (¬ most ≤ (un : Int)) := hm
      by_cases hg : p.ap < x.slot
      · have t2 : decide (p.ap < x.slot) = true := decide_eq_true hg
        have HF : Hid (pre = xs.take N) := FINS.out (Or.inr hg)
        clear hm hg FINS
        gi_wp2
        have hS : W.drew.cell? ⟨w.heap.size + 1 + 1, 0, none⟩ = some (.slice ua un uc) ∧ W.drew.cell? ⟨w.heap.size + 1, 0, none⟩ = some (.int .i64 most) ∧ W.drew.cell? ⟨B, 0, none⟩ = some (.int .i64 x.slot) ∧ W.drew.cell? ⟨w.heap.size, 0, none⟩ = some (.pointer (some ⟨X, 0, none⟩)) ∧ W.drew.cell? ⟨X, 0, none⟩ = some (.int .i64 p.ap) := ⟨cl, cm, ce, cp, c0⟩
        refine wpIn_reads (S := fun w' => w'.cell? ⟨w.heap.size + 1 + 1, 0, none⟩ = some (.slice ua un uc) ∧ w'.cell? ⟨w.heap.size + 1, 0, none⟩ = some (.int .i64 most) ∧ w'.cell? ⟨B, 0, none⟩ = some (.int .i64 x.slot) ∧ w'.cell? ⟨w.heap.size, 0, none⟩ = some (.pointer (some ⟨X, 0, none⟩)) ∧ w'.cell? ⟨X, 0, none⟩ = some (.int .i64 p.ap)) mixed (by kernel_rfl) ?_ ?_
        · rintro ⟨a9, w9, h9⟩
          change ∃ S' : Nat → Prop, Kept W w9 SI S' ∧ ((Exit.outgrown = Exit.normal ∧ _) ∨ ∃ id, Exit.outgrown = Exit.exit id ∧ _) at h9
          obtain ⟨_, _, (⟨e9, _⟩ | ⟨_, e9, _⟩)⟩ := h9 <;> cases e9
        refine tk0 (.slice ua un uc) (by kernel_rfl) (by kernel_rfl) (by kernel_rfl) (fun _ _ _ h => h) rfl (fun w' hSw => by (try dsimp only at hSw); obtain ⟨s1, s2, s3, s4, s5⟩ := hSw; go_simp) hS ?_
        try simp only [Act.put, List.setIfInBounds_toArray, List.set_cons_zero, List.set_cons_succ]
        refine tk1 (.int .i64 (un : Int)) (by kernel_rfl) (by kernel_rfl) (by kernel_rfl) (fun _ _ _ h => h) rfl (fun w' hSw => by (try dsimp only at hSw); obtain ⟨s1, s2, s3, s4, s5⟩ := hSw; go_simp) hS ?_
        try simp only [Act.put, List.setIfInBounds_toArray, List.set_cons_zero, List.set_cons_succ]
        refine tk2 (.int .i64 most) (by kernel_rfl) (by kernel_rfl) (by kernel_rfl) (fun _ _ _ h => h) rfl (fun w' hSw => by (try dsimp only at hSw); obtain ⟨s1, s2, s3, s4, s5⟩ := hSw; go_simp) hS ?_
        try simp only [Act.put, List.setIfInBounds_toArray, List.set_cons_zero, List.set_cons_succ]
        refine tk3 (.bool false) (by kernel_rfl) (by kernel_rfl) (by kernel_rfl) (fun _ _ _ h => h) rfl (fun w' hSw => by (try dsimp only at hSw); obtain ⟨s1, s2, s3, s4, s5⟩ := hSw; go_simp) hS ?_
        try simp only [Act.put, List.setIfInBounds_toArray, List.set_cons_zero, List.set_cons_succ]
        refine tk4 (.bool false) (by kernel_rfl) (by kernel_rfl) (by kernel_rfl) (fun _ _ _ h => h) rfl (fun w' hSw => by (try dsimp only at hSw); obtain ⟨s1, s2, s3, s4, s5⟩ := hSw; go_simp) hS ?_
        try simp only [Act.put, List.setIfInBounds_toArray, List.set_cons_zero, List.set_cons_succ]
        refine tk5 (.pointer (some ⟨B, 0, none⟩)) (by kernel_rfl) (by kernel_rfl) (by kernel_rfl) (fun _ _ _ h => h) rfl (fun w' hSw => by (try dsimp only at hSw); obtain ⟨s1, s2, s3, s4, s5⟩ := hSw; go_simp) hS ?_
        try simp only [Act.put, List.setIfInBounds_toArray, List.set_cons_zero, List.set_cons_succ]
        refine tk6 (.int .i64 x.slot) (by kernel_rfl) (by kernel_rfl) (by kernel_rfl) (fun _ _ _ h => h) rfl (fun w' hSw => by (try dsimp only at hSw); obtain ⟨s1, s2, s3, s4, s5⟩ := hSw; go_simp) hS ?_
        try simp only [Act.put, List.setIfInBounds_toArray, List.set_cons_zero, List.set_cons_succ]
        refine tk7 (.pointer (some ⟨X, 0, none⟩)) (by kernel_rfl) (by kernel_rfl) (by kernel_rfl) (fun _ _ _ h => h) rfl (fun w' hSw => by (try dsimp only at hSw); obtain ⟨s1, s2, s3, s4, s5⟩ := hSw; go_simp) hS ?_
        try simp only [Act.put, List.setIfInBounds_toArray, List.set_cons_zero, List.set_cons_succ]
        refine tk8 (.pointer (some ⟨X, 0, none⟩)) (by kernel_rfl) (by kernel_rfl) (by kernel_rfl) (fun _ _ _ h => h) rfl (fun w' hSw => by (try dsimp only at hSw); obtain ⟨s1, s2, s3, s4, s5⟩ := hSw; go_simp) hS ?_
        try simp only [Act.put, List.setIfInBounds_toArray, List.set_cons_zero, List.set_cons_succ]
        refine tk9 (.pointer (some ⟨X, 0, none⟩)) (by kernel_rfl) (by kernel_rfl) (by kernel_rfl) (fun _ _ _ h => h) rfl (fun w' hSw => by (try dsimp only at hSw); obtain ⟨s1, s2, s3, s4, s5⟩ := hSw; go_simp) hS ?_
        try simp only [Act.put, List.setIfInBounds_toArray, List.set_cons_zero, List.set_cons_succ]
        refine tk10 (.int .i64 p.ap) (by kernel_rfl) (by kernel_rfl) (by kernel_rfl) (fun _ _ _ h => h) rfl (fun w' hSw => by (try dsimp only at hSw); obtain ⟨s1, s2, s3, s4, s5⟩ := hSw; go_simp) hS ?_
        try simp only [Act.put, List.setIfInBounds_toArray, List.set_cons_zero, List.set_cons_succ]
        refine tk11 (.bool true) (by kernel_rfl) (by kernel_rfl) (by kernel_rfl) (fun _ _ _ h => h) rfl (fun w' hSw => by (try dsimp only at hSw); obtain ⟨s1, s2, s3, s4, s5⟩ := hSw; go_simp) hS ?_
        try simp only [Act.put, List.setIfInBounds_toArray, List.set_cons_zero, List.set_cons_succ]
        refine tk12 (.bool true) (by kernel_rfl) (by kernel_rfl) (by kernel_rfl) (fun _ _ _ h => h) rfl (fun w' hSw => by (try dsimp only at hSw); obtain ⟨s1, s2, s3, s4, s5⟩ := hSw; go_simp) hS ?_
        try simp only [Act.put, List.setIfInBounds_toArray, List.set_cons_zero, List.set_cons_succ]
        refine wpAnyH_done (by kernel_rfl) ?_ _
        gi_wp2
        exact ⟨SI, kept_drew _ _, Or.inr ⟨0, rfl, rfl, pre, _, HI.out.keep (Nat.le_refl _) (fun _ _ => rfl), HF.out⟩⟩
      · have t2 : decide (p.ap < x.slot) = false := decide_eq_false hg
        have hlt : pre.length < N := by
          have h2 := HN.out
          have h3 := HXS.out
          have h4 := HUN.out
          omega
        have t4 : Tld W.drew (w.heap.size + 1 + 1) (w.heap.size + 3) (.slice ua un uc) pre := HI.out.tld.keep (Nat.le_refl _) rfl (fun _ _ => rfl)
        have hgr : ∀ w2, Below W.drew.heap.size W.drew w2 → _ := fun w2 b2 => t4.grow x b2 HPL.out
        have HGr : Hid _ := hgr
        have fin : ∀ w2 pv nv cv w6, TldMore W.drew (w.heap.size + 1 + 1) (w.heap.size + 3) (.slice ua un uc) pre w2 x pv nv cv w6 → _ := fun w2 pv nv cv w6 hm => HI.out.more (W4 := W.drew) HZ.out.2.2 hlt ⟨rfl, rfl, rfl, rfl, fun _ => rfl⟩ hm
        have FIN : Hid _ := fin
        have HBl : Hid (w.heap.size + 1 + 1 < W.drew.heap.size) := by have := t4.sz; show _ < _; omega
        clear hm hg FINS hlt t4 hgr fin
        gi_wp2
        have hS : W.drew.cell? ⟨w.heap.size + 1 + 1, 0, none⟩ = some (.slice ua un uc) ∧ W.drew.cell? ⟨w.heap.size + 1, 0, none⟩ = some (.int .i64 most) ∧ W.drew.cell? ⟨B, 0, none⟩ = some (.int .i64 x.slot) ∧ W.drew.cell? ⟨w.heap.size, 0, none⟩ = some (.pointer (some ⟨X, 0, none⟩)) ∧ W.drew.cell? ⟨X, 0, none⟩ = some (.int .i64 p.ap) := ⟨cl, cm, ce, cp, c0⟩
        refine wpIn_reads (S := fun w' => w'.cell? ⟨w.heap.size + 1 + 1, 0, none⟩ = some (.slice ua un uc) ∧ w'.cell? ⟨w.heap.size + 1, 0, none⟩ = some (.int .i64 most) ∧ w'.cell? ⟨B, 0, none⟩ = some (.int .i64 x.slot) ∧ w'.cell? ⟨w.heap.size, 0, none⟩ = some (.pointer (some ⟨X, 0, none⟩)) ∧ w'.cell? ⟨X, 0, none⟩ = some (.int .i64 p.ap)) mixed (by kernel_rfl) ?_ ?_
        · rintro ⟨a9, w9, h9⟩
          change ∃ S' : Nat → Prop, Kept W w9 SI S' ∧ ((Exit.outgrown = Exit.normal ∧ _) ∨ ∃ id, Exit.outgrown = Exit.exit id ∧ _) at h9
          obtain ⟨_, _, (⟨e9, _⟩ | ⟨_, e9, _⟩)⟩ := h9 <;> cases e9
        refine tk0 (.slice ua un uc) (by kernel_rfl) (by kernel_rfl) (by kernel_rfl) (fun _ _ _ h => h) rfl (fun w' hSw => by (try dsimp only at hSw); obtain ⟨s1, s2, s3, s4, s5⟩ := hSw; go_simp) hS ?_
        try simp only [Act.put, List.setIfInBounds_toArray, List.set_cons_zero, List.set_cons_succ]
        refine tk1 (.int .i64 (un : Int)) (by kernel_rfl) (by kernel_rfl) (by kernel_rfl) (fun _ _ _ h => h) rfl (fun w' hSw => by (try dsimp only at hSw); obtain ⟨s1, s2, s3, s4, s5⟩ := hSw; go_simp) hS ?_
        try simp only [Act.put, List.setIfInBounds_toArray, List.set_cons_zero, List.set_cons_succ]
        refine tk2 (.int .i64 most) (by kernel_rfl) (by kernel_rfl) (by kernel_rfl) (fun _ _ _ h => h) rfl (fun w' hSw => by (try dsimp only at hSw); obtain ⟨s1, s2, s3, s4, s5⟩ := hSw; go_simp) hS ?_
        try simp only [Act.put, List.setIfInBounds_toArray, List.set_cons_zero, List.set_cons_succ]
        refine tk3 (.bool false) (by kernel_rfl) (by kernel_rfl) (by kernel_rfl) (fun _ _ _ h => h) rfl (fun w' hSw => by (try dsimp only at hSw); obtain ⟨s1, s2, s3, s4, s5⟩ := hSw; go_simp) hS ?_
        try simp only [Act.put, List.setIfInBounds_toArray, List.set_cons_zero, List.set_cons_succ]
        refine tk4 (.bool false) (by kernel_rfl) (by kernel_rfl) (by kernel_rfl) (fun _ _ _ h => h) rfl (fun w' hSw => by (try dsimp only at hSw); obtain ⟨s1, s2, s3, s4, s5⟩ := hSw; go_simp) hS ?_
        try simp only [Act.put, List.setIfInBounds_toArray, List.set_cons_zero, List.set_cons_succ]
        refine tk5 (.pointer (some ⟨B, 0, none⟩)) (by kernel_rfl) (by kernel_rfl) (by kernel_rfl) (fun _ _ _ h => h) rfl (fun w' hSw => by (try dsimp only at hSw); obtain ⟨s1, s2, s3, s4, s5⟩ := hSw; go_simp) hS ?_
        try simp only [Act.put, List.setIfInBounds_toArray, List.set_cons_zero, List.set_cons_succ]
        refine tk6 (.int .i64 x.slot) (by kernel_rfl) (by kernel_rfl) (by kernel_rfl) (fun _ _ _ h => h) rfl (fun w' hSw => by (try dsimp only at hSw); obtain ⟨s1, s2, s3, s4, s5⟩ := hSw; go_simp) hS ?_
        try simp only [Act.put, List.setIfInBounds_toArray, List.set_cons_zero, List.set_cons_succ]
        refine tk7 (.pointer (some ⟨X, 0, none⟩)) (by kernel_rfl) (by kernel_rfl) (by kernel_rfl) (fun _ _ _ h => h) rfl (fun w' hSw => by (try dsimp only at hSw); obtain ⟨s1, s2, s3, s4, s5⟩ := hSw; go_simp) hS ?_
        try simp only [Act.put, List.setIfInBounds_toArray, List.set_cons_zero, List.set_cons_succ]
        refine tk8 (.pointer (some ⟨X, 0, none⟩)) (by kernel_rfl) (by kernel_rfl) (by kernel_rfl) (fun _ _ _ h => h) rfl (fun w' hSw => by (try dsimp only at hSw); obtain ⟨s1, s2, s3, s4, s5⟩ := hSw; go_simp) hS ?_
        try simp only [Act.put, List.setIfInBounds_toArray, List.set_cons_zero, List.set_cons_succ]
        refine tk9 (.pointer (some ⟨X, 0, none⟩)) (by kernel_rfl) (by kernel_rfl) (by kernel_rfl) (fun _ _ _ h => h) rfl (fun w' hSw => by (try dsimp only at hSw); obtain ⟨s1, s2, s3, s4, s5⟩ := hSw; go_simp) hS ?_
        try simp only [Act.put, List.setIfInBounds_toArray, List.set_cons_zero, List.set_cons_succ]
        refine tk10 (.int .i64 p.ap) (by kernel_rfl) (by kernel_rfl) (by kernel_rfl) (fun _ _ _ h => h) rfl (fun w' hSw => by (try dsimp only at hSw); obtain ⟨s1, s2, s3, s4, s5⟩ := hSw; go_simp) hS ?_
        try simp only [Act.put, List.setIfInBounds_toArray, List.set_cons_zero, List.set_cons_succ]
        refine tk11 (.bool false) (by kernel_rfl) (by kernel_rfl) (by kernel_rfl) (fun _ _ _ h => h) rfl (fun w' hSw => by (try dsimp only at hSw); obtain ⟨s1, s2, s3, s4, s5⟩ := hSw; go_simp) hS ?_
        try simp only [Act.put, List.setIfInBounds_toArray, List.set_cons_zero, List.set_cons_succ]
        refine tk12 (.bool false) (by kernel_rfl) (by kernel_rfl) (by kernel_rfl) (fun _ _ _ h => h) rfl (fun w' hSw => by (try dsimp only at hSw); obtain ⟨s1, s2, s3, s4, s5⟩ := hSw; go_simp) hS ?_
        try simp only [Act.put, List.setIfInBounds_toArray, List.set_cons_zero, List.set_cons_succ]
        refine wpAnyH_done (by kernel_rfl) ?_ _
        gi_wp2
        refine wpIn_region_any mixed ?_
        change wpAnyIn _ _ _ _ _ _ _ _ _ W.drew.drew
        refine wpAnyIn_ready (rs := [0, 1]) (by kernel_rfl) (by simp) ?_
        refine AllReadyIn.cons rfl (fun K hK => ?_) ?_
        · go_simp
          refine hK _ _ ?_
          clear hK K
          try simp only [Act.put, List.setIfInBounds_toArray, List.set_cons_zero, List.set_cons_succ]
          refine wpAnyIn_ready (rs := [1]) (by kernel_rfl) (by simp) ?_
          refine AllReadyIn.cons rfl (fun K hK => ?_) ?_
          · refine stepIn_load rfl 30 _ rfl rfl (ld_en HE.out) ?_
            refine hK _ _ ?_
            clear hK K
            refine wpAnyIn_ready (rs := [2]) (by kernel_rfl) (by simp) ?_
            refine AllReadyIn.cons rfl (fun K hK => ?_) ?_
            · go_simp
              refine ⟨trivial, fun h => absurd h (by decide), ?_⟩; gi_at_call 22; refine (CallsIn.inRound l' (callsIn_wide.2 (lclone_any _ x HNm.out))).mono ?_; rintro r w2 ⟨rfl, b2⟩; obtain ⟨pv, nv, cv, w6, hr6, hm6⟩ := HGr.out w2 (undrew b2); have C6 : Hid _ := hm6; have R6 : Hid _ := hr6; have cl2 := ((undrew b2).cell (p := ⟨w.heap.size + 1 + 1, 0, none⟩) HBl.out).trans cl; have cl3 : (w2.alloc (.cells (enA x) 30)).cell? ⟨w.heap.size + 1 + 1, 0, none⟩ = _ := (((undrew b2).alloc (undrew b2).size (.cells (enA x) 30)).cell (p := ⟨w.heap.size + 1 + 1, 0, none⟩) HBl.out).trans cl; have c6 := hm6.cell; have f6 := hm6.froz; clear b2 hm6 hr6
              refine hK _ _ ?_
              clear hK K
              try simp only [Act.put, List.setIfInBounds_toArray, List.set_cons_zero, List.set_cons_succ]
              refine wpAnyIn_ready (rs := [3]) (by kernel_rfl) (by simp) ?_
              refine AllReadyIn.cons rfl (fun K hK => ?_) ?_
              · go_simp
                refine hK _ _ ?_
                clear hK K
                try simp only [Act.put, List.setIfInBounds_toArray, List.set_cons_zero, List.set_cons_succ]
                refine wpAnyIn_ready (rs := [4]) (by kernel_rfl) (by simp) ?_
                refine AllReadyIn.cons rfl (fun K hK => ?_) ?_
                · refine stepIn_append rfl (.tmp 31) (.tmp 34) 33 33 rfl rfl rfl R6.out ?_
                  refine hK _ _ ?_
                  clear hK K
                  refine wpAnyIn_ready (rs := [5]) (by kernel_rfl) (by simp) ?_
                  refine AllReadyIn.cons rfl (fun K hK => ?_) ?_
                  · go_simp
                    refine hK _ _ ?_
                    clear hK K
                    refine wpAnyIn_done (by kernel_rfl) ?_ _
                    gi_wp2
                    obtain ⟨S9, k9, i9⟩ := FIN.out _ _ _ _ _ C6.out
                    exact ⟨S9, k9, _, i9⟩
                  exact AllReadyIn.nil
                exact AllReadyIn.nil
              exact AllReadyIn.nil
            exact AllReadyIn.nil
          exact AllReadyIn.nil
        refine AllReadyIn.cons rfl (fun K hK => ?_) ?_
        · refine stepIn_load rfl 30 _ rfl rfl (ld_en HE.out) ?_
          refine hK _ _ ?_
          clear hK K
          refine wpAnyIn_ready (rs := [0, 2]) (by kernel_rfl) (by simp) ?_
          refine AllReadyIn.cons rfl (fun K hK => ?_) ?_
          · go_simp
            refine hK _ _ ?_
            clear hK K
            try simp only [Act.put, List.setIfInBounds_toArray, List.set_cons_zero, List.set_cons_succ]
            refine wpAnyIn_ready (rs := [2]) (by kernel_rfl) (by simp) ?_
            refine AllReadyIn.cons rfl (fun K hK => ?_) ?_
            · go_simp
              refine ⟨trivial, fun h => absurd h (by decide), ?_⟩; gi_at_call 22; refine (CallsIn.inRound l' (callsIn_wide.2 (lclone_any _ x HNm.out))).mono ?_; rintro r w2 ⟨rfl, b2⟩; obtain ⟨pv, nv, cv, w6, hr6, hm6⟩ := HGr.out w2 (undrew b2); have C6 : Hid _ := hm6; have R6 : Hid _ := hr6; have cl2 := ((undrew b2).cell (p := ⟨w.heap.size + 1 + 1, 0, none⟩) HBl.out).trans cl; have cl3 : (w2.alloc (.cells (enA x) 30)).cell? ⟨w.heap.size + 1 + 1, 0, none⟩ = _ := (((undrew b2).alloc (undrew b2).size (.cells (enA x) 30)).cell (p := ⟨w.heap.size + 1 + 1, 0, none⟩) HBl.out).trans cl; have c6 := hm6.cell; have f6 := hm6.froz; clear b2 hm6 hr6
              refine hK _ _ ?_
              clear hK K
              try simp only [Act.put, List.setIfInBounds_toArray, List.set_cons_zero, List.set_cons_succ]
              refine wpAnyIn_ready (rs := [3]) (by kernel_rfl) (by simp) ?_
              refine AllReadyIn.cons rfl (fun K hK => ?_) ?_
              · go_simp
                refine hK _ _ ?_
                clear hK K
                try simp only [Act.put, List.setIfInBounds_toArray, List.set_cons_zero, List.set_cons_succ]
                refine wpAnyIn_ready (rs := [4]) (by kernel_rfl) (by simp) ?_
                refine AllReadyIn.cons rfl (fun K hK => ?_) ?_
                · refine stepIn_append rfl (.tmp 31) (.tmp 34) 33 33 rfl rfl rfl R6.out ?_
                  refine hK _ _ ?_
                  clear hK K
                  refine wpAnyIn_ready (rs := [5]) (by kernel_rfl) (by simp) ?_
                  refine AllReadyIn.cons rfl (fun K hK => ?_) ?_
                  · go_simp
                    refine hK _ _ ?_
                    clear hK K
                    refine wpAnyIn_done (by kernel_rfl) ?_ _
                    gi_wp2
                    obtain ⟨S9, k9, i9⟩ := FIN.out _ _ _ _ _ C6.out
                    exact ⟨S9, k9, _, i9⟩
                  exact AllReadyIn.nil
                exact AllReadyIn.nil
              exact AllReadyIn.nil
            exact AllReadyIn.nil
          refine AllReadyIn.cons rfl (fun K hK => ?_) ?_
          · go_simp
            refine ⟨trivial, fun h => absurd h (by decide), ?_⟩; gi_at_call 22; refine (CallsIn.inRound l' (callsIn_wide.2 (lclone_any _ x HNm.out))).mono ?_; rintro r w2 ⟨rfl, b2⟩; obtain ⟨pv, nv, cv, w6, hr6, hm6⟩ := HGr.out w2 (undrew b2); have C6 : Hid _ := hm6; have R6 : Hid _ := hr6; have cl2 := ((undrew b2).cell (p := ⟨w.heap.size + 1 + 1, 0, none⟩) HBl.out).trans cl; have cl3 : (w2.alloc (.cells (enA x) 30)).cell? ⟨w.heap.size + 1 + 1, 0, none⟩ = _ := (((undrew b2).alloc (undrew b2).size (.cells (enA x) 30)).cell (p := ⟨w.heap.size + 1 + 1, 0, none⟩) HBl.out).trans cl; have c6 := hm6.cell; have f6 := hm6.froz; clear b2 hm6 hr6
            refine hK _ _ ?_
            clear hK K
            try simp only [Act.put, List.setIfInBounds_toArray, List.set_cons_zero, List.set_cons_succ]
            refine wpAnyIn_ready (rs := [0, 3]) (by kernel_rfl) (by simp) ?_
            refine AllReadyIn.cons rfl (fun K hK => ?_) ?_
            · go_simp
              refine hK _ _ ?_
              clear hK K
              try simp only [Act.put, List.setIfInBounds_toArray, List.set_cons_zero, List.set_cons_succ]
              refine wpAnyIn_ready (rs := [3]) (by kernel_rfl) (by simp) ?_
              refine AllReadyIn.cons rfl (fun K hK => ?_) ?_
              · go_simp
                refine hK _ _ ?_
                clear hK K
                try simp only [Act.put, List.setIfInBounds_toArray, List.set_cons_zero, List.set_cons_succ]
                refine wpAnyIn_ready (rs := [4]) (by kernel_rfl) (by simp) ?_
                refine AllReadyIn.cons rfl (fun K hK => ?_) ?_
                · refine stepIn_append rfl (.tmp 31) (.tmp 34) 33 33 rfl rfl rfl R6.out ?_
                  refine hK _ _ ?_
                  clear hK K
                  refine wpAnyIn_ready (rs := [5]) (by kernel_rfl) (by simp) ?_
                  refine AllReadyIn.cons rfl (fun K hK => ?_) ?_
                  · go_simp
                    refine hK _ _ ?_
                    clear hK K
                    refine wpAnyIn_done (by kernel_rfl) ?_ _
                    gi_wp2
                    obtain ⟨S9, k9, i9⟩ := FIN.out _ _ _ _ _ C6.out
                    exact ⟨S9, k9, _, i9⟩
                  exact AllReadyIn.nil
                exact AllReadyIn.nil
              exact AllReadyIn.nil
            refine AllReadyIn.cons rfl (fun K hK => ?_) ?_
            · go_simp
              refine hK _ _ ?_
              clear hK K
              try simp only [Act.put, List.setIfInBounds_toArray, List.set_cons_zero, List.set_cons_succ]
              refine wpAnyIn_ready (rs := [0]) (by kernel_rfl) (by simp) ?_
              refine AllReadyIn.cons rfl (fun K hK => ?_) ?_
              · go_simp
                refine hK _ _ ?_
                clear hK K
                try simp only [Act.put, List.setIfInBounds_toArray, List.set_cons_zero, List.set_cons_succ]
                refine wpAnyIn_ready (rs := [4]) (by kernel_rfl) (by simp) ?_
                refine AllReadyIn.cons rfl (fun K hK => ?_) ?_
                · refine stepIn_append rfl (.tmp 31) (.tmp 34) 33 33 rfl rfl rfl R6.out ?_
                  refine hK _ _ ?_
                  clear hK K
                  refine wpAnyIn_ready (rs := [5]) (by kernel_rfl) (by simp) ?_
                  refine AllReadyIn.cons rfl (fun K hK => ?_) ?_
                  · go_simp
                    refine hK _ _ ?_
                    clear hK K
                    refine wpAnyIn_done (by kernel_rfl) ?_ _
                    gi_wp2
                    obtain ⟨S9, k9, i9⟩ := FIN.out _ _ _ _ _ C6.out
                    exact ⟨S9, k9, _, i9⟩
                  exact AllReadyIn.nil
                exact AllReadyIn.nil
              exact AllReadyIn.nil
            exact AllReadyIn.nil
          exact AllReadyIn.nil
        exact AllReadyIn.nil
  case stop =>
    rintro D c q W5 S5 hD hnD ⟨rfl, pre, u, hI, hp⟩ k5 hdf
    have HP : Hid (pre = xs.take N) := hp
    clear hp
    obtain ⟨ua, uc, hue⟩ := (OwnEn.row hI.tld.own).form
    have cl : W5.cell? ⟨w.heap.size + 1 + 1, 0, none⟩ = some u := by simp [World.cell?, hI.tld.box]
    have HI : Hid _ := hI
    have HK5 : Hid _ := k5
    have HD : Hid (w2.heap.size ≤ D ∧ ¬ S5 D) := (show Hid _ from (⟨hD, hnD⟩ : _ ∧ _))
    have HB : Hid _ := b2w
    have HNM : Hid _ := hneM
    obtain ⟨un, hun⟩ : ∃ un, un = pre.length := ⟨_, rfl⟩
    rw [← hun] at hue
    rw [hue] at cl HI
    clear hI k5 hD hnD hXl b2w hM2 hmb hneM hun hue
    gi_wp2
    refine ⟨by simp, .inl ⟨_, _, rfl, run_takeDeferred hdf, ?_⟩⟩
    have hz := HZ.out
    have hDl : ∀ g, g ≠ D → (W5.putObj D (.deferred none)).heap[g]? = W5.heap[g]? := fun g hg => World.putObj_heap_other hg
    have hDz := HD.out.1
    rw [← HP.out]
    refine ⟨_, results_tmp rfl _ _ _, _, rfl, ?_, ?_, ?_⟩
    · have k := HK5.out
      have hb := B2.out.1
      have hb0 := B0.out.1
      refine ⟨k.os.trans (hb.os.trans hb0.os), k.tape.trans (hb.tape.trans hb0.tape), k.output.trans (hb.output.trans hb0.output), by have := k.size; simp; omega, fun g hg => ?_⟩
      rw [hDl g (by omega)]
      by_cases hgX : g = X
      · rw [hgX]
        exact HI.out.blk
      · rw [k.kept g (by omega) (fun h => by
          rcases h with h | h | h | h | h
          · omega
          · omega
          · omega
          · exact hgX h
          · simp [Value.ownBlock] at h), HB.out g (by omega), hb0.block g hg]
    · refine OwnEn.row (own_keep HI.out.tld.own fun g hg => hDl g (fun e => HD.out.2 ?_))
      rw [← e]
      exact (HI.out.set g).2 (Or.inr (Or.inr (Or.inr (Or.inr hg))))
    · intro bk off m c hm0 e
      have hb : (Value.slice ua un uc).ownBlock = some bk := by
        have e' : Value.slice ua un uc = .slice (some ⟨bk, off, none⟩) m c := e
        rw [e']
        rfl
      have := (HI.out.tld.own.lt bk hb).1
      exact ⟨by omega, fun h => by have := HA.out.1.bd bk h; omega⟩
  case done =>
    rintro D W5 S5 hD hnD ⟨u, hI⟩ k5 hdf
    obtain ⟨pre, hpre⟩ : ∃ pre, pre = xs := ⟨_, rfl⟩
    have hp : pre = xs.take N := by
      have := hI.len
      rw [hpre, List.take_of_length_le this]
    rw [← hpre] at hI
    have HP : Hid (pre = xs.take N) := hp
    clear hp hpre
    obtain ⟨ua, uc, hue⟩ := (OwnEn.row hI.tld.own).form
    have cl : W5.cell? ⟨w.heap.size + 1 + 1, 0, none⟩ = some u := by simp [World.cell?, hI.tld.box]
    have HI : Hid _ := hI
    have HK5 : Hid _ := k5
    have HD : Hid (w2.heap.size ≤ D ∧ ¬ S5 D) := (show Hid _ from (⟨hD, hnD⟩ : _ ∧ _))
    have HB : Hid _ := b2w
    have HNM : Hid _ := hneM
    obtain ⟨un, hun⟩ : ∃ un, un = pre.length := ⟨_, rfl⟩
    rw [← hun] at hue
    rw [hue] at cl HI
    clear hI k5 hD hnD hXl b2w hM2 hmb hneM hun hue
    gi_wp2
    refine ⟨by simp, .inl ⟨_, _, rfl, run_takeDeferred hdf, ?_⟩⟩
    have hz := HZ.out
    have hDl : ∀ g, g ≠ D → (W5.putObj D (.deferred none)).heap[g]? = W5.heap[g]? := fun g hg => World.putObj_heap_other hg
    have hDz := HD.out.1
    rw [← HP.out]
    refine ⟨_, results_tmp rfl _ _ _, _, rfl, ?_, ?_, ?_⟩
    · have k := HK5.out
      have hb := B2.out.1
      have hb0 := B0.out.1
      refine ⟨k.os.trans (hb.os.trans hb0.os), k.tape.trans (hb.tape.trans hb0.tape), k.output.trans (hb.output.trans hb0.output), by have := k.size; simp; omega, fun g hg => ?_⟩
      rw [hDl g (by omega)]
      by_cases hgX : g = X
      · rw [hgX]
        exact HI.out.blk
      · rw [k.kept g (by omega) (fun h => by
          rcases h with h | h | h | h | h
          · omega
          · omega
          · omega
          · exact hgX h
          · simp [Value.ownBlock] at h), HB.out g (by omega), hb0.block g hg]
    · refine OwnEn.row (own_keep HI.out.tld.own fun g hg => hDl g (fun e => HD.out.2 ?_))
      rw [← e]
      exact (HI.out.set g).2 (Or.inr (Or.inr (Or.inr (Or.inr hg))))
    · intro bk off m c hm0 e
      have hb : (Value.slice ua un uc).ownBlock = some bk := by
        have e' : Value.slice ua un uc = .slice (some ⟨bk, off, none⟩) m c := e
        rw [e']
        rfl
      have := (HI.out.tld.own.lt bk hb).1
      exact ⟨by omega, fun h => by have := HA.out.1.bd bk h; omega⟩
end Go.Proofs.Ytnoappklbipdhaa
