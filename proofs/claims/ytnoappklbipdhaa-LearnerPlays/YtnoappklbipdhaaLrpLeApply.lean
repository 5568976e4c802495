/-
  Package learner: what follows is applied, and told. The condition: at most 2^29 entries.
-/
import Derived.Test.YtnoappklbipdhaaLrpLeTold
namespace Go.Proofs.Ytnoappklbipdhaa
open Go.RowKit Go.Shelf

attribute [local go_sem] Oper.semAt_some

theorem ld_en {w : World} {B : Nat} {e : En} (h : EnBx w B e) : (Instr.loadAt 30 (.pointer (some ⟨B, 0, none⟩))).run Try.prog w = .ok (.agg (enA e)) w := by
  have := run_loadVar_row w B 30 30 _ (0, 0) _ h Try.underlying30 rfl sizeEx
  simp [Instr.loadAt, Instr.sureAddr, this]
structure ApPost (w : World) (base X : Nat) (S : Nat → Prop) (q : Ln × List En) (n : Nat) (e : Ending) (w' : World) : Prop where
  ex : ∃ u, e = .returned u ∧ LnAt w' base X S q.1 n ∧ Kept w w' S S ∧ AnsE w w' S u q.2
/-- While what follows is applied; T: the blocks of its own but the map's. -/
structure ApI (w : World) (base X : Nat) (T : Nat → Prop) (p : Ln) (n : Nat) (F : Int) (l : List (Int × En)) (mb : Nat) (pre : List En) (W : World) (SI : Nat → Prop) (u v : Value) (hs : List Int) : Prop where
  tld : Tld W (w.heap.size + 1) (w.heap.size + 2) u pre
  ptr : W.heap[w.heap.size]? = some (.cells #[.pointer (some ⟨X, 0, none⟩)] 23 (0, 0))
  hp : HpAt W base X T (p.ap + (pre.length : Int)) F l hs mb v
  rel : LnRel ⟨p.ap + (pre.length : Int), p.l⟩ n F l hs
  set : ∀ g, SI g ↔ g = w.heap.size + 1 ∨ g = w.heap.size ∨ T g ∨ u.ownBlock = some g
theorem ApI.stays {w : World} {base X : Nat} {T : Nat → Prop} {p : Ln} {n : Nat} {F : Int} {l : List (Int × En)} {mb : Nat} (hT : ∀ g, T g → g < w.heap.size) : Stays (fun pre W SI => ∃ u v hs, ApI w base X T p n F l mb pre W SI u v hs) := by
  constructor
  · rintro pre W SI ⟨u, v, hs, h⟩ g hg
    have := h.tld.sz
    rcases (h.set g).1 hg with rfl | rfl | h1 | e
    · omega
    · omega
    · have := hT g h1
      omega
    · exact (h.tld.own.lt g e).2
  · rintro pre W W' SI ⟨u, v, hs, h⟩ hz he
    exact ⟨u, v, hs, h.tld.keep hz (he _ ((h.set _).2 (Or.inl rfl))) (fun g e => he g ((h.set g).2 (Or.inr (Or.inr (Or.inr e))))), (he _ ((h.set _).2 (Or.inr (Or.inl rfl)))).trans h.ptr, h.hp.keep fun g hg => he g ((h.set g).2 (Or.inr (Or.inr (Or.inl hg)))), h.rel, h.set⟩
/-- One more applied and told. -/
theorem ApI.more {w W W3 w2 w6 : World} {base X : Nat} {T : Nat → Prop} {p : Ln} {n : Nat} {F : Int} {l : List (Int × En)} {mb : Nat} {pre : List En} {SI : Nat → Prop} {u v v3 : Value} {hs hs3 : List Int} {x : En} {pv : Option Addr} {nv cv : Nat} (hT : ∀ g, T g → g < w.heap.size) (h : ApI w base X T p n F l mb pre W SI u v hs)
    (h3 : HpAt W3 base X T (p.ap + (pre.length : Int)) F l hs3 mb v3) (k3 : Kept W W3 T T) (hr : LnRel ⟨p.ap + (pre.length : Int) + 1, p.l⟩ n F l hs3) (hx : x.slot = p.ap + (pre.length : Int) + 1)
    (hm : TldMore (W3.setCell ⟨X, 0, none⟩ (.int .i64 x.slot)) (w.heap.size + 1) (w.heap.size + 2) u pre w2 x pv nv cv w6) :
    ∃ S', Kept W (w6.setCell ⟨w.heap.size + 1, 0, none⟩ (.slice pv nv cv)) SI S' ∧ ApI w base X T p n F l mb (pre ++ [x]) (w6.setCell ⟨w.heap.size + 1, 0, none⟩ (.slice pv nv cv)) S' (.slice pv nv cv) v3 hs3 := by
  have hXT := h3.inX
  have hz := h.tld.sz
  have hz3 := k3.size
  have h4 := h3.setA x.slot
  have k4 : ∀ g, g ≠ X → (W3.setCell ⟨X, 0, none⟩ (.int .i64 x.slot)).heap[g]? = W3.heap[g]? := fun g hg => heap_setCell_other _ _ _ _ hg
  have z4 : (W3.setCell ⟨X, 0, none⟩ (.int .i64 x.slot)).heap.size = W3.heap.size := by simp
  obtain ⟨W4, hW4⟩ : ∃ W4, W4 = W3.setCell ⟨X, 0, none⟩ (.int .i64 x.slot) := ⟨_, rfl⟩
  rw [← hW4] at h4 hm k4 z4
  have o4 : W4.os = W3.os ∧ W4.tape = W3.tape ∧ W4.output = W3.output := by rw [hW4]; exact ⟨rfl, rfl, rfl⟩
  have hnu : ∀ g, g < w.heap.size + 2 → u.ownBlock ≠ some g := fun g hg e => by have := (h.tld.own.lt g e).1; omega
  have e1 : p.ap + ((pre ++ [x]).length : Int) = x.slot := by rw [List.length_append, hx]; simp; omega
  have e2 : p.ap + ((pre ++ [x]).length : Int) = p.ap + (pre.length : Int) + 1 := by rw [List.length_append]; simp; omega
  refine ⟨fun g => g = w.heap.size + 1 ∨ g = w.heap.size ∨ T g ∨ (Value.slice pv nv cv).ownBlock = some g, ⟨?_, ?_, ?_, ?_, fun g hg => ?_, fun g hg hn => ?_⟩, hm.tld, ?_, ?_, ?_, fun _ => Iff.rfl⟩
  · exact hm.fr.1.trans (o4.1.trans k3.os)
  · exact hm.fr.2.1.trans (o4.2.1.trans k3.tape)
  · exact hm.fr.2.2.1.trans (o4.2.2.trans k3.output)
  · have := hm.fr.2.2.2; omega
  · rcases hg with e | e | e | e
    · exact Or.inl ((h.set g).2 (Or.inl e))
    · exact Or.inl ((h.set g).2 (Or.inr (Or.inl e)))
    · exact Or.inl ((h.set g).2 (Or.inr (Or.inr (Or.inl e))))
    · rcases hm.lies g e with e3 | e3
      · exact Or.inl ((h.set g).2 (Or.inr (Or.inr (Or.inr e3))))
      · exact Or.inr (by omega)
  · have hnT : ¬ T g := fun e => hn ((h.set g).2 (Or.inr (Or.inr (Or.inl e))))
    rw [hm.rest g (by omega) (fun e => hn ((h.set g).2 (Or.inl e))) (fun e => hn ((h.set g).2 (Or.inr (Or.inr (Or.inr e))))), k4 g (fun e => hnT (by rw [e]; exact hXT)), k3.kept g hg hnT]
  · have hnT : ¬ T w.heap.size := fun e => Nat.lt_irrefl _ (hT _ e)
    rw [hm.rest _ (by omega) (by omega) (hnu _ (by omega)), k4 _ (fun e => hnT (by rw [e]; exact hXT)), k3.kept _ (by omega) hnT]
    exact h.ptr
  · rw [e1]
    refine h4.keep fun g hg => hm.rest g ?_ ?_ (hnu g ?_)
    · have := hT g hg; omega
    · have := hT g hg; omega
    · have := hT g hg; omega
  · rw [e2]
    exact hr
set_option maxRecDepth 100000 in
set_option maxHeartbeats 8000000 in
theorem apply_any {w : World} {base X : Nat} {S : Nat → Prop} {p : Ln} {n : Nat} (h : LnAt w base X S p n) (hn : n ≤ 536870912) : Calls Try.prog 24 #[.pointer (some ⟨X, 0, none⟩)] w (ApPost w base X S (folL p) n) := by
  by_cases hmx : p.ap = MXi
  · have e1 : folL p = (p, []) := by unfold folL; rw [if_pos hmx]
    rw [e1]
    obtain ⟨F, l, hs, mb, v, hA, hR⟩ := h.ex
    obtain ⟨W, hW⟩ : ∃ W, W = w.alloc (.cells #[.pointer (some ⟨X, 0, none⟩)] 23) := ⟨_, rfl⟩
    have bW : Below w.heap.size w W := by rw [hW]; exact (Below.refl _ w).alloc (Nat.le_refl _) _
    have xW : W.heap[w.heap.size]? = some (.cells #[.pointer (some ⟨X, 0, none⟩)] 23 (0, 0)) := by rw [hW]; exact heap_alloc_new w _
    have c0 := (hA.fresh bW).cell 0 (.int .i64 p.ap) rfl
    have cb : W.cell? ⟨w.heap.size, 0, none⟩ = some (.pointer (some ⟨X, 0, none⟩)) := by simp [World.cell?, xW]
    have t1 : (p.ap == 9223372036854775807) = true := by rw [hmx]; rfl
    have HW : Hid (w.alloc (.cells #[.pointer (some ⟨X, 0, none⟩)] 23) = W) := hW.symm
    have HH : Hid (LnAt W base X S p n) := h.fresh bW
    have BW : Hid _ := bW
    rw [hW] at c0 cb
    clear hW xW hA hR h hmx e1 bW
    refine (callsIn_wide (n := 3)).1 ?_
    refine callsIn_of_wp_marks Try.func24 rfl trivial ?_ rfl
    simp only [Try.ntmps24, List.size_toArray, List.length_cons, List.length_nil, Nat.reduceAdd, Nat.reduceSub, Array.replicate_succ, Array.replicate_zero, List.push_toArray, List.append_toArray, List.nil_append, List.cons_append]
    gi_wp2
    rw [HW.out]
    refine ⟨_, results_tmp rfl _ _ _, _, rfl, HH.out, Kept.of BW.out, AnsE.nil _ _ _⟩
  · obtain ⟨F, l, hs, mb, v, hA, hR⟩ := h.ex
    obtain ⟨xs, hxs⟩ : ∃ xs, xs = leRow p.l (p.ap + 1) := ⟨_, rfl⟩
    have e1 : folL p = (⟨p.ap + (xs.length : Int), p.l⟩, xs) := by unfold folL; rw [if_neg hmx, ← hxs]
    have hrow := hR.ok.row (p.ap + 1)
    rw [← hxs] at hrow
    rw [e1]
    have hap := hR.ok.ap
    have hlt : p.ap < MXi := by omega
    have hlk : lookM l = leF p.l := funext hR.lk
    obtain ⟨W0, hW0⟩ : ∃ W0, W0 = (w.alloc (.cells #[.pointer (some ⟨X, 0, none⟩)] 23)).alloc (.cells #[.slice none 0 0] 33) := ⟨_, rfl⟩
    have b0 : Below w.heap.size w W0 := by rw [hW0]; exact ((Below.refl _ w).alloc (Nat.le_refl _) _).alloc (by simp) _
    have h2 := two_blocks w (.cells #[.pointer (some ⟨X, 0, none⟩)] 23) (.cells #[.slice none 0 0] 33)
    have x0 : W0.heap[w.heap.size]? = some (.cells #[.pointer (some ⟨X, 0, none⟩)] 23 (0, 0)) := by rw [hW0]; exact h2.1.trans (heap_alloc_new w _)
    have x1 : W0.heap[w.heap.size + 1]? = some (.cells #[.slice none 0 0] 33 (0, 0)) := by rw [hW0]; exact h2.2.trans (heap_alloc_new _ _)
    have z0 : W0.heap.size = w.heap.size + 2 := by rw [hW0]; simp
    have hA0 := hA.fresh b0
    have c0 : W0.cell? ⟨X, 0, none⟩ = some (.int .i64 p.ap) := hA0.cell 0 (.int .i64 p.ap) rfl
    have c2 : W0.cell? ⟨X, 2, none⟩ = some (.map (some mb)) := hA0.cell 2 (.map (some mb)) rfl
    have cb : W0.cell? ⟨w.heap.size, 0, none⟩ = some (.pointer (some ⟨X, 0, none⟩)) := by simp [World.cell?, x0]
    have dp : (w.alloc (.cells #[.pointer (some ⟨X, 0, none⟩)] 23)).cell? ⟨w.heap.size, 0, none⟩ = some (.pointer (some ⟨X, 0, none⟩)) := by
      have hn := heap_alloc_new w (.cells #[.pointer (some ⟨X, 0, none⟩)] 23)
      simp only [World.cell?, hn]
      rfl
    have d0 : (w.alloc (.cells #[.pointer (some ⟨X, 0, none⟩)] 23)).cell? ⟨X, 0, none⟩ = some (.int .i64 p.ap) := (hA.fresh (w' := w.alloc (.cells #[.pointer (some ⟨X, 0, none⟩)] 23)) ((Below.refl _ w).alloc (Nat.le_refl _) _)).cell 0 (.int .i64 p.ap) rfl
    have t1 : (p.ap == 9223372036854775807) = false := by simp; exact hmx
    have q1 : IntKind.i64.wrap (p.ap + 1) = p.ap + 1 := by rw [IntKind.wrap_i64]; unfold MXi at *; omega
    have HW : Hid ((w.alloc (.cells #[.pointer (some ⟨X, 0, none⟩)] 23)).alloc (.cells #[.slice none 0 0] 33) = W0) := hW0.symm
    have HA : Hid (LrAt w base X S p.ap F l hs mb v ∧ LnRel p n F l hs ∧ LrAt W0 base X S p.ap F l hs mb v) := (show Hid _ from (⟨hA, hR, hA0⟩ : _ ∧ _ ∧ _))
    have HX : Hid (RowF (lookM l) (p.ap + 1) xs ∧ xs.length ≤ n ∧ 0 ≤ p.ap ∧ p.ap < MXi) := (show Hid _ from (⟨by rw [hlk]; exact hrow.1, hrow.2, hap.1, hlt⟩ : _ ∧ _ ∧ _ ∧ _))
    have B0 : Hid (Below w.heap.size w W0 ∧ W0.heap[w.heap.size]? = some (.cells #[.pointer (some ⟨X, 0, none⟩)] 23 (0, 0)) ∧ W0.heap[w.heap.size + 1]? = some (.cells #[.slice none 0 0] 33 (0, 0)) ∧ W0.heap.size = w.heap.size + 2) := (show Hid _ from (⟨b0, x0, x1, z0⟩ : _ ∧ _ ∧ _ ∧ _))
    have HC : Hid (∀ w2, Below W0.heap.size W0 w2 → w2.cell? ⟨w.heap.size, 0, none⟩ = some (.pointer (some ⟨X, 0, none⟩)) ∧ w2.cell? ⟨X, 2, none⟩ = some (.map (some mb)) ∧ w2.cell? ⟨X, 0, none⟩ = some (.int .i64 p.ap)) := fun w2 b2 => by
      have := (b2.block w.heap.size (by omega)).trans x0
      exact ⟨by simp [World.cell?, this], (hA0.fresh b2).cell 2 (.map (some mb)) rfl, (hA0.fresh b2).cell 0 (.int .i64 p.ap) rfl⟩
    clear hW0 h2 b0 x0 x1 z0 hA hR hA0 h hmx e1 hxs hrow hap hlt hlk
    refine (callsIn_wide (n := 3)).1 ?_
    refine callsIn_of_wp_marks Try.func24 rfl trivial ?_ rfl
    simp only [Try.ntmps24, List.size_toArray, List.length_cons, List.length_nil, Nat.reduceAdd, Nat.reduceSub, Array.replicate_succ, Array.replicate_zero, List.push_toArray, List.append_toArray, List.nil_append, List.cons_append]
    gi_wp2
    rw [HW.out]
    refine wpIn_wide.2 ?_
    go_region_held3 (fun w' => w'.cell? ⟨w.heap.size, 0, none⟩ = some (.pointer (some ⟨X, 0, none⟩)) ∧ w'.cell? ⟨X, 2, none⟩ = some (.map (some mb)) ∧ w'.cell? ⟨X, 0, none⟩ = some (.int .i64 p.ap)) (go_keep) (first | (go_at_call 29; refine (row_any _ _ _).mono ?_; rintro e w2 ⟨rfl, b2, k2, k1⟩; obtain ⟨y1, y2, y3⟩ := HC.out w2 (undrew b2); have B2 : Hid (Below W0.heap.size W0 w2 ∧ w2.heap[W0.heap.size]? = some (.cells #[.map (some mb)] 50 (0, 0)) ∧ w2.heap[W0.heap.size + 1]? = some (.cells #[.int .i64 (p.ap + 1)] 3 (0, 0))) := (show Hid _ from (⟨undrew b2, k2, k1⟩ : _ ∧ _ ∧ _))))
    gi_wp2
    have hTl : ∀ g, (S g ∧ g ≠ mb) → g < w.heap.size := fun g hg => HA.out.1.bd g hg.1
    have HZ : Hid (W0.heap.size = w.heap.size + 2 ∧ W0.heap.size ≤ w2.heap.size) := (show Hid _ from (⟨B0.out.2.2.2, B2.out.1.size⟩ : _ ∧ _))
    have hmb : mb < w.heap.size := HA.out.1.bd mb HA.out.1.inM
    have b2w : ∀ g, g < w.heap.size + 2 → w2.heap[g]? = W0.heap[g]? := fun g hg => B2.out.1.block g (by have := HZ.out; omega)
    have hM2 : mKn.At w2 mb l := HA.out.2.2.map.keep (b2w mb (by omega))
    refine wpIn_iterS (enc := fun e : En => .agg (enA e)) (gf := 33) (lb := #[.pointer (some ⟨W0.heap.size + 1, 0, none⟩), .pointer (some ⟨W0.heap.size, 0, none⟩)]) rfl (enters_of Try.func33 (by kernel_rfl) rfl)
      (row_iters HX.out.1 ⟨by have := HX.out; omega, by have := HX.out; omega⟩ B2.out.2.2 B2.out.2.1 hM2) rfl (fun pre W SI => ∃ u v hs, ApI w base X (fun g => S g ∧ g ≠ mb) p n F l mb pre W SI u v hs) (ApI.stays hTl) (fun _ _ _ _ => False) (fun _ => ⟨fun _ _ _ h => h.elim, fun _ _ _ _ h => h.elim⟩)
      (S0 := fun g => g = w.heap.size + 1 ∨ g = w.heap.size ∨ (S g ∧ g ≠ mb) ∨ (Value.slice none 0 0).ownBlock = some g) ⟨.slice none 0 0, v, hs, ?_⟩ ?_ (fun x => .cells (enA x) 30)
      (fun x B => { tmps := #[.pointer (some ⟨X, 0, none⟩), .pointer (some ⟨w.heap.size, 0, none⟩), .slice none 0 0, .pointer (some ⟨w.heap.size + 1, 0, none⟩), .pointer (some ⟨B, 0, none⟩), .pointer (some ⟨X, 0, none⟩), .pointer (some ⟨X, 0, none⟩), .pointer (some ⟨X, 0, none⟩), .int .i64 p.ap, .bool false, .pointer (some ⟨X, 0, none⟩), .pointer (some ⟨X, 0, none⟩), .pointer (some ⟨X, 2, none⟩), .map (some mb), .pointer (some ⟨X, 0, none⟩), .pointer (some ⟨X, 0, none⟩), .pointer (some ⟨X, 0, none⟩), .int .i64 p.ap, .int .i64 (p.ap + 1), .func (.func 33) #[] #[.pointer (some ⟨W0.heap.size + 1, 0, none⟩), .pointer (some ⟨W0.heap.size, 0, none⟩)], .agg (enA x), undef, undef, undef, undef, undef, undef, undef, undef, undef, undef, undef, undef, undef, undef, undef, undef], defers := [] }) ?assign ?body ?done ?stop
    · have hA2 := HA.out.2.2.hp.fresh B2.out.1
      have hr := HA.out.2.1
      have hz := HZ.out
      refine ⟨⟨(b2w _ (by omega)).trans B0.out.2.2.1, World.ownsRow_nil _ _ _ _, by omega, by omega⟩, (b2w _ (by omega)).trans B0.out.2.1, ?_, ?_, fun _ => Iff.rfl⟩
      · simpa using hA2
      · simpa using hr
    · have hz := HZ.out
      rintro b (rfl | rfl | rfl)
      · refine ⟨lt_of_block B2.out.2.2, fun h => ?_⟩
        rcases h with h | h | h | h
        · omega
        · omega
        · have := hTl _ h; omega
        · simp [Value.ownBlock] at h
      · refine ⟨lt_of_block B2.out.2.1, fun h => ?_⟩
        rcases h with h | h | h | h
        · omega
        · omega
        · have := hTl _ h; omega
        · simp [Value.ownBlock] at h
      · refine ⟨by omega, fun h => ?_⟩
        rcases h with h | h | h | h
        · omega
        · omega
        · exact h.2 rfl
        · simp [Value.ownBlock] at h
    case assign =>
      intro l' m x W' K hK
      gi_wp2
      exact hK _ ((Below.refl _ W').alloc (Nat.le_refl _) _) (heap_alloc_new W' _)
    case stop => exact fun _ _ _ _ _ _ _ h => h.elim
    case body =>
      rintro l' m B pre x suf W SI hxx hl' ⟨u, v', hs', hI⟩ hnl hBl hnB hbx hTW
      have mixed : Try.prog.follows Departure.mixedOrders = true := by kernel_rfl
      have hz := HZ.out
      have hpl : pre.length < xs.length := by
        rw [hxx, List.length_append]
        simp
      have hxe : xs[pre.length] = x := by simp [hxx]
      have hlx := HX.out.1.at' pre.length hpl
      have hxm := HX.out.1.mx pre.length hpl
      rw [hxe] at hlx
      have hlf : leF p.l (p.ap + 1 + (pre.length : Int)) = some x := by rw [← HA.out.2.1.lk]; exact hlx
      have hxs := leF_some hlf
      have hslot : x.slot = p.ap + (pre.length : Int) + 1 := by rw [hxs.2]; omega
      have hWB : W.heap.size > B := lt_of_block hbx
      have hmem : (p.ap + (pre.length : Int) + 1) ∈ hs' := (hI.rel.hm _).2 ⟨by show p.ap + (pre.length : Int) < _; omega, by
        show (leF p.l _).isSome = true
        rw [show p.ap + (pre.length : Int) + 1 = p.ap + 1 + (pre.length : Int) by omega, hlf]
        rfl⟩
      have hle := hI.rel.least hmem
      have hnn := hI.rel.hl
      have HPop : Hid _ := hpop_any hI.hp hI.rel.hp hle.1 (by omega)
      have HTS : Hid (∀ g, (S g ∧ g ≠ mb) → g < w.heap.size) := hTl
      have hTI : ∀ g, (S g ∧ g ≠ mb) → SI g := fun g hg => (hI.set g).2 (Or.inr (Or.inr (Or.inl hg)))
      have htB : ¬ (S B ∧ B ≠ mb) := fun h => hnB (hTI B h)
      have HNm : Hid (x.cmd.name.size ≤ 281474976710656) := HA.out.2.1.ok.nm x hxs.1
      have hsz := hI.tld.sz
      -- behind the taking
      have FIN3 : Hid (∀ W3 hs3 v3, HpAt W3 base X (fun g => S g ∧ g ≠ mb) (p.ap + (pre.length : Int)) F l hs3 mb v3 → Kept W W3 (fun g => S g ∧ g ≠ mb) (fun g => S g ∧ g ≠ mb) → hs'.Perm (atI hs' 0 :: hs3) → HeapN hs3 hs3.length →
          EnBx W3 B x ∧ W3.heap[w.heap.size]? = some (.cells #[.pointer (some ⟨X, 0, none⟩)] 23 (0, 0)) ∧ EnBx (W3.setCell ⟨X, 0, none⟩ (.int .i64 x.slot)) B x ∧ Tld (W3.setCell ⟨X, 0, none⟩ (.int .i64 x.slot)) (w.heap.size + 1) (w.heap.size + 2) u pre ∧
          ∀ w2' pv nv cv w6, TldMore (W3.setCell ⟨X, 0, none⟩ (.int .i64 x.slot)) (w.heap.size + 1) (w.heap.size + 2) u pre w2' x pv nv cv w6 → ∃ S', Kept W (w6.setCell ⟨w.heap.size + 1, 0, none⟩ (.slice pv nv cv)) SI S' ∧ ApI w base X (fun g => S g ∧ g ≠ mb) p n F l mb (pre ++ [x]) (w6.setCell ⟨w.heap.size + 1, 0, none⟩ (.slice pv nv cv)) S' (.slice pv nv cv) v3 hs3) := fun W3 hs3 v3 h3 k3 hp hh => by
        have kk : ∀ g, g < W.heap.size → ¬ (S g ∧ g ≠ mb) → W3.heap[g]? = W.heap[g]? := fun g hg hn => k3.kept g hg hn
        have hXl := hTl X h3.inX
        have ks : ∀ g, g ≠ X → (W3.setCell ⟨X, 0, none⟩ (.int .i64 x.slot)).heap[g]? = W3.heap[g]? := fun g hg => heap_setCell_other _ _ _ _ hg
        have e3 := (kk B hWB htB).trans hbx
        have hno : ∀ g, w.heap.size ≤ g → ¬ (S g ∧ g ≠ mb) := fun g hg h => by have := hTl g h; omega
        refine ⟨e3, (kk _ (by omega) (hno _ (Nat.le_refl _))).trans hI.ptr, (ks B (by omega)).trans e3, hI.tld.keep (by have := k3.size; simp; omega) ((ks _ (by omega)).trans (kk _ (by omega) (hno _ (by omega)))) (fun g hg => ?_), fun w2' pv nv cv w6 hm => ?_⟩
        · have := hI.tld.own.lt g hg
          exact (ks g (by omega)).trans (kk g this.2 (hno _ (by omega)))
        · refine hI.more hTl h3 k3 ?_ hslot hm
          exact hI.rel.next (by
            show (leF p.l _).isSome = true
            rw [show p.ap + (pre.length : Int) + 1 = p.ap + 1 + (pre.length : Int) by omega, hlf]
            rfl) (by show p.ap + (pre.length : Int) + 1 ≤ MXi; omega) hp hh
      have HPL : Hid (pre.length + 1 ≤ 536870912) := (by have := HX.out.2.1; omega : pre.length + 1 ≤ 536870912)
      have cp : W.cell? ⟨w.heap.size, 0, none⟩ = some (.pointer (some ⟨X, 0, none⟩)) := by simp [World.cell?, hI.ptr]
      have HZW : Hid (w.heap.size + 2 ≤ W.heap.size) := hsz
      clear hslot hI hTl hz hpl hxe hlx hxm hlf hxs hWB hmem hle hnn hTI htB hsz hbx hnB hTW hBl hnl hl' hxx
      gi_wp2_with (refine ⟨trivial, fun h => absurd h (by decide), ?_⟩; gi_at_call 27; refine (CallsIn.inRound l' (callsIn_wide.2 HPop.out)).mono ?_; rintro e W3 ⟨⟨T3, x3, rfl⟩, ⟨v3, hs3, h3, k3, hp3, hh3⟩⟩; obtain ⟨e3, p3, e4, t4, fin⟩ := FIN3.out W3 hs3 v3 h3 k3 hp3 hh3; have y0 : W3.cell? ⟨w.heap.size, 0, none⟩ = some (.pointer (some ⟨X, 0, none⟩)) := (by simp [World.cell?, p3]); have y1 := e3.c 0 _ rfl; have y2 : W3.cell? ⟨X, 0, none⟩ = some (.int .i64 (p.ap + (pre.length : Int))) := h3.cell 0 _ rfl; have y3 := h3.fz 0; have E4 : Hid _ := e4; have T4 : Hid _ := t4; have FI : Hid _ := fin; clear e3 p3 e4 t4 fin h3 k3 hp3 hh3)
      obtain ⟨W4, hW4⟩ : ∃ W4, W4 = W3.setCell ⟨X, 0, none⟩ (.int .i64 x.slot) := ⟨_, rfl⟩
      have t4 := T4.out
      have e4 := E4.out
      have fin := FI.out
      rw [← hW4] at t4 e4 fin ⊢
      clear hW4 T4 E4 FI y0 y1 y2 y3 cp FIN3 HPop
      have hgr : ∀ w2, Below W4.heap.size W4 w2 → _ := fun w2 b2 => t4.grow x b2 HPL.out
      have HBl : Hid (w.heap.size + 1 < W4.heap.size) := by have := t4.sz; show _ < _; omega
      obtain ⟨ua, uc, hue⟩ := (OwnEn.row t4.own).form
      have cl : W4.cell? ⟨w.heap.size + 1, 0, none⟩ = some u := by simp [World.cell?, t4.box]
      obtain ⟨un, hun⟩ : ∃ un, un = pre.length := ⟨_, rfl⟩
      rw [← hun] at hue
      rw [hue] at cl fin hgr
      have HE : Hid (EnBx W4 B x) := e4
      have HGr : Hid _ := hgr
      have FIN : Hid _ := fin
      clear t4 e4 fin hgr hun hue
      refine wpIn_region_any mixed ?_
      change wpAnyIn _ _ _ _ _ _ _ _ _ W4.drew
      refine wpAnyIn_ready (rs := [0, 1]) (by kernel_rfl) (by simp) ?_
      refine AllReadyIn.cons rfl (fun K hK => ?_) ?_
      · go_simp
        refine hK _ _ ?_
        clear hK K
        try simp only [Act.put, List.setIfInBounds_toArray, List.set_cons_zero, List.set_cons_succ]
        refine wpAnyIn_ready (rs := [1]) (by kernel_rfl) (by simp) ?_
        refine AllReadyIn.cons rfl (fun K hK => ?_) ?_
        · refine stepIn_load rfl 30 _ rfl rfl (ld_en HE.out) ?_
          refine hK _ _ ?_
          clear hK K
          refine wpAnyIn_ready (rs := [2]) (by kernel_rfl) (by simp) ?_
          refine AllReadyIn.cons rfl (fun K hK => ?_) ?_
          · go_simp
            refine ⟨trivial, fun h => absurd h (by decide), ?_⟩; gi_at_call 22; refine (CallsIn.inRound l' (callsIn_wide.2 (lclone_any _ x HNm.out))).mono ?_; rintro r w2 ⟨rfl, b2⟩; obtain ⟨pv, nv, cv, w6, hr6, hm6⟩ := HGr.out w2 (undrew b2); have C6 : Hid _ := hm6; have R6 : Hid _ := hr6; have cl2 := ((undrew b2).cell (p := ⟨w.heap.size + 1, 0, none⟩) HBl.out).trans cl; have cl3 : (w2.alloc (.cells (enA x) 30)).cell? ⟨w.heap.size + 1, 0, none⟩ = _ := (((undrew b2).alloc (undrew b2).size (.cells (enA x) 30)).cell (p := ⟨w.heap.size + 1, 0, none⟩) HBl.out).trans cl; have c6 := hm6.cell; have f6 := hm6.froz; clear b2 hm6 hr6
            refine hK _ _ ?_
            clear hK K
            try simp only [Act.put, List.setIfInBounds_toArray, List.set_cons_zero, List.set_cons_succ]
            refine wpAnyIn_ready (rs := [3]) (by kernel_rfl) (by simp) ?_
            refine AllReadyIn.cons rfl (fun K hK => ?_) ?_
            · go_simp
              refine hK _ _ ?_
              clear hK K
              try simp only [Act.put, List.setIfInBounds_toArray, List.set_cons_zero, List.set_cons_succ]
              refine wpAnyIn_ready (rs := [4]) (by kernel_rfl) (by simp) ?_
              refine AllReadyIn.cons rfl (fun K hK => ?_) ?_
              · refine stepIn_append rfl (.tmp 31) (.tmp 34) 33 33 rfl rfl rfl R6.out ?_
                refine hK _ _ ?_
                clear hK K
                refine wpAnyIn_ready (rs := [5]) (by kernel_rfl) (by simp) ?_
                refine AllReadyIn.cons rfl (fun K hK => ?_) ?_
                · go_simp
                  refine hK _ _ ?_
                  clear hK K
                  refine wpAnyIn_done (by kernel_rfl) ?_ _
                  gi_wp2
                  obtain ⟨S9, k9, i9⟩ := FIN.out _ _ _ _ _ C6.out
                  exact ⟨S9, k9, _, _, _, i9⟩
                exact AllReadyIn.nil
              exact AllReadyIn.nil
            exact AllReadyIn.nil
          exact AllReadyIn.nil
        exact AllReadyIn.nil
      refine AllReadyIn.cons rfl (fun K hK => ?_) ?_
      · refine stepIn_load rfl 30 _ rfl rfl (ld_en HE.out) ?_
        refine hK _ _ ?_
        clear hK K
        refine wpAnyIn_ready (rs := [0, 2]) (by kernel_rfl) (by simp) ?_
        refine AllReadyIn.cons rfl (fun K hK => ?_) ?_
        · go_simp
          refine hK _ _ ?_
          clear hK K
          try simp only [Act.put, List.setIfInBounds_toArray, List.set_cons_zero, List.set_cons_succ]
          refine wpAnyIn_ready (rs := [2]) (by kernel_rfl) (by simp) ?_
          refine AllReadyIn.cons rfl (fun K hK => ?_) ?_
          · go_simp
            refine ⟨trivial, fun h => absurd h (by decide), ?_⟩; gi_at_call 22; refine (CallsIn.inRound l' (callsIn_wide.2 (lclone_any _ x HNm.out))).mono ?_; rintro r w2 ⟨rfl, b2⟩; obtain ⟨pv, nv, cv, w6, hr6, hm6⟩ := HGr.out w2 (undrew b2); have C6 : Hid _ := hm6; have R6 : Hid _ := hr6; have cl2 := ((undrew b2).cell (p := ⟨w.heap.size + 1, 0, none⟩) HBl.out).trans cl; have cl3 : (w2.alloc (.cells (enA x) 30)).cell? ⟨w.heap.size + 1, 0, none⟩ = _ := (((undrew b2).alloc (undrew b2).size (.cells (enA x) 30)).cell (p := ⟨w.heap.size + 1, 0, none⟩) HBl.out).trans cl; have c6 := hm6.cell; have f6 := hm6.froz; clear b2 hm6 hr6
            refine hK _ _ ?_
            clear hK K
            try simp only [Act.put, List.setIfInBounds_toArray, List.set_cons_zero, List.set_cons_succ]
            refine wpAnyIn_ready (rs := [3]) (by kernel_rfl) (by simp) ?_
            refine AllReadyIn.cons rfl (fun K hK => ?_) ?_
            · go_simp
              refine hK _ _ ?_
              clear hK K
              try simp only [Act.put, List.setIfInBounds_toArray, List.set_cons_zero, List.set_cons_succ]
              refine wpAnyIn_ready (rs := [4]) (by kernel_rfl) (by simp) ?_
              refine AllReadyIn.cons rfl (fun K hK => ?_) ?_
              · refine stepIn_append rfl (.tmp 31) (.tmp 34) 33 33 rfl rfl rfl R6.out ?_
                refine hK _ _ ?_
                clear hK K
                refine wpAnyIn_ready (rs := [5]) (by kernel_rfl) (by simp) ?_
                refine AllReadyIn.cons rfl (fun K hK => ?_) ?_
                · go_simp
                  refine hK _ _ ?_
                  clear hK K
                  refine wpAnyIn_done (by kernel_rfl) ?_ _
                  gi_wp2
                  obtain ⟨S9, k9, i9⟩ := FIN.out _ _ _ _ _ C6.out
                  exact ⟨S9, k9, _, _, _, i9⟩
                exact AllReadyIn.nil
              exact AllReadyIn.nil
            exact AllReadyIn.nil
          exact AllReadyIn.nil
        refine AllReadyIn.cons rfl (fun K hK => ?_) ?_
        · go_simp
          refine ⟨trivial, fun h => absurd h (by decide), ?_⟩; gi_at_call 22; refine (CallsIn.inRound l' (callsIn_wide.2 (lclone_any _ x HNm.out))).mono ?_; rintro r w2 ⟨rfl, b2⟩; obtain ⟨pv, nv, cv, w6, hr6, hm6⟩ := HGr.out w2 (undrew b2); have C6 : Hid _ := hm6; have R6 : Hid _ := hr6; have cl2 := ((undrew b2).cell (p := ⟨w.heap.size + 1, 0, none⟩) HBl.out).trans cl; have cl3 : (w2.alloc (.cells (enA x) 30)).cell? ⟨w.heap.size + 1, 0, none⟩ = _ := (((undrew b2).alloc (undrew b2).size (.cells (enA x) 30)).cell (p := ⟨w.heap.size + 1, 0, none⟩) HBl.out).trans cl; have c6 := hm6.cell; have f6 := hm6.froz; clear b2 hm6 hr6
          refine hK _ _ ?_
          clear hK K
          try simp only [Act.put, List.setIfInBounds_toArray, List.set_cons_zero, List.set_cons_succ]
          refine wpAnyIn_ready (rs := [0, 3]) (by kernel_rfl) (by simp) ?_
          refine AllReadyIn.cons rfl (fun K hK => ?_) ?_
          · go_simp
            refine hK _ _ ?_
            clear hK K
            try simp only [Act.put, List.setIfInBounds_toArray, List.set_cons_zero, List.set_cons_succ]
            refine wpAnyIn_ready (rs := [3]) (by kernel_rfl) (by simp) ?_
            refine AllReadyIn.cons rfl (fun K hK => ?_) ?_
            · go_simp
              refine hK _ _ ?_
              clear hK K
              try simp only [Act.put, List.setIfInBounds_toArray, List.set_cons_zero, List.set_cons_succ]
              refine wpAnyIn_ready (rs := [4]) (by kernel_rfl) (by simp) ?_
              refine AllReadyIn.cons rfl (fun K hK => ?_) ?_
              · refine stepIn_append rfl (.tmp 31) (.tmp 34) 33 33 rfl rfl rfl R6.out ?_
                refine hK _ _ ?_
                clear hK K
                refine wpAnyIn_ready (rs := [5]) (by kernel_rfl) (by simp) ?_
                refine AllReadyIn.cons rfl (fun K hK => ?_) ?_
                · go_simp
                  refine hK _ _ ?_
                  clear hK K
                  refine wpAnyIn_done (by kernel_rfl) ?_ _
                  gi_wp2
                  obtain ⟨S9, k9, i9⟩ := FIN.out _ _ _ _ _ C6.out
                  exact ⟨S9, k9, _, _, _, i9⟩
                exact AllReadyIn.nil
              exact AllReadyIn.nil
            exact AllReadyIn.nil
          refine AllReadyIn.cons rfl (fun K hK => ?_) ?_
          · go_simp
            refine hK _ _ ?_
            clear hK K
            try simp only [Act.put, List.setIfInBounds_toArray, List.set_cons_zero, List.set_cons_succ]
            refine wpAnyIn_ready (rs := [0]) (by kernel_rfl) (by simp) ?_
            refine AllReadyIn.cons rfl (fun K hK => ?_) ?_
            · go_simp
              refine hK _ _ ?_
              clear hK K
              try simp only [Act.put, List.setIfInBounds_toArray, List.set_cons_zero, List.set_cons_succ]
              refine wpAnyIn_ready (rs := [4]) (by kernel_rfl) (by simp) ?_
              refine AllReadyIn.cons rfl (fun K hK => ?_) ?_
              · refine stepIn_append rfl (.tmp 31) (.tmp 34) 33 33 rfl rfl rfl R6.out ?_
                refine hK _ _ ?_
                clear hK K
                refine wpAnyIn_ready (rs := [5]) (by kernel_rfl) (by simp) ?_
                refine AllReadyIn.cons rfl (fun K hK => ?_) ?_
                · go_simp
                  refine hK _ _ ?_
                  clear hK K
                  refine wpAnyIn_done (by kernel_rfl) ?_ _
                  gi_wp2
                  obtain ⟨S9, k9, i9⟩ := FIN.out _ _ _ _ _ C6.out
                  exact ⟨S9, k9, _, _, _, i9⟩
                exact AllReadyIn.nil
              exact AllReadyIn.nil
            exact AllReadyIn.nil
          exact AllReadyIn.nil
        exact AllReadyIn.nil
      exact AllReadyIn.nil
    case done =>
      rintro D W5 S5 hD hnD ⟨u, v', hs', hI⟩ k5 hdf
      obtain ⟨ua, uc, hue⟩ := (OwnEn.row hI.tld.own).form
      have cl : W5.cell? ⟨w.heap.size + 1, 0, none⟩ = some u := by simp [World.cell?, hI.tld.box]
      have HI : Hid _ := hI
      have HK5 : Hid _ := k5
      have HD : Hid (w2.heap.size ≤ D ∧ ¬ S5 D) := (show Hid _ from (⟨hD, hnD⟩ : _ ∧ _))
      have HTl : Hid _ := hTl
      have HB : Hid _ := b2w
      have HM2 : Hid _ := hM2
      have HMB : Hid (mb < w.heap.size) := hmb
      obtain ⟨un, hun⟩ : ∃ un, un = xs.length := ⟨_, rfl⟩
      rw [← hun] at hue
      have HUN : Hid (un = xs.length) := hun
      rw [hue] at cl HI
      clear hI k5 hD hnD hTl b2w hM2 hmb hun hue
      gi_wp2
      refine ⟨by simp, .inl ⟨_, _, rfl, run_takeDeferred hdf, ?_⟩⟩
      have hz := HZ.out
      have hS0 : ∀ g, g < w.heap.size → ¬ (S g ∧ g ≠ mb) → W5.heap[g]? = w2.heap[g]? := fun g hg hn => HK5.out.kept g (by omega) (fun h => by
        rcases h with h | h | h | h
        · omega
        · omega
        · exact hn h
        · simp [Value.ownBlock] at h)
      have hm5 : mKn.At W5 mb l := (show mKn.At w2 mb l from HM2.out).keep (hS0 mb HMB.out (fun h => h.2 rfl))
      have hL : LrAt W5 base X S (p.ap + (xs.length : Int)) F l hs' mb v' := HI.out.hp.lr hm5 (HA.out.1.lo mb HA.out.1.inM) (fun g => ⟨fun h => by
        by_cases e : g = mb
        · exact Or.inr e
        · exact Or.inl ⟨h, e⟩, fun h => by
        rcases h with h | rfl
        · exact h.1
        · exact HA.out.1.inM⟩)
      have hDl : ∀ g, g ≠ D → (W5.putObj D (.deferred none)).heap[g]? = W5.heap[g]? := fun g hg => World.putObj_heap_other hg
      have hDz := HD.out.1
      have hSl := HA.out.1.bd
      refine ⟨_, results_tmp rfl _ _ _, _, rfl, ⟨F, l, hs', mb, v', hL.keep (fun g hg => hDl g (by have := hSl g hg; omega)), HI.out.rel⟩, ?_, ?_, ?_⟩
      · have k := HK5.out
        have hb := B2.out.1
        have hb0 := B0.out.1
        refine ⟨k.os.trans (hb.os.trans hb0.os), k.tape.trans (hb.tape.trans hb0.tape), k.output.trans (hb.output.trans hb0.output), by have := k.size; simp; omega, fun _ hg => Or.inl hg, fun g hg hn => ?_⟩
        rw [hDl g (by omega), hS0 g hg (fun h => hn h.1), HB.out g (by omega), hb0.block g hg]
      · refine OwnEn.row (own_keep HI.out.tld.own fun g hg => hDl g (fun e => HD.out.2 ?_))
        rw [← e]
        exact (HI.out.set g).2 (Or.inr (Or.inr (Or.inr hg)))
      · intro bk off m c hm0 e
        have hb : (Value.slice ua un uc).ownBlock = some bk := by
          have e' : Value.slice ua un uc = .slice (some ⟨bk, off, none⟩) m c := e
          rw [e']
          rfl
        have := (HI.out.tld.own.lt bk hb).1
        exact ⟨by omega, fun h => by have := hSl bk h; omega⟩
end Go.Proofs.Ytnoappklbipdhaa
