/-
  Parts of the proof, laid together: LjMem, LgCode. The conditions stand at each part.
-/
import Derived.Deep.RegionHeld3
import Derived.Test.YthhlglbohibekaaSPackA
import Derived.Test.YthhlglbohibekaaSPackC
import Derived.Test.YthhlglbohibekaaSPackZ
namespace Go.Proofs.Ythhlglbohibekaa
open Go.RowKit

structure JAt (w : World) (base D : Nat) (S : Nat → Prop) (T : TypeId) (r : List Value) (l : List Int) : Prop where
  ex : ∃ v mo ks, w.heap[D]? = some (.cells (v :: Value.map mo :: r).toArray T (0, 0)) ∧ Slid intC 1 3 w v l ∧ (∀ g, v.ownBlock = some g → S g) ∧ SetO w mo ks ∧ (∀ M, mo = some M → S M) ∧ ks.Perm l
  sD : S D
  bd : ∀ b, S b → base ≤ b ∧ b < w.heap.size
  lo : ∀ x ∈ l, okI x
  ne : 3 ≠ T
section
variable {w w' : World} {base base' D : Nat} {S S' : Nat → Prop} {T : TypeId} {r : List Value} {l : List Int}
theorem JAt.keep (h : JAt w base D S T r l) (hs : w.heap.size ≤ w'.heap.size) (hk : ∀ b, S b → w'.heap[b]? = w.heap[b]?) : JAt w' base D S T r l := by
  obtain ⟨v, mo, ks, h1, h2, h3, h4, h5, h6⟩ := h.ex
  exact ⟨⟨v, mo, ks, (hk D h.sD).trans h1, h2.keep (fun g hg => hk g (h3 g hg)), h3, h4.keep (fun M hM => hk M (h5 M hM)), h5, h6⟩, h.sD, fun b hb => ⟨(h.bd b hb).1, Nat.lt_of_lt_of_le (h.bd b hb).2 hs⟩, h.lo, h.ne⟩
theorem JAt.fresh (h : JAt w base D S T r l) (k : Below w.heap.size w w') : JAt w' base D S T r l := h.keep k.size (fun b hb => k.block b (h.bd b hb).2)
theorem JAt.low (h : JAt w base D S T r l) (hb : base' ≤ base) : JAt w base' D S T r l := ⟨h.ex, h.sD, fun b hs => ⟨Nat.le_trans hb (h.bd b hs).1, (h.bd b hs).2⟩, h.lo, h.ne⟩
theorem JAt.base_le (h : JAt w base D S T r l) : base ≤ w.heap.size := by have := h.bd D h.sD; omega
theorem JAt.setC (h : JAt w base D S T r l) (i : Nat) (x : Value) : JAt (w.setCell ⟨D, i + 2, none⟩ x) base D S T (r.set i x) l ∧ Kept w (w.setCell ⟨D, i + 2, none⟩ x) S S := by
  obtain ⟨v, mo, ks, h1, h2, h3, h4, h5, h6⟩ := h.ex
  have ho : ∀ c, c ≠ D → (w.setCell ⟨D, i + 2, none⟩ x).heap[c]? = w.heap[c]? := fun c hc => heap_setCell_other _ _ _ _ (by simpa using hc)
  have e : (w.setCell ⟨D, i + 2, none⟩ x).heap[D]? = some (.cells (v :: Value.map mo :: r.set i x).toArray T (0, 0)) := by
    rw [heap_setCell_same w D (i + 2) _ _ _ h1]
    simp
  refine ⟨⟨⟨v, mo, ks, e, h2.keep (fun g hg => ho g (fun e => h2.ne h1 h.ne (by rw [hg, e]))), h3, h4.keep (fun M hM => ho M (fun e => ?_)), h5, h6⟩, h.sD, fun b hb => ⟨(h.bd b hb).1, by simpa using (h.bd b hb).2⟩, h.lo, h.ne⟩, ⟨rfl, rfl, rfl, by simp, fun _ hs => Or.inl hs, fun b _ hs => ho b (fun e => hs (by rw [e]; exact h.sD))⟩⟩
  rcases h4.ex with ⟨h7, _⟩ | ⟨M', h7, h8⟩
  · rw [hM] at h7
    cases h7
  · rw [hM] at h7
    cases h7
    exact h8.ne h1 e
theorem JAt.cell (h : JAt w base D S T r l) {i : Nat} {x : Value} (hx : r[i]? = some x) : w.cell? ⟨D, i + 2, none⟩ = some x ∧ w.frozen? ⟨D, i + 2, none⟩ = false := by
  obtain ⟨v, mo, ks, h1, _⟩ := h.ex
  exact ⟨by simp [World.cell?, h1, hx], by simp [World.frozen?, h1]⟩
theorem JAt.lt (h : JAt w base D S T r l) : D < w.heap.size := (h.bd D h.sD).2
set_option maxHeartbeats 3200000 in
set_option maxRecDepth 100000 in
theorem j_has (h : JAt w base D S T r l) (t : Int) (ht : okI t) : Calls Try.prog 113 #[.pointer (some ⟨D, 0, none⟩), .int .i64 t] w fun e w' => e = .returned (.bool (hasB l t)) ∧ Below w.heap.size w w' := by
  obtain ⟨v, mo, ks, h1, h2, h3, h4, h5, h6⟩ := h.ex
  obtain ⟨a, cap, rfl⟩ := h2.form
  have hl := h4.look (x := t) ht
  have e : decide (t ∈ ks) = hasB l t := by
    unfold hasB
    rw [Bool.eq_iff_iff, decide_eq_true_eq, decide_eq_true_eq]
    exact h6.mem_iff
  rw [e] at hl
  have c1 : w.cell? ⟨D, 1, none⟩ = some (.map mo) := by simp [World.cell?, h1]
  have HB : Hid _ := (Below.refl _ w).alloc (Nat.le_refl _) (.cells #[] 177)
  clear h1 h2 h3 h4 h5 h6 h e
  go_enter Try.func113, Try.ntmps113
  go_wp2
  go_ret
  exact ⟨rfl, HB.out⟩
theorem jjoin_fin {w3 : World} {M : Nat} {v : Value} {ks : List Int} (h : JAt w base D S T r l) (t : Int) (ht : okI t) (hD : w3.heap[D]? = some (.cells (v :: Value.map (some M) :: r).toArray T (0, 0))) (hs : Slid intC 1 3 w3 v l) (hv : ∀ g, v.ownBlock = some g → S g) (hm : SetAt w3 M (ks ++ [t])) (hM : S M ∨ w.heap.size ≤ M) (hp : ks.Perm l)
    (k3 : Kept w w3 S (fun b => S b ∨ w.heap.size ≤ b ∧ b < w3.heap.size)) (o : Obj) (u : Value) (w5 : World) (h5 : Slid intC 1 3 w5 u (l ++ [t])) (g5 : (w3.alloc o).grownBy w5 v.ownBlock) (l5 : u.ownBlock = v.ownBlock ∨ u.ownBlock = some (w3.heap.size + 1)) :
    ∃ S', JAt (w5.setCell ⟨D, 0, none⟩ u) base D S' T r (l ++ [t]) ∧ Kept w (w5.setCell ⟨D, 0, none⟩ u) S S' := by
  have ho : ∀ b, b ≠ D → (w5.setCell ⟨D, 0, none⟩ u).heap[b]? = w5.heap[b]? := fun b hb => heap_setCell_other _ _ _ _ (by simpa using hb)
  have hDl := lt_of_block hD
  have hvD : v.ownBlock ≠ some D := hs.ne hD h.ne
  have hal : ∀ b, b < w3.heap.size → (w3.alloc o).heap[b]? = w3.heap[b]? := fun b hb => Below.heap_alloc w3 o b hb
  have hsz5 : w3.heap.size + 1 ≤ w5.heap.size := by have := g5.size; simpa using this
  have hD5 : w5.heap[D]? = some (.cells (v :: Value.map (some M) :: r).toArray T (0, 0)) := by
    rw [g5.block D (by simp; omega) (fun e => hvD e.symm), hal D hDl, hD]
  have hD6 : (w5.setCell ⟨D, 0, none⟩ u).heap[D]? = some (.cells (u :: Value.map (some M) :: r).toArray T (0, 0)) := by
    rw [heap_setCell_same w5 D 0 _ _ _ hD5]
    simp
  have hMv : v.ownBlock ≠ some M := fun e => by
    obtain ⟨cur, hb⟩ := hs.block e
    exact hm.ne hb rfl
  have hMl := hm.lt
  have hM5 : w5.heap[M]? = w3.heap[M]? := by
    rw [g5.block M (by simp; omega) (fun e => hMv e.symm), hal M hMl]
  have huD : u.ownBlock ≠ some D := h5.ne hD5 h.ne
  have hsw := k3.size
  refine ⟨fun b => S b ∨ w.heap.size ≤ b ∧ b < w5.heap.size, ⟨⟨u, some M, ks ++ [t], hD6, h5.keep (fun g hg => ho g (fun e => huD (by rw [hg, e]))), fun g hg => ?_, SetO.some ((hm.keep hM5).keep (ho M (hm.ne hD))), fun M' e => ?_, List.Perm.append_right _ hp⟩, Or.inl h.sD, fun b hb => ?_, fun p hp => ?_, h.ne⟩, ?_⟩
  · have hlt := h5.lt hg
    rcases l5 with l5 | l5
    · exact Or.inl (hv g (by rw [← l5]; exact hg))
    · rw [hg] at l5
      have := Option.some.inj l5
      exact Or.inr ⟨by omega, hlt⟩
  · cases e
    exact hM.imp id (fun h => ⟨h, by omega⟩)
  · rcases hb with hb | hb
    · have := h.bd b hb
      exact ⟨this.1, by simp; omega⟩
    · have := h.base_le
      exact ⟨by omega, by simpa using hb.2⟩
  · rcases List.mem_append.1 hp with hp | hp
    · exact h.lo p hp
    · rw [List.mem_singleton] at hp
      rw [hp]
      exact ht
  · refine ⟨by rw [← k3.os]; exact g5.os, by rw [← k3.tape]; exact g5.tape, by rw [← k3.output]; exact g5.output, by simp; omega, fun b hb => hb.imp id (fun h => h.1), fun b hb hn => ?_⟩
    rw [ho b (fun e => hn (by rw [e]; exact h.sD)), g5.block b (by simp; omega) (fun e => hn (hv b e.symm)), hal b (by omega), k3.kept b hb hn]
set_option maxHeartbeats 6400000 in
set_option maxRecDepth 100000 in
theorem j_join (h : JAt w base D S T r l) (t : Int) (ht : okI t) (hn : hasB l t = false) (hq : l.length < 65536) :
    Calls Try.prog 114 #[.pointer (some ⟨D, 0, none⟩), .int .i64 t] w fun e w' => e = .returned (.tuple #[]) ∧ ∃ S', JAt w' base D S' T r (l ++ [t]) ∧ Kept w w' S S' := by
  obtain ⟨i0, hi, hz0, hz1, hz2⟩ := info_parts infoI
  obtain ⟨v, mo, ks, h1, h2, h3, h4, h5, h6⟩ := h.ex
  obtain ⟨a, cap, rfl⟩ := h2.form
  have hnk : t ∉ ks := fun e => by
    have := h6.mem_iff.1 e
    unfold hasB at hn
    exact of_decide_eq_false hn this
  have hkl : ks.length < maxLen := by
    have := h6.length_eq
    unfold maxLen
    omega
  have hD := lt_of_block h1
  have hvD : Value.ownBlock (.slice a l.length cap) ≠ some D := h2.ne h1 h.ne
  have c0 : w.cell? ⟨D, 0, none⟩ = some (.slice a l.length cap) := by simp [World.cell?, h1]
  have c1 : w.cell? ⟨D, 1, none⟩ = some (.map mo) := by simp [World.cell?, h1]
  have f0 : w.frozen? ⟨D, 0, none⟩ = false := by simp [World.frozen?, h1]
  have f1 : w.frozen? ⟨D, 1, none⟩ = false := by simp [World.frozen?, h1]
  have HC : Hid _ := h
  have H2 : Hid _ := h2
  have H3 : Hid _ := h3
  have H6 : Hid _ := h6
  rcases h4.ex with ⟨rfl, rfl⟩ | ⟨M, rfl, h7⟩
  · have hmk := @run_makeMap Try.prog
    have heq := map_is_nil
    have e1 : ((w.alloc (.map #[] 0)).setCell ⟨D, 1, none⟩ (.map (some w.heap.size))).heap[D]? = some (.cells (Value.slice a l.length cap :: Value.map (some w.heap.size) :: r).toArray T (0, 0)) := by
      rw [heap_setCell_same _ D 1 _ _ _ ((Below.heap_alloc w _ D hD).trans h1)]
      simp
    have z1 : ((w.alloc (.map #[] 0)).setCell ⟨D, 1, none⟩ (.map (some w.heap.size))).cell? ⟨D, 1, none⟩ = some (.map (some w.heap.size)) := by simp [World.cell?, e1]
    have z2 : (w.alloc (.map #[] 0)).cell? ⟨D, 1, none⟩ = some (.map none) := (World.cell?_of_block (a := ⟨D, 1, none⟩) (Below.heap_alloc w _ D hD)).trans c1
    have z3 : (w.alloc (.map #[] 0)).frozen? ⟨D, 1, none⟩ = false := (World.frozen?_of_block (a := ⟨D, 1, none⟩) (Below.heap_alloc w _ D hD)).trans f1
    have ho : ∀ b, b ≠ D → ((w.alloc (.map #[] 0)).setCell ⟨D, 1, none⟩ (.map (some w.heap.size))).heap[b]? = (w.alloc (.map #[] 0)).heap[b]? := fun b hb => heap_setCell_other _ _ _ _ (by simpa using hb)
    have hst := (set_new w).keep (ho w.heap.size (by omega))
    obtain ⟨w3, hup, hs3, hg3, hz3⟩ := set_put hst ht (by unfold maxLen; simp) hnk
    have hb3 : ∀ b, b ≠ w.heap.size → b ≠ D → b < w.heap.size → w3.heap[b]? = w.heap[b]? := fun b hb1 hb2 hb3 => by
      rw [hg3.block b (by simp; omega) (fun e => hb1 (Option.some.inj e)), ho b hb2, Below.heap_alloc w _ b hb3]
    have hD3 : w3.heap[D]? = some (.cells (Value.slice a l.length cap :: Value.map (some w.heap.size) :: r).toArray T (0, 0)) := by
      rw [hg3.block D (by simp; omega) (fun e => by have := Option.some.inj e; omega), e1]
    have hS3 : Slid intC 1 3 w3 (.slice a l.length cap) l := h2.keep (fun g hg => hb3 g (by have := h2.lt hg; omega) (fun e => hvD (by rw [hg, e])) (h2.lt hg))
    have hsz : w3.heap.size = w.heap.size + 1 := by rw [hz3]; simp
    have K3 : Kept w w3 S (fun b => S b ∨ w.heap.size ≤ b ∧ b < w3.heap.size) := ⟨hg3.os, hg3.tape, hg3.output, by omega, fun b hb => hb.imp id (fun h => h.1), fun b hb hn => hb3 b (by omega) (fun e => hn (by rw [e]; exact h.sD)) hb⟩
    clear e1 ho hst hb3 hsz h4
    have y0 : w3.cell? ⟨D, 0, none⟩ = some (.slice a l.length cap) := by simp [World.cell?, hD3]
    have x0 : w3.frozen? ⟨D, 0, none⟩ = false := by simp [World.frozen?, hD3]
    have hD3l := lt_of_block hD3
    have FIN : Hid _ := fun (o : Obj) (u : Value) (w5 : World) => jjoin_fin (w3 := w3) h t ht hD3 hS3 h3 hs3 (Or.inr (Nat.le_refl _)) h6 K3 o u w5
    have HS3 : Hid _ := hS3
    have HD3 : Hid _ := hD3
    have HVD : Hid _ := hvD
    have fin : ∀ (o : Obj) (w5 : World), (w3.alloc o).grownBy w5 (Value.ownBlock (.slice a l.length cap)) → w5.cell? ⟨D, 0, none⟩ = some (.slice a l.length cap) ∧ w5.frozen? ⟨D, 0, none⟩ = false := fun o w5 g5 => by
      have e5 : w5.heap[D]? = some (.cells (Value.slice a l.length cap :: Value.map (some w.heap.size) :: r).toArray T (0, 0)) := by
        rw [g5.block D (by simp; omega) (fun e => hvD e.symm), Below.heap_alloc w3 o D hD3l, hD3]
      exact ⟨by simp [World.cell?, e5], by simp [World.frozen?, e5]⟩
    have FIN2 : Hid _ := fin
    clear fin h h1 h2 h3 h6 hD3 hS3 hs3 hg3 hz3 K3 hn hnk hkl hvD hD
    go_enter Try.func114, Try.ntmps114
    go_wp2_with (at_builtin; refine wpList_app_slid (v := .slice a l.length cap) (k := 1) (enc := intC) (l := l) (m := [t]) rfl (.tmp 23) (.tmp 25) 23 rfl i0 _ 8 Try.underlying23 hi hz0 hz1 hz2 rfl intC_len intC_one rfl (HS3.out.keep (fun g hg => Below.heap_alloc w3 _ g (HS3.out.lt hg))) ⟨w3.heap.size, 0, none⟩ 1 1 rfl rfl (by exact World.news_of_block (heap_alloc_new w3 _)) (by simp) (by unfold maxLen; simp; omega) (by simp; omega) ?_; intro u5 w5 h5 g5 l5; obtain ⟨y5, x5⟩ := FIN2.out _ w5 g5; obtain ⟨p5, n5, rfl⟩ : ∃ p n, u5 = .slice p (l.length + 1) n := (by obtain ⟨a, c, e⟩ := h5.form; exact ⟨a, c, by rw [e]; simp⟩))
    go_returns
    exact ⟨rfl, FIN.out _ _ _ h5 g5 (by simpa using l5)⟩
  · have heq := map_no_nil M
    obtain ⟨w3, hup, hs3, hg3, hz3⟩ := set_put h7 ht hkl hnk
    have hMD : M ≠ D := h7.ne h1
    have hMv : Value.ownBlock (.slice a l.length cap) ≠ some M := fun e => by
      obtain ⟨cur, hb⟩ := h2.block e
      exact h7.ne hb rfl
    have hb3 : ∀ b, b ≠ M → b < w.heap.size → w3.heap[b]? = w.heap[b]? := fun b hb1 hb2 => hg3.block b hb2 (fun e => hb1 (Option.some.inj e))
    have hD3 : w3.heap[D]? = some (.cells (Value.slice a l.length cap :: Value.map (some M) :: r).toArray T (0, 0)) := (hb3 D (fun e => hMD e.symm) hD).trans h1
    have hS3 : Slid intC 1 3 w3 (.slice a l.length cap) l := h2.keep (fun g hg => hb3 g (fun e => hMv (by rw [hg, e])) (h2.lt hg))
    have K3 : Kept w w3 S (fun b => S b ∨ w.heap.size ≤ b ∧ b < w3.heap.size) := ⟨hg3.os, hg3.tape, hg3.output, by omega, fun b hb => hb.imp id (fun h => h.1), fun b hb hn => hb3 b (fun e => hn (by rw [e]; exact h5 M rfl)) hb⟩
    have hM5 := h5 M rfl
    clear h4 h7 h5 hMD hMv hb3
    have y0 : w3.cell? ⟨D, 0, none⟩ = some (.slice a l.length cap) := by simp [World.cell?, hD3]
    have x0 : w3.frozen? ⟨D, 0, none⟩ = false := by simp [World.frozen?, hD3]
    have hD3l := lt_of_block hD3
    have FIN : Hid _ := fun (o : Obj) (u : Value) (w5 : World) => jjoin_fin (w3 := w3) h t ht hD3 hS3 h3 hs3 (Or.inl hM5) h6 K3 o u w5
    have HS3 : Hid _ := hS3
    have HD3 : Hid _ := hD3
    have HVD : Hid _ := hvD
    have fin : ∀ (o : Obj) (w5 : World), (w3.alloc o).grownBy w5 (Value.ownBlock (.slice a l.length cap)) → w5.cell? ⟨D, 0, none⟩ = some (.slice a l.length cap) ∧ w5.frozen? ⟨D, 0, none⟩ = false := fun o w5 g5 => by
      have e5 : w5.heap[D]? = some (.cells (Value.slice a l.length cap :: Value.map (some M) :: r).toArray T (0, 0)) := by
        rw [g5.block D (by simp; omega) (fun e => hvD e.symm), Below.heap_alloc w3 o D hD3l, hD3]
      exact ⟨by simp [World.cell?, e5], by simp [World.frozen?, e5]⟩
    have FIN2 : Hid _ := fin
    clear fin h h1 h2 h3 h6 hD3 hS3 hs3 hg3 hz3 K3 hn hnk hkl hvD hD
    go_enter Try.func114, Try.ntmps114
    go_wp2_with (at_builtin; refine wpList_app_slid (v := .slice a l.length cap) (k := 1) (enc := intC) (l := l) (m := [t]) rfl (.tmp 23) (.tmp 25) 23 rfl i0 _ 8 Try.underlying23 hi hz0 hz1 hz2 rfl intC_len intC_one rfl (HS3.out.keep (fun g hg => Below.heap_alloc w3 _ g (HS3.out.lt hg))) ⟨w3.heap.size, 0, none⟩ 1 1 rfl rfl (by exact World.news_of_block (heap_alloc_new w3 _)) (by simp) (by unfold maxLen; simp; omega) (by simp; omega) ?_; intro u5 w5 h5 g5 l5; obtain ⟨y5, x5⟩ := FIN2.out _ w5 g5; obtain ⟨p5, n5, rfl⟩ : ∃ p n, u5 = .slice p (l.length + 1) n := (by obtain ⟨a, c, e⟩ := h5.form; exact ⟨a, c, by rw [e]; simp⟩))
    go_returns
    exact ⟨rfl, FIN.out _ _ _ h5 g5 (by simpa using l5)⟩
theorem info_queue : (Try.prog.info? 150).map (·.size) = some 2 := by kernel_rfl
theorem wpList_store_two {ops : Array Oper} {rest : List Oper} {o : Oper} {a : Act} {Q : Exit → Act → World → Prop} {w : World} (hgd : o.guard = none) (x y : Operand) (ho : o.op = .store 150 x y) (g : Nat) (p q p' q' : Value) (r : List Value) (hx : a.eval x = .pointer (some ⟨g, 0, none⟩)) (hy : a.eval y = .agg #[p, q]) (t : TypeId) (hg : w.heap[g]? = some (.cells (p' :: q' :: r).toArray t (0, 0))) (h1 : p.oneCell' = true) (h2 : q.oneCell' = true)
    (h : ∀ w', w'.heap[g]? = some (.cells (p :: q :: r).toArray t (0, 0)) → w.grownBy w' (some g) → w'.heap.size = w.heap.size → wpList Try.prog ops Q rest (a.put o.dst undef) w') : wpList Try.prog ops Q (o :: rest) a w :=
  wpList_plain hgd fun _ hK => by
    have hz : ∀ w, (sizeOf 150).run Try.prog w = .ok 2 w := fun w => by
      have := info_queue
      cases hi : Try.prog.info? 150 with
      | none => rw [hi] at this; cases this
      | some i =>
        rw [hi] at this
        simp only [Option.map_some, Option.some.injEq] at this
        simp [sizeOf, typeInfo, hi, this]
    have hst := run_storeCells_at Try.prog g 0 t [p, q] 0 _ w hg (by simp) (by simp [h1, h2])
    have e : ((p' :: q' :: r).toArray.toList.take (0 + 0) ++ [p, q] ++ (p' :: q' :: r).toArray.toList.drop (0 + 0 + [p, q].length)).toArray = (p :: q :: r).toArray := by simp
    rw [e] at hst
    unfold Oper.wp execOp
    simp [ho, hx, hy, Instr.storeAt, Instr.sureAddr, storeVar, Value.cells, hz, hst]
    exact hK _ _ (h _ (setRow_heap w g _ _ t _ hg) (grown_setRow_g w g _) (by simp))
set_option maxHeartbeats 3200000 in
set_option maxRecDepth 100000 in
theorem j_leave (h : JAt w base D S T r l) : Calls Try.prog 115 #[.pointer (some ⟨D, 0, none⟩)] w fun e w' => ∃ u, e = .returned u ∧ RowAt intC w' u l ∧ ∃ S', JAt w' base D S' T r [] ∧ Kept w w' S S' ∧ ∀ bk off m cap, 0 < m → u = .slice (some ⟨bk, off, none⟩) m cap → S bk ∧ ¬ S' bk := by
  obtain ⟨v, mo, ks, h1, h2, h3, h4, h5, h6⟩ := h.ex
  have hvD := h2.ne h1 h.ne
  have fin : ∀ w' : World, w'.heap[D]? = some (.cells (Value.slice none 0 0 :: Value.map none :: r).toArray T (0, 0)) → w.grownBy w' (some D) → w'.heap.size = w.heap.size → RowAt intC w' v l ∧ ∃ S', JAt w' base D S' T r [] ∧ Kept w w' S S' ∧ ∀ bk off m cap, 0 < m → v = .slice (some ⟨bk, off, none⟩) m cap → S bk ∧ ¬ S' bk := fun w' e1 e2 e3 => by
    refine ⟨(h2.row intC_len).keep (by omega) (fun bk off n cap _ e => e2.block bk (h2.lt (g := bk) (by rw [e]; rfl)) (fun e4 => hvD (by rw [e]; exact e4))), fun b => S b ∧ v.ownBlock ≠ some b, ⟨⟨_, none, [], e1, Slid.nil _, fun g hg => (by simp [Value.ownBlock] at hg), SetO.nil _, fun M e => (by cases e), List.Perm.refl _⟩, ⟨h.sD, hvD⟩, fun b hb => ?_, fun x hx => (by cases hx), h.ne⟩, ⟨e2.os, e2.tape, e2.output, by omega, fun b hb => Or.inl hb.1, fun b hb hn => e2.block b hb (fun e => hn (by cases e; exact h.sD))⟩, fun bk off m cap _ e => ?_⟩
    · have := h.bd b hb.1
      exact ⟨this.1, by omega⟩
    · exact ⟨h3 bk (by rw [e]; rfl), fun e4 => e4.2 (by rw [e]; rfl)⟩
  obtain ⟨a, cap, rfl⟩ := h2.form
  have c0 : w.cell? ⟨D, 0, none⟩ = some (.slice a l.length cap) := by simp [World.cell?, h1]
  have H1 : Hid _ := h1
  have FIN : Hid _ := fin
  clear h1 h2 h3 h4 h5 h6 h hvD fin
  go_enter Try.func115, Try.ntmps115
  go_wp2_with (refine wpList_store_two rfl _ _ rfl D (.slice none 0 0) (.map none) _ _ r rfl rfl T H1.out rfl rfl ?_; intro w1 e1 e2 e3)
  go_ret
  exact ⟨_, rfl, FIN.out w1 e1 e2 e3⟩
end
end Go.Proofs.Ythhlglbohibekaa
namespace Go.Proofs.Ythhlglbohibekaa
open Go.RowKit

structure PGr (w : World) (base D : Nat) (S : Nat → Prop) (n : Int) (l : List Int) : Prop where
  q : JAt w base D S 152 [.int .i64 n] l
  len : l.length ≤ 65536
  pos : 0 ≤ n
structure POn (w : World) (base D : Nat) (S : Nat → Prop) (who : Int) (ov : Bool) (l : List Int) : Prop where
  ex : ∃ b, JAt w base D S 154 [.bool (decide (0 ≤ who)), .bool ov, .int .i64 b] l ∧ (0 ≤ who → b = who)
  no : who < 0 → who = -1
  ov : 0 ≤ who → ov = false
  len : l.length ≤ 65536
def Handed (w : World) (S S' : Nat → Prop) (u : Value) : Prop := ∀ bk off m cap, 0 < m → u = .slice (some ⟨bk, off, none⟩) m cap → (S bk ∨ w.heap.size ≤ bk) ∧ ¬ S' bk
theorem Handed.nil (w : World) (S S' : Nat → Prop) : Handed w S S' (.slice none 0 0) := fun _ _ _ _ _ e => (by simp at e)
section
variable {w w' : World} {base base' D : Nat} {S S' : Nat → Prop} {n who : Int} {ov : Bool} {l : List Int}
theorem PGr.sD (h : PGr w base D S n l) : S D := h.q.sD
theorem PGr.bd (h : PGr w base D S n l) : ∀ b, S b → base ≤ b ∧ b < w.heap.size := h.q.bd
theorem PGr.keep (h : PGr w base D S n l) (hs : w.heap.size ≤ w'.heap.size) (hk : ∀ b, S b → w'.heap[b]? = w.heap[b]?) : PGr w' base D S n l := ⟨h.q.keep hs hk, h.len, h.pos⟩
theorem PGr.low (h : PGr w base D S n l) (hb : base' ≤ base) : PGr w base' D S n l := ⟨h.q.low hb, h.len, h.pos⟩
theorem PGr.fresh (h : PGr w base D S n l) (k : Below w.heap.size w w') : PGr w' base D S n l := h.keep k.size (fun b hb => k.block b (h.bd b hb).2)
theorem POn.sD (h : POn w base D S who ov l) : S D := by
  obtain ⟨_, h, _⟩ := h.ex
  exact h.sD
theorem POn.bd (h : POn w base D S who ov l) : ∀ b, S b → base ≤ b ∧ b < w.heap.size := by
  obtain ⟨_, h, _⟩ := h.ex
  exact h.bd
theorem POn.keep (h : POn w base D S who ov l) (hs : w.heap.size ≤ w'.heap.size) (hk : ∀ b, S b → w'.heap[b]? = w.heap[b]?) : POn w' base D S who ov l := by
  obtain ⟨b, h1, h2⟩ := h.ex
  exact ⟨⟨b, h1.keep hs hk, h2⟩, h.no, h.ov, h.len⟩
theorem POn.low (h : POn w base D S who ov l) (hb : base' ≤ base) : POn w base' D S who ov l := by
  obtain ⟨b, h1, h2⟩ := h.ex
  exact ⟨⟨b, h1.low hb, h2⟩, h.no, h.ov, h.len⟩
theorem POn.fresh (h : POn w base D S who ov l) (k : Below w.heap.size w w') : POn w' base D S who ov l := h.keep k.size (fun b hb => k.block b (h.bd b hb).2)
theorem pg_new (w : World) : Calls Try.prog 72 #[] w fun e w' => ∃ D S, e = .returned (.pointer (some ⟨D, 0, none⟩)) ∧ PGr w' w.heap.size D S 0 [] ∧ Below w.heap.size w w' := by
  have H1 : Hid _ := heap_alloc_new w (.cells #[.slice none 0 0, .map none, .int .i64 0] 152)
  have B1 : Hid _ := (Below.refl _ w).alloc (Nat.le_refl _) (.cells #[.slice none 0 0, .map none, .int .i64 0] 152)
  go_enter Try.func72, Try.ntmps72
  go_wp2
  go_ret
  refine ⟨w.heap.size, fun b => b = w.heap.size, rfl, ⟨⟨⟨.slice none 0 0, none, [], H1.out, Slid.nil _, fun g hg => (by simp [Value.ownBlock] at hg), SetO.nil _, fun M e => (by cases e), List.Perm.refl _⟩, rfl, fun b hb => ⟨by omega, by simp; omega⟩, fun p hp => (by cases hp), by decide⟩, Nat.zero_le _, Int.le_refl _⟩, B1.out⟩
theorem po_new (w : World) : Calls Try.prog 73 #[] w fun e w' => ∃ D S, e = .returned (.pointer (some ⟨D, 0, none⟩)) ∧ POn w' w.heap.size D S (-1) false [] ∧ Below w.heap.size w w' := by
  have H1 : Hid _ := heap_alloc_new w (.cells #[.slice none 0 0, .map none, .bool false, .bool false, .int .i64 0] 154)
  have B1 : Hid _ := (Below.refl _ w).alloc (Nat.le_refl _) (.cells #[.slice none 0 0, .map none, .bool false, .bool false, .int .i64 0] 154)
  go_enter Try.func73, Try.ntmps73
  go_wp2
  go_ret
  refine ⟨w.heap.size, fun b => b = w.heap.size, rfl, ⟨⟨0, ⟨⟨.slice none 0 0, none, [], H1.out, Slid.nil _, fun g hg => (by simp [Value.ownBlock] at hg), SetO.nil _, fun M e => (by cases e), List.Perm.refl _⟩, rfl, fun b hb => ⟨by omega, by simp; omega⟩, fun p hp => (by cases hp), by decide⟩, fun h => absurd h (by decide)⟩, fun _ => rfl, fun h => absurd h (by decide), Nat.zero_le _⟩, B1.out⟩
set_option maxHeartbeats 6400000 in
set_option maxRecDepth 100000 in
theorem pg_wait (h : PGr w base D S n l) (t : Int) (ht : okI t) (hl : l.length < 65536) : Calls Try.prog 111 #[.pointer (some ⟨D, 0, none⟩), .int .i64 t] w fun e w' => e = .returned (.tuple #[.bool (gWB n l t), .int .i64 (gWZ l t)]) ∧ ∃ S', PGr w' base D S' n (gWL n l t) ∧ Kept w w' S S' := by
  have H : Hid (PGr w base D S n l) := h
  by_cases h1 : t < 0
  · have e1 : gWZ l t = 1 := by unfold gWZ; rw [if_pos h1]
    have e2 : gWB n l t = false := by unfold gWB; rw [e1]; rfl
    have e3 : gWL n l t = l := by unfold gWL; rw [e1, if_neg (by simp)]
    rw [e1, e2, e3]
    have q1 : decide (t < 0) = true := decide_eq_true h1
    clear h e1 e2 e3 h1
    go_enter Try.func111, Try.ntmps111
    go_wp2
    go_ret2
    exact ⟨rfl, S, H.out, Kept.refl _ _⟩
  have q1 : decide (t < 0) = false := decide_eq_false h1
  have hh := j_has h.q t ht
  have hD := h.q.lt
  obtain ⟨c2, f2⟩ := h.q.cell (i := 0) rfl
  cases hb : hasB l t with
  | true =>
    have e1 : gWZ l t = 12 := by unfold gWZ; rw [if_neg h1, if_pos (by unfold hasB at hb; simpa using hb)]
    have e2 : gWB n l t = false := by unfold gWB; rw [e1]; rfl
    have e3 : gWL n l t = l := by unfold gWL; rw [e1, if_neg (by simp)]
    rw [e1, e2, e3]
    rw [hb] at hh
    clear h e1 e2 e3 h1 hb
    go_enter Try.func111, Try.ntmps111
    go_wp2_with (go_at_call 113; refine hh.mono ?_; rintro e w1 ⟨rfl, b1⟩)
    go_ret2
    exact ⟨rfl, S, H.out.fresh b1, Kept.of b1⟩
  | false =>
    have e1 : gWZ l t = 0 := by unfold gWZ; rw [if_neg h1, if_neg (by unfold hasB at hb; simpa using hb)]
    by_cases h0 : n = 0
    · have e2 : gWB n l t = true := by unfold gWB; rw [e1, h0]; rfl
      have e3 : gWL n l t = l := by unfold gWL; rw [if_neg (fun e => e.2 h0)]
      rw [e1, e2, e3]
      rw [hb] at hh
      subst h0
      clear h e1 e2 e3 h1 hb
      go_enter Try.func111, Try.ntmps111
      go_wp2_with (go_at_call 113; refine hh.mono ?_; rintro e w1 ⟨rfl, b1⟩; have z2 := (b1.cell (p := ⟨D, 2, none⟩) (by exact hD)).trans c2)
      go_ret2
      exact ⟨rfl, S, H.out.fresh b1, Kept.of b1⟩
    · have e2 : gWB n l t = false := by unfold gWB; exact decide_eq_false (fun e => h0 e.2)
      have e3 : gWL n l t = l ++ [t] := by unfold gWL; rw [if_pos ⟨e1, h0⟩]
      rw [e1, e2, e3]
      have q2 : decide (0 < n) = true := decide_eq_true (by have := h.pos; omega)
      have hj : ∀ w1 : World, Below w.heap.size w w1 → Calls Try.prog 114 #[.pointer (some ⟨D, 0, none⟩), .int .i64 t] w1 fun e w' => e = .returned (.tuple #[]) ∧ ∃ S', PGr w' base D S' n (l ++ [t]) ∧ Kept w w' S S' := fun w1 b1 =>
        (j_join (h.q.fresh b1) t ht hb hl).mono (fun e w' ⟨h5, S', h6, h7⟩ => ⟨h5, S', ⟨h6, by rw [List.length_append]; simp; omega, h.pos⟩, (Kept.of b1).trans h7⟩)
      rw [hb] at hh
      have HJ : Hid _ := hj
      clear h e1 e2 e3 h1 hb h0 hj
      go_enter Try.func111, Try.ntmps111
      go_wp2_with (first
        | (go_at_call 114; refine (HJ.out _ b1).mono ?_; rintro e w2 ⟨rfl, S2, hp2, hk2⟩)
        | (go_at_call 113; refine hh.mono ?_; rintro e w1 ⟨rfl, b1⟩; have z2 := (b1.cell (p := ⟨D, 2, none⟩) (by exact hD)).trans c2))
      go_ret2
      exact ⟨rfl, S2, hp2, hk2⟩
set_option maxHeartbeats 6400000 in
set_option maxRecDepth 100000 in
theorem pg_add (h : PGr w base D S n l) (k : Int) (_hk : okI k) (hn : 0 ≤ n ∧ n ≤ 1073741824) (_hl : l.length ≤ 65536) : Calls Try.prog 112 #[.pointer (some ⟨D, 0, none⟩), .int .i64 k] w fun e w' => ∃ u, e = .returned (.tuple #[u, .int .i64 (gAZ n k)]) ∧ RowAt intC w' u (gAO n l k) ∧ ∃ S', PGr w' base D S' (gAN n k) (gAL n l k) ∧ Kept w w' S S' ∧ Handed w S S' u := by
  obtain ⟨c2, f2⟩ := h.q.cell (i := 0) rfl
  have H : Hid (PGr w base D S n l) := h
  have hnil : Hid (RowAt intC w (.slice none 0 0) []) := RowAt.nil w
  have q4 : IntKind.i64.wrap (n + k) = n + k ∨ ¬ (-1073741824 ≤ k ∧ k ≤ 1073741824) := by
    by_cases hc : -1073741824 ≤ k ∧ k ≤ 1073741824
    · exact Or.inl (by rw [IntKind.wrap_i64]; omega)
    · exact Or.inr hc
  have q5 : IntKind.i64.wrap (1073741824 - n) = 1073741824 - n := by rw [IntKind.wrap_i64]; omega
  have q6 : IntKind.i64.wrap (-n) = -n := by rw [IntKind.wrap_i64]; omega
  by_cases h1 : 1073741824 < k ∨ k < -1073741824 ∨ 1073741824 < n + k
  · have e1 : gAZ n k = 15 := by unfold gAZ; rw [if_pos h1]
    have e2 : gAO n l k = [] := by unfold gAO; rw [e1, if_neg (by simp)]
    have e3 : gAN n k = n := by unfold gAN; rw [e1, if_neg (by simp)]
    have e4 : gAL n l k = l := by unfold gAL; rw [e1, if_neg (by simp)]
    rw [e1, e2, e3, e4]
    by_cases h3 : k < -1073741824
    · have q2 : decide (k < -1073741824) = true := decide_eq_true h3
      clear h e1 e2 e3 e4 h1 h3 q4 hn
      go_enter Try.func112, Try.ntmps112
      go_wp2
      go_ret2
      exact ⟨_, rfl, hnil.out, S, H.out, Kept.refl _ _, Handed.nil _ _ _⟩
    · have q2 : decide (k < -1073741824) = false := decide_eq_false h3
      have q3 : decide (1073741824 - n < k) = true := decide_eq_true (by omega)
      clear h e1 e2 e3 e4 h1 h3 q4 hn
      go_enter Try.func112, Try.ntmps112
      go_wp2
      go_ret2
      exact ⟨_, rfl, hnil.out, S, H.out, Kept.refl _ _, Handed.nil _ _ _⟩
  have q2 : decide (k < -1073741824) = false := decide_eq_false (by omega)
  have q3 : decide (1073741824 - n < k) = false := decide_eq_false (by omega)
  replace q4 : IntKind.i64.wrap (n + k) = n + k := q4.resolve_right (by omega)
  by_cases h2 : n + k < 0
  · have e1 : gAZ n k = 14 := by unfold gAZ; rw [if_neg h1, if_pos h2]
    have e2 : gAO n l k = [] := by unfold gAO; rw [e1, if_neg (by simp)]
    have e3 : gAN n k = n := by unfold gAN; rw [e1, if_neg (by simp)]
    have e4 : gAL n l k = l := by unfold gAL; rw [e1, if_neg (by simp)]
    rw [e1, e2, e3, e4]
    have q7 : decide (k < -n) = true := decide_eq_true (by omega)
    clear h e1 e2 e3 e4 h1 h2 hn
    go_enter Try.func112, Try.ntmps112
    go_wp2
    go_ret2
    exact ⟨_, rfl, hnil.out, S, H.out, Kept.refl _ _, Handed.nil _ _ _⟩
  have q7 : decide (k < -n) = false := decide_eq_false (by omega)
  have e1 : gAZ n k = 0 := by unfold gAZ; rw [if_neg h1, if_neg h2]
  have e3 : gAN n k = n + k := by unfold gAN; rw [if_pos e1]
  obtain ⟨k1, k2⟩ := h.q.setC 0 (.int .i64 (n + k))
  have z2 : (w.setCell ⟨D, 2, none⟩ (.int .i64 (n + k))).cell? ⟨D, 2, none⟩ = some (.int .i64 (n + k)) := (k1.cell (i := 0) rfl).1
  by_cases h0 : n + k = 0
  · have e2 : gAO n l k = l := by unfold gAO; rw [if_pos ⟨e1, h0⟩]
    have e4 : gAL n l k = [] := by unfold gAL; rw [if_pos ⟨e1, h0⟩]
    rw [e1, e2, e3, e4]
    have hlv : Calls Try.prog 115 #[.pointer (some ⟨D, 0, none⟩)] (w.setCell ⟨D, 2, none⟩ (.int .i64 (n + k))) fun e w' => ∃ u, e = .returned u ∧ RowAt intC w' u l ∧ ∃ S', PGr w' base D S' (n + k) [] ∧ Kept w w' S S' ∧ Handed w S S' u :=
      (j_leave k1).mono (fun e w' ⟨u, h5, h6, S', h7, h8, h9⟩ => ⟨u, h5, h6, S', ⟨h7, Nat.zero_le _, by omega⟩, k2.trans h8, fun bk off m cap hm e => ⟨Or.inl (h9 bk off m cap hm e).1, (h9 bk off m cap hm e).2⟩⟩)
    have q8 : decide (0 < n + k) = false := decide_eq_false (by omega)
    clear h e1 e2 e3 e4 h1 h2 h0 hn k1 k2
    go_enter Try.func112, Try.ntmps112
    go_wp2_with (go_at_call 115; refine hlv.mono ?_; rintro e w1 ⟨u, rfl, r1, S1, p1, k3, h3⟩; obtain ⟨pu, cu, rfl⟩ := r1.form)
    go_ret2
    exact ⟨_, rfl, r1, S1, p1, k3, h3⟩
  · have e2 : gAO n l k = [] := by unfold gAO; rw [if_neg (fun e => h0 e.2)]
    have e4 : gAL n l k = l := by unfold gAL; rw [if_neg (fun e => h0 e.2)]
    rw [e1, e2, e3, e4]
    have q8 : decide (0 < n + k) = true := decide_eq_true (by omega)
    have FIN : Hid _ := (⟨⟨k1, h.len, by omega⟩, k2⟩ : PGr (w.setCell ⟨D, 2, none⟩ (.int .i64 (n + k))) base D S (n + k) l ∧ Kept w (w.setCell ⟨D, 2, none⟩ (.int .i64 (n + k))) S S)
    clear h e1 e2 e3 e4 h1 h2 h0 hn k1 k2
    go_enter Try.func112, Try.ntmps112
    go_wp2
    go_ret2
    exact ⟨_, rfl, RowAt.nil _, S, FIN.out.1, FIN.out.2, Handed.nil _ _ _⟩
set_option maxHeartbeats 6400000 in
set_option maxRecDepth 100000 in
theorem po_runs (h : POn w base D S who ov l) (t : Int) : Calls Try.prog 121 #[.pointer (some ⟨D, 0, none⟩), .int .i64 t] w fun e w' => e = .returned (.bool (decide (0 ≤ who) && (who == t))) ∧ w = w' := by
  obtain ⟨b, h1, h2⟩ := h.ex
  obtain ⟨c2, _⟩ := h1.cell (i := 0) rfl
  obtain ⟨c4, _⟩ := h1.cell (i := 2) rfl
  clear h1 h
  by_cases h0 : 0 ≤ who
  · obtain rfl := h2 h0
    rw [decide_eq_true h0] at c2 ⊢
    clear h0 h2
    cases hb : (b == t) with
    | true =>
      go_enter Try.func121, Try.ntmps121
      go_wp2
      go_ret
      exact ⟨rfl, rfl⟩
    | false =>
      go_enter Try.func121, Try.ntmps121
      go_wp2
      go_ret
      exact ⟨rfl, rfl⟩
  · rw [decide_eq_false h0] at c2 ⊢
    clear h0 h2
    go_enter Try.func121, Try.ntmps121
    go_wp2
    go_ret
    exact ⟨rfl, rfl⟩
set_option maxHeartbeats 6400000 in
set_option maxRecDepth 100000 in
theorem po_do (h : POn w base D S who ov l) (t : Int) (ht : okI t) (hl : l.length < 65536) : Calls Try.prog 119 #[.pointer (some ⟨D, 0, none⟩), .int .i64 t] w fun e w' => e = .returned (.tuple #[.bool (oDR who ov l t), .bool (oDW who ov l t), .int .i64 (oDZ who l t)]) ∧ ∃ S', POn w' base D S' (oDH who ov l t) ov (oDL who ov l t) ∧ Kept w w' S S' := by
  have H : Hid (POn w base D S who ov l) := h
  by_cases h1 : t < 0
  · have e1 : oDZ who l t = 1 := by unfold oDZ; rw [if_pos h1]
    have e2 : oDR who ov l t = false := decide_eq_false (fun e => absurd e.1 (by omega))
    have e5 : oDW who ov l t = false := decide_eq_false (fun e => absurd e.1 (by omega))
    have e3 : oDH who ov l t = who := by unfold oDH; rw [e2]; rfl
    have e4 : oDL who ov l t = l := by unfold oDL; rw [e5]; rfl
    rw [e1, e2, e3, e4, e5]
    have q1 : decide (t < 0) = true := decide_eq_true h1
    clear h e1 e2 e3 e4 e5 h1
    go_enter Try.func119, Try.ntmps119
    go_wp2
    go_returns
    exact ⟨rfl, S, H.out, Kept.refl _ _⟩
  have q1 : decide (t < 0) = false := decide_eq_false h1
  have hh := po_runs h t
  obtain ⟨b, hq, hby⟩ := h.ex
  have hw := j_has hq t ht
  have hD := hq.lt
  obtain ⟨c2, f2⟩ := hq.cell (i := 0) rfl
  obtain ⟨c3, f3⟩ := hq.cell (i := 1) rfl
  obtain ⟨c4, f4⟩ := hq.cell (i := 2) rfl
  by_cases h2 : who = t ∨ t ∈ l
  · have e1 : oDZ who l t = 12 := by unfold oDZ; rw [if_neg h1, if_pos h2]
    have e2 : oDR who ov l t = false := decide_eq_false (fun e => absurd e.1 (by omega))
    have e5 : oDW who ov l t = false := decide_eq_false (fun e => absurd e.1 (by omega))
    have e3 : oDH who ov l t = who := by unfold oDH; rw [e2]; rfl
    have e4 : oDL who ov l t = l := by unfold oDL; rw [e5]; rfl
    rw [e1, e2, e3, e4, e5]
    cases hb : (decide (0 ≤ who) && (who == t)) with
    | true =>
      rw [hb] at hh
      clear h hq hw e1 e2 e3 e4 e5 h1 h2 hby hb c2 c3 c4
      go_enter Try.func119, Try.ntmps119
      go_wp2_with (go_at_call 121; refine hh.mono ?_; rintro e w1 ⟨rfl, rfl⟩)
      go_returns
      exact ⟨rfl, S, H.out, Kept.refl _ _⟩
    | false =>
      have h3 : hasB l t = true := by
        rcases h2 with h2 | h2
        · rw [h2, beq_self_eq_true, decide_eq_true (by omega)] at hb
          cases hb
        · exact decide_eq_true h2
      rw [hb] at hh
      rw [h3] at hw
      clear h hq e1 e2 e3 e4 e5 h1 h2 h3 hby hb c2 c3 c4
      go_enter Try.func119, Try.ntmps119
      go_wp2_with (first
        | (go_at_call 113; refine hw.mono ?_; rintro e w1 ⟨rfl, b1⟩)
        | (go_at_call 121; refine hh.mono ?_; rintro e w1 ⟨rfl, rfl⟩))
      go_returns
      exact ⟨rfl, S, H.out.fresh b1, Kept.of b1⟩
  have hb : (decide (0 ≤ who) && (who == t)) = false := by
    rw [beq_eq_false_iff_ne.2 (fun e => h2 (Or.inl e)), Bool.and_false]
  have h3 : hasB l t = false := decide_eq_false (fun e => h2 (Or.inr e))
  have e1 : oDZ who l t = 0 := by unfold oDZ; rw [if_neg h1, if_neg h2]
  rw [hb] at hh
  rw [h3] at hw
  cases ov with
  | true =>
    have e2 : oDR who true l t = false := decide_eq_false (fun e => absurd e.2.1 (by simp))
    have e5 : oDW who true l t = false := decide_eq_false (fun e => absurd e.2.1 (by simp))
    have e3 : oDH who true l t = who := by unfold oDH; rw [e2]; rfl
    have e4 : oDL who true l t = l := by unfold oDL; rw [e5]; rfl
    rw [e1, e2, e3, e4, e5]
    clear h hq e1 e2 e3 e4 e5 h1 h2 h3 hby hb c2 c4
    go_enter Try.func119, Try.ntmps119
    go_wp2_with (first
      | (go_at_call 113; refine hw.mono ?_; rintro e w1 ⟨rfl, b1⟩; have z3 := (b1.cell (p := ⟨D, 3, none⟩) (by exact hD)).trans c3; have y3 := (b1.frozen (p := ⟨D, 3, none⟩) (by exact hD)).trans f3)
      | (go_at_call 121; refine hh.mono ?_; rintro e w1 ⟨rfl, rfl⟩))
    go_returns
    exact ⟨rfl, S, H.out.fresh b1, Kept.of b1⟩
  | false =>
    by_cases h4 : who < 0
    · have e2 : oDR who false l t = true := decide_eq_true ⟨e1, rfl, h4⟩
      have e5 : oDW who false l t = false := decide_eq_false (fun e => e.2.2 h4)
      have e3 : oDH who false l t = t := by unfold oDH; rw [e2]; rfl
      have e4 : oDL who false l t = l := by unfold oDL; rw [e5]; rfl
      rw [e1, e2, e3, e4, e5]
      rw [decide_eq_false (by omega)] at c2
      have fin : ∀ w1 : World, Below w.heap.size w w1 → POn ((w1.setCell ⟨D, 2, none⟩ (.bool true)).setCell ⟨D, 4, none⟩ (.int .i64 t)) base D S t false l ∧ Kept w ((w1.setCell ⟨D, 2, none⟩ (.bool true)).setCell ⟨D, 4, none⟩ (.int .i64 t)) S S := fun w1 b1 => by
        have k1 := (hq.fresh b1).setC 0 (.bool true)
        have k2 := k1.1.setC 2 (.int .i64 t)
        refine ⟨⟨⟨t, ?_, fun _ => rfl⟩, fun e => absurd e h1, fun _ => rfl, h.len⟩, (Kept.of b1).trans (k1.2.trans k2.2)⟩
        rw [decide_eq_true (by omega)]
        exact k2.1
      have FIN : Hid _ := fin
      clear h hq e1 e2 e3 e4 e5 h1 h2 h3 h4 hby hb fin
      go_enter Try.func119, Try.ntmps119
      go_wp2_with (first
        | (go_at_call 113; refine hw.mono ?_; rintro e w1 ⟨rfl, b1⟩; have z2 := (b1.cell (p := ⟨D, 2, none⟩) (by exact hD)).trans c2; have y2 := (b1.frozen (p := ⟨D, 2, none⟩) (by exact hD)).trans f2; have z3 := (b1.cell (p := ⟨D, 3, none⟩) (by exact hD)).trans c3; have y3 := (b1.frozen (p := ⟨D, 3, none⟩) (by exact hD)).trans f3; have z4 := (b1.cell (p := ⟨D, 4, none⟩) (by exact hD)).trans c4; have y4 := (b1.frozen (p := ⟨D, 4, none⟩) (by exact hD)).trans f4)
        | (go_at_call 121; refine hh.mono ?_; rintro e w1 ⟨rfl, rfl⟩))
      go_returns
      exact ⟨rfl, S, FIN.out _ b1⟩
    · have e2 : oDR who false l t = false := decide_eq_false (fun e => h4 e.2.2)
      have e5 : oDW who false l t = true := decide_eq_true ⟨e1, rfl, h4⟩
      have e3 : oDH who false l t = who := by unfold oDH; rw [e2]; rfl
      have e4 : oDL who false l t = l ++ [t] := by unfold oDL; rw [e5]; rfl
      rw [e1, e2, e3, e4, e5]
      have hj : ∀ w1 : World, Below w.heap.size w w1 → Calls Try.prog 114 #[.pointer (some ⟨D, 0, none⟩), .int .i64 t] w1 fun e w' => e = .returned (.tuple #[]) ∧ ∃ S', POn w' base D S' who false (l ++ [t]) ∧ Kept w w' S S' := fun w1 b1 =>
        (j_join (hq.fresh b1) t ht h3 hl).mono (fun e w' ⟨h5, S', h6, h7⟩ => ⟨h5, S', ⟨⟨b, h6, hby⟩, h.no, h.ov, by rw [List.length_append]; simp; omega⟩, (Kept.of b1).trans h7⟩)
      have HJ : Hid _ := hj
      rw [decide_eq_true (by omega)] at c2
      clear h hq e1 e2 e3 e4 e5 h1 h2 h3 h4 hby hb hj c4
      go_enter Try.func119, Try.ntmps119
      go_wp2_with (first
        | (go_at_call 114; refine (HJ.out _ b1).mono ?_; rintro e w2 ⟨rfl, S2, hp2, hk2⟩)
        | (go_at_call 113; refine hw.mono ?_; rintro e w1 ⟨rfl, b1⟩; have z2 := (b1.cell (p := ⟨D, 2, none⟩) (by exact hD)).trans c2; have y2 := (b1.frozen (p := ⟨D, 2, none⟩) (by exact hD)).trans f2; have z3 := (b1.cell (p := ⟨D, 3, none⟩) (by exact hD)).trans c3; have y3 := (b1.frozen (p := ⟨D, 3, none⟩) (by exact hD)).trans f3)
        | (go_at_call 121; refine hh.mono ?_; rintro e w1 ⟨rfl, rfl⟩))
      go_returns
      exact ⟨rfl, S2, hp2, hk2⟩
set_option maxHeartbeats 6400000 in
set_option maxRecDepth 100000 in
theorem po_done (h : POn w base D S who ov l) (t : Int) (_ht : okI t) (_hl : l.length ≤ 65536) : Calls Try.prog 120 #[.pointer (some ⟨D, 0, none⟩), .int .i64 t] w fun e w' => ∃ u, e = .returned (.tuple #[u, .int .i64 (oEZ who t)]) ∧ RowAt intC w' u (oEO who l t) ∧ ∃ S', POn w' base D S' (oEH who t) (oEV who ov t) (oEL who l t) ∧ Kept w w' S S' ∧ Handed w S S' u := by
  have hh := po_runs h t
  obtain ⟨b, hq, hby⟩ := h.ex
  have hc : (decide (0 ≤ who) && (who == t)) = decide (¬ (t < 0 ∨ ¬ who = t)) := by
    rw [Bool.eq_iff_iff, Bool.and_eq_true, decide_eq_true_eq, beq_iff_eq, decide_eq_true_eq]
    omega
  rw [hc] at hh
  unfold oEZ oEO oEH oEV oEL
  have H : Hid _ := h
  by_cases h1 : t < 0 ∨ ¬ who = t
  · rw [if_pos h1, if_pos h1, if_pos h1, if_pos h1, if_pos h1]
    rw [decide_eq_false (fun e => e h1)] at hh
    have hnil : Hid (RowAt intC w (.slice none 0 0) []) := RowAt.nil w
    clear h hq hby hc h1
    go_enter Try.func120, Try.ntmps120
    go_wp2_with (go_at_call 121; refine hh.mono ?_; rintro e w1 ⟨rfl, rfl⟩)
    go_ret2
    exact ⟨_, rfl, hnil.out, S, H.out, Kept.refl _ _, Handed.nil _ _ _⟩
  · rw [if_neg h1, if_neg h1, if_neg h1, if_neg h1, if_neg h1]
    rw [decide_eq_true h1] at hh
    obtain ⟨c2, f2⟩ := hq.cell (i := 0) rfl
    obtain ⟨c3, f3⟩ := hq.cell (i := 1) rfl
    have k1 := hq.setC 0 (.bool false)
    have k2 := k1.1.setC 1 (.bool true)
    have hlv : Calls Try.prog 115 #[.pointer (some ⟨D, 0, none⟩)] ((w.setCell ⟨D, 2, none⟩ (.bool false)).setCell ⟨D, 3, none⟩ (.bool true)) fun e w' => ∃ u, e = .returned u ∧ RowAt intC w' u l ∧ ∃ S', POn w' base D S' (-1) true [] ∧ Kept w w' S S' ∧ Handed w S S' u :=
      (j_leave k2.1).mono (fun e w' ⟨u, h5, h6, S', h7, h8, h9⟩ => ⟨u, h5, h6, S', ⟨⟨b, h7, fun e => absurd e (by decide)⟩, fun _ => rfl, fun e => absurd e (by decide), Nat.zero_le _⟩, k1.2.trans (k2.2.trans h8), fun bk off m cap hm e => ⟨Or.inl (h9 bk off m cap hm e).1, (h9 bk off m cap hm e).2⟩⟩)
    clear h hq hby hc h1 k1 k2
    go_enter Try.func120, Try.ntmps120
    go_wp2_with (first
      | (go_at_call 115; refine hlv.mono ?_; rintro e w1 ⟨u, rfl, r1, S1, p1, k3, h3⟩; obtain ⟨pu, cu, rfl⟩ := r1.form)
      | (go_at_call 121; refine hh.mono ?_; rintro e w1 ⟨rfl, rfl⟩))
    go_ret2
    exact ⟨_, rfl, r1, S1, p1, k3, h3⟩
end
end Go.Proofs.Ythhlglbohibekaa
