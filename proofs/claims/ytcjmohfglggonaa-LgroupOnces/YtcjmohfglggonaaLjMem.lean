/-
  The queue of package lgroup in memory: those that wait, in the order of asking; looked into, one more, all taken out, copied. The conditions: one that joins does not wait yet; fewer than 65536 wait.
-/
import Derived.Test.YtcjmohfglggonaaGSet
import Derived.Test.YtcjmohfglggonaaGSlid
import Derived.Test.YtcjmohfglggonaaGStore
import Derived.Test.YtcjmohfglggonaaGInts
import Derived.Test.YtcjmohfglggonaaMxRef
namespace Go.Proofs.Ytcjmohfglggonaa
open Go.RowKit

/-- A thing in block D: its queue ahead, the cells r behind; 'S': the blocks that are its own. -/
structure JAt (w : World) (base D : Nat) (S : Nat → Prop) (T : TypeId) (r : List Value) (l : List Int) : Prop where
  ex : ∃ v mo ks, w.heap[D]? = some (.cells (v :: Value.map mo :: r).toArray T (0, 0)) ∧ Slid intC 1 3 w v l ∧ (∀ g, v.ownBlock = some g → S g) ∧ SetO w mo ks ∧ (∀ M, mo = some M → S M) ∧ ks.Perm l
  sD : S D
  bd : ∀ b, S b → base ≤ b ∧ b < w.heap.size
  lo : ∀ x ∈ l, okI x
  ne : 3 ≠ T
section
variable {w w' : World} {base base' D : Nat} {S S' : Nat → Prop} {T : TypeId} {r : List Value} {l : List Int}
theorem JAt.keep (h : JAt w base D S T r l) (hs : w.heap.size ≤ w'.heap.size) (hk : ∀ b, S b → w'.heap[b]? = w.heap[b]?) : JAt w' base D S T r l := by
  obtain ⟨v, mo, ks, h1, h2, h3, h4, h5, h6⟩ := h.ex
  exact ⟨⟨v, mo, ks, (hk D h.sD).trans h1, h2.keep (fun g hg => hk g (h3 g hg)), h3, h4.keep (fun M hM => hk M (h5 M hM)), h5, h6⟩, h.sD, fun b hb => ⟨(h.bd b hb).1, Nat.lt_of_lt_of_le (h.bd b hb).2 hs⟩, h.lo, h.ne⟩
theorem JAt.fresh (h : JAt w base D S T r l) (k : Below w.heap.size w w') : JAt w' base D S T r l := h.keep k.size (fun b hb => k.block b (h.bd b hb).2)
theorem JAt.low (h : JAt w base D S T r l) (hb : base' ≤ base) : JAt w base' D S T r l := ⟨h.ex, h.sD, fun b hs => ⟨Nat.le_trans hb (h.bd b hs).1, (h.bd b hs).2⟩, h.lo, h.ne⟩
theorem JAt.base_le (h : JAt w base D S T r l) : base ≤ w.heap.size := by have := h.bd D h.sD; omega
/-- The cells behind the queue turn. -/
theorem JAt.setC (h : JAt w base D S T r l) (i : Nat) (x : Value) : JAt (w.setCell ⟨D, i + 2, none⟩ x) base D S T (r.set i x) l ∧ Kept w (w.setCell ⟨D, i + 2, none⟩ x) S S := by
  obtain ⟨v, mo, ks, h1, h2, h3, h4, h5, h6⟩ := h.ex
  have ho : ∀ c, c ≠ D → (w.setCell ⟨D, i + 2, none⟩ x).heap[c]? = w.heap[c]? := fun c hc => heap_setCell_other _ _ _ _ (by simpa using hc)
  have e : (w.setCell ⟨D, i + 2, none⟩ x).heap[D]? = some (.cells (v :: Value.map mo :: r.set i x).toArray T (0, 0)) := by
    rw [heap_setCell_same w D (i + 2) _ _ _ h1]
    simp
  refine ⟨⟨⟨v, mo, ks, e, h2.keep (fun g hg => ho g (fun e => h2.ne h1 h.ne (by rw [hg, e]))), h3, h4.keep (fun M hM => ho M (fun e => ?_)), h5, h6⟩, h.sD, fun b hb => ⟨(h.bd b hb).1, by simpa using (h.bd b hb).2⟩, h.lo, h.ne⟩, ⟨rfl, rfl, rfl, by simp, fun _ hs => Or.inl hs, fun b _ hs => ho b (fun e => hs (by rw [e]; exact h.sD))⟩⟩
  rcases h4.ex with ⟨h7, _⟩ | ⟨M', h7, h8⟩
  · rw [hM] at h7
    cases h7
  · rw [hM] at h7
    cases h7
    exact h8.ne h1 e
/-- What a walk needs. -/
theorem JAt.cell (h : JAt w base D S T r l) {i : Nat} {x : Value} (hx : r[i]? = some x) : w.cell? ⟨D, i + 2, none⟩ = some x ∧ w.frozen? ⟨D, i + 2, none⟩ = false := by
  obtain ⟨v, mo, ks, h1, _⟩ := h.ex
  exact ⟨by simp [World.cell?, h1, hx], by simp [World.frozen?, h1]⟩
theorem JAt.lt (h : JAt w base D S T r l) : D < w.heap.size := (h.bd D h.sD).2
set_option maxHeartbeats 3200000 in
set_option maxRecDepth 100000 in
theorem j_has (h : JAt w base D S T r l) (t : Int) (ht : okI t) : Calls Try.prog 24 #[.pointer (some ⟨D, 0, none⟩), .int .i64 t] w fun e w' => e = .returned (.bool (hasB l t)) ∧ Below w.heap.size w w' := by
  obtain ⟨v, mo, ks, h1, h2, h3, h4, h5, h6⟩ := h.ex
  obtain ⟨a, cap, rfl⟩ := h2.form
  have hl := h4.look (x := t) ht
  have e : decide (t ∈ ks) = hasB l t := by
    unfold hasB
    rw [Bool.eq_iff_iff, decide_eq_true_eq, decide_eq_true_eq]
    exact h6.mem_iff
  rw [e] at hl
  have c1 : w.cell? ⟨D, 1, none⟩ = some (.map mo) := by simp [World.cell?, h1]
  have HB : Hid _ := (Below.refl _ w).alloc (Nat.le_refl _) (.cells #[] 70)
  clear h1 h2 h3 h4 h5 h6 h e
  go_enter Try.func24, Try.ntmps24
  go_wp2
  go_ret
  exact ⟨rfl, HB.out⟩
/-- Behind the set's growth: the row grows, and all is in its place. -/
theorem jjoin_fin {w3 : World} {M : Nat} {v : Value} {ks : List Int} (h : JAt w base D S T r l) (t : Int) (ht : okI t) (hD : w3.heap[D]? = some (.cells (v :: Value.map (some M) :: r).toArray T (0, 0))) (hs : Slid intC 1 3 w3 v l) (hv : ∀ g, v.ownBlock = some g → S g) (hm : SetAt w3 M (ks ++ [t])) (hM : S M ∨ w.heap.size ≤ M) (hp : ks.Perm l)
    (k3 : Kept w w3 S (fun b => S b ∨ w.heap.size ≤ b ∧ b < w3.heap.size)) (o : Obj) (u : Value) (w5 : World) (h5 : Slid intC 1 3 w5 u (l ++ [t])) (g5 : (w3.alloc o).grownBy w5 v.ownBlock) (l5 : u.ownBlock = v.ownBlock ∨ u.ownBlock = some (w3.heap.size + 1)) :
    ∃ S', JAt (w5.setCell ⟨D, 0, none⟩ u) base D S' T r (l ++ [t]) ∧ Kept w (w5.setCell ⟨D, 0, none⟩ u) S S' := by
  have ho : ∀ b, b ≠ D → (w5.setCell ⟨D, 0, none⟩ u).heap[b]? = w5.heap[b]? := fun b hb => heap_setCell_other _ _ _ _ (by simpa using hb)
  have hDl := lt_of_block hD
  have hvD : v.ownBlock ≠ some D := hs.ne hD h.ne
  have hal : ∀ b, b < w3.heap.size → (w3.alloc o).heap[b]? = w3.heap[b]? := fun b hb => Below.heap_alloc w3 o b hb
  have hsz5 : w3.heap.size + 1 ≤ w5.heap.size := by have := g5.size; simpa using this
  have hD5 : w5.heap[D]? = some (.cells (v :: Value.map (some M) :: r).toArray T (0, 0)) := by
    rw [g5.block D (by simp; omega) (fun e => hvD e.symm), hal D hDl, hD]
  have hD6 : (w5.setCell ⟨D, 0, none⟩ u).heap[D]? = some (.cells (u :: Value.map (some M) :: r).toArray T (0, 0)) := by
    rw [heap_setCell_same w5 D 0 _ _ _ hD5]
    simp
  have hMv : v.ownBlock ≠ some M := fun e => by
    obtain ⟨cur, hb⟩ := hs.block e
    exact hm.ne hb rfl
  have hMl := hm.lt
  have hM5 : w5.heap[M]? = w3.heap[M]? := by
    rw [g5.block M (by simp; omega) (fun e => hMv e.symm), hal M hMl]
  have huD : u.ownBlock ≠ some D := h5.ne hD5 h.ne
  have hsw := k3.size
  refine ⟨fun b => S b ∨ w.heap.size ≤ b ∧ b < w5.heap.size, ⟨⟨u, some M, ks ++ [t], hD6, h5.keep (fun g hg => ho g (fun e => huD (by rw [hg, e]))), fun g hg => ?_, SetO.some ((hm.keep hM5).keep (ho M (hm.ne hD))), fun M' e => ?_, List.Perm.append_right _ hp⟩, Or.inl h.sD, fun b hb => ?_, fun p hp => ?_, h.ne⟩, ?_⟩
  · have hlt := h5.lt hg
    rcases l5 with l5 | l5
    · exact Or.inl (hv g (by rw [← l5]; exact hg))
    · rw [hg] at l5
      have := Option.some.inj l5
      exact Or.inr ⟨by omega, hlt⟩
  · cases e
    exact hM.imp id (fun h => ⟨h, by omega⟩)
  · rcases hb with hb | hb
    · have := h.bd b hb
      exact ⟨this.1, by simp; omega⟩
    · have := h.base_le
      exact ⟨by omega, by simpa using hb.2⟩
  · rcases List.mem_append.1 hp with hp | hp
    · exact h.lo p hp
    · rw [List.mem_singleton] at hp
      rw [hp]
      exact ht
  · refine ⟨by rw [← k3.os]; exact g5.os, by rw [← k3.tape]; exact g5.tape, by rw [← k3.output]; exact g5.output, by simp; omega, fun b hb => hb.imp id (fun h => h.1), fun b hb hn => ?_⟩
    rw [ho b (fun e => hn (by rw [e]; exact h.sD)), g5.block b (by simp; omega) (fun e => hn (hv b e.symm)), hal b (by omega), k3.kept b hb hn]
set_option maxHeartbeats 6400000 in
set_option maxRecDepth 100000 in
theorem j_join (h : JAt w base D S T r l) (t : Int) (ht : okI t) (hn : hasB l t = false) (hq : l.length < 65536) :
    Calls Try.prog 25 #[.pointer (some ⟨D, 0, none⟩), .int .i64 t] w fun e w' => e = .returned (.tuple #[]) ∧ ∃ S', JAt w' base D S' T r (l ++ [t]) ∧ Kept w w' S S' := by
  obtain ⟨i0, hi, hz0, hz1, hz2⟩ := info_parts infoI
  obtain ⟨v, mo, ks, h1, h2, h3, h4, h5, h6⟩ := h.ex
  obtain ⟨a, cap, rfl⟩ := h2.form
  have hnk : t ∉ ks := fun e => by
    have := h6.mem_iff.1 e
    unfold hasB at hn
    exact of_decide_eq_false hn this
  have hkl : ks.length < maxLen := by
    have := h6.length_eq
    unfold maxLen
    omega
  have hD := lt_of_block h1
  have hvD : Value.ownBlock (.slice a l.length cap) ≠ some D := h2.ne h1 h.ne
  have c0 : w.cell? ⟨D, 0, none⟩ = some (.slice a l.length cap) := by simp [World.cell?, h1]
  have c1 : w.cell? ⟨D, 1, none⟩ = some (.map mo) := by simp [World.cell?, h1]
  have f0 : w.frozen? ⟨D, 0, none⟩ = false := by simp [World.frozen?, h1]
  have f1 : w.frozen? ⟨D, 1, none⟩ = false := by simp [World.frozen?, h1]
  have HC : Hid _ := h
  have H2 : Hid _ := h2
  have H3 : Hid _ := h3
  have H6 : Hid _ := h6
  rcases h4.ex with ⟨rfl, rfl⟩ | ⟨M, rfl, h7⟩
  · have hmk := @run_makeMap Try.prog
    have heq := map_is_nil
    have e1 : ((w.alloc (.map #[] 0)).setCell ⟨D, 1, none⟩ (.map (some w.heap.size))).heap[D]? = some (.cells (Value.slice a l.length cap :: Value.map (some w.heap.size) :: r).toArray T (0, 0)) := by
      rw [heap_setCell_same _ D 1 _ _ _ ((Below.heap_alloc w _ D hD).trans h1)]
      simp
    have z1 : ((w.alloc (.map #[] 0)).setCell ⟨D, 1, none⟩ (.map (some w.heap.size))).cell? ⟨D, 1, none⟩ = some (.map (some w.heap.size)) := by simp [World.cell?, e1]
    have z2 : (w.alloc (.map #[] 0)).cell? ⟨D, 1, none⟩ = some (.map none) := (World.cell?_of_block (a := ⟨D, 1, none⟩) (Below.heap_alloc w _ D hD)).trans c1
    have z3 : (w.alloc (.map #[] 0)).frozen? ⟨D, 1, none⟩ = false := (World.frozen?_of_block (a := ⟨D, 1, none⟩) (Below.heap_alloc w _ D hD)).trans f1
    have ho : ∀ b, b ≠ D → ((w.alloc (.map #[] 0)).setCell ⟨D, 1, none⟩ (.map (some w.heap.size))).heap[b]? = (w.alloc (.map #[] 0)).heap[b]? := fun b hb => heap_setCell_other _ _ _ _ (by simpa using hb)
    have hst := (set_new w).keep (ho w.heap.size (by omega))
    obtain ⟨w3, hup, hs3, hg3, hz3⟩ := set_put hst ht (by unfold maxLen; simp) hnk
    have hb3 : ∀ b, b ≠ w.heap.size → b ≠ D → b < w.heap.size → w3.heap[b]? = w.heap[b]? := fun b hb1 hb2 hb3 => by
      rw [hg3.block b (by simp; omega) (fun e => hb1 (Option.some.inj e)), ho b hb2, Below.heap_alloc w _ b hb3]
    have hD3 : w3.heap[D]? = some (.cells (Value.slice a l.length cap :: Value.map (some w.heap.size) :: r).toArray T (0, 0)) := by
      rw [hg3.block D (by simp; omega) (fun e => by have := Option.some.inj e; omega), e1]
    have hS3 : Slid intC 1 3 w3 (.slice a l.length cap) l := h2.keep (fun g hg => hb3 g (by have := h2.lt hg; omega) (fun e => hvD (by rw [hg, e])) (h2.lt hg))
    have hsz : w3.heap.size = w.heap.size + 1 := by rw [hz3]; simp
    have K3 : Kept w w3 S (fun b => S b ∨ w.heap.size ≤ b ∧ b < w3.heap.size) := ⟨hg3.os, hg3.tape, hg3.output, by omega, fun b hb => hb.imp id (fun h => h.1), fun b hb hn => hb3 b (by omega) (fun e => hn (by rw [e]; exact h.sD)) hb⟩
    clear e1 ho hst hb3 hsz h4
    have y0 : w3.cell? ⟨D, 0, none⟩ = some (.slice a l.length cap) := by simp [World.cell?, hD3]
    have x0 : w3.frozen? ⟨D, 0, none⟩ = false := by simp [World.frozen?, hD3]
    have hD3l := lt_of_block hD3
    have FIN : Hid _ := fun (o : Obj) (u : Value) (w5 : World) => jjoin_fin (w3 := w3) h t ht hD3 hS3 h3 hs3 (Or.inr (Nat.le_refl _)) h6 K3 o u w5
    have HS3 : Hid _ := hS3
    have HD3 : Hid _ := hD3
    have HVD : Hid _ := hvD
    have fin : ∀ (o : Obj) (w5 : World), (w3.alloc o).grownBy w5 (Value.ownBlock (.slice a l.length cap)) → w5.cell? ⟨D, 0, none⟩ = some (.slice a l.length cap) ∧ w5.frozen? ⟨D, 0, none⟩ = false := fun o w5 g5 => by
      have e5 : w5.heap[D]? = some (.cells (Value.slice a l.length cap :: Value.map (some w.heap.size) :: r).toArray T (0, 0)) := by
        rw [g5.block D (by simp; omega) (fun e => hvD e.symm), Below.heap_alloc w3 o D hD3l, hD3]
      exact ⟨by simp [World.cell?, e5], by simp [World.frozen?, e5]⟩
    have FIN2 : Hid _ := fin
    clear fin h h1 h2 h3 h6 hD3 hS3 hs3 hg3 hz3 K3 hn hnk hkl hvD hD
    go_enter Try.func25, Try.ntmps25
    go_wp2_with (at_builtin; refine wpList_app_slid (v := .slice a l.length cap) (k := 1) (enc := intC) (l := l) (m := [t]) rfl (.tmp 23) (.tmp 25) 26 rfl i0 _ 8 Try.underlying26 hi hz0 hz1 hz2 rfl intC_len intC_one rfl (HS3.out.keep (fun g hg => Below.heap_alloc w3 _ g (HS3.out.lt hg))) ⟨w3.heap.size, 0, none⟩ 1 1 rfl rfl (by exact World.news_of_block (heap_alloc_new w3 _)) (by simp) (by unfold maxLen; simp; omega) (by simp; omega) ?_; intro u5 w5 h5 g5 l5; obtain ⟨y5, x5⟩ := FIN2.out _ w5 g5; obtain ⟨p5, n5, rfl⟩ : ∃ p n, u5 = .slice p (l.length + 1) n := (by obtain ⟨a, c, e⟩ := h5.form; exact ⟨a, c, by rw [e]; simp⟩))
    go_returns
    exact ⟨rfl, FIN.out _ _ _ h5 g5 (by simpa using l5)⟩
  · have heq := map_no_nil M
    obtain ⟨w3, hup, hs3, hg3, hz3⟩ := set_put h7 ht hkl hnk
    have hMD : M ≠ D := h7.ne h1
    have hMv : Value.ownBlock (.slice a l.length cap) ≠ some M := fun e => by
      obtain ⟨cur, hb⟩ := h2.block e
      exact h7.ne hb rfl
    have hb3 : ∀ b, b ≠ M → b < w.heap.size → w3.heap[b]? = w.heap[b]? := fun b hb1 hb2 => hg3.block b hb2 (fun e => hb1 (Option.some.inj e))
    have hD3 : w3.heap[D]? = some (.cells (Value.slice a l.length cap :: Value.map (some M) :: r).toArray T (0, 0)) := (hb3 D (fun e => hMD e.symm) hD).trans h1
    have hS3 : Slid intC 1 3 w3 (.slice a l.length cap) l := h2.keep (fun g hg => hb3 g (fun e => hMv (by rw [hg, e])) (h2.lt hg))
    have K3 : Kept w w3 S (fun b => S b ∨ w.heap.size ≤ b ∧ b < w3.heap.size) := ⟨hg3.os, hg3.tape, hg3.output, by omega, fun b hb => hb.imp id (fun h => h.1), fun b hb hn => hb3 b (fun e => hn (by rw [e]; exact h5 M rfl)) hb⟩
    have hM5 := h5 M rfl
    clear h4 h7 h5 hMD hMv hb3
    have y0 : w3.cell? ⟨D, 0, none⟩ = some (.slice a l.length cap) := by simp [World.cell?, hD3]
    have x0 : w3.frozen? ⟨D, 0, none⟩ = false := by simp [World.frozen?, hD3]
    have hD3l := lt_of_block hD3
    have FIN : Hid _ := fun (o : Obj) (u : Value) (w5 : World) => jjoin_fin (w3 := w3) h t ht hD3 hS3 h3 hs3 (Or.inl hM5) h6 K3 o u w5
    have HS3 : Hid _ := hS3
    have HD3 : Hid _ := hD3
    have HVD : Hid _ := hvD
    have fin : ∀ (o : Obj) (w5 : World), (w3.alloc o).grownBy w5 (Value.ownBlock (.slice a l.length cap)) → w5.cell? ⟨D, 0, none⟩ = some (.slice a l.length cap) ∧ w5.frozen? ⟨D, 0, none⟩ = false := fun o w5 g5 => by
      have e5 : w5.heap[D]? = some (.cells (Value.slice a l.length cap :: Value.map (some M) :: r).toArray T (0, 0)) := by
        rw [g5.block D (by simp; omega) (fun e => hvD e.symm), Below.heap_alloc w3 o D hD3l, hD3]
      exact ⟨by simp [World.cell?, e5], by simp [World.frozen?, e5]⟩
    have FIN2 : Hid _ := fin
    clear fin h h1 h2 h3 h6 hD3 hS3 hs3 hg3 hz3 K3 hn hnk hkl hvD hD
    go_enter Try.func25, Try.ntmps25
    go_wp2_with (at_builtin; refine wpList_app_slid (v := .slice a l.length cap) (k := 1) (enc := intC) (l := l) (m := [t]) rfl (.tmp 23) (.tmp 25) 26 rfl i0 _ 8 Try.underlying26 hi hz0 hz1 hz2 rfl intC_len intC_one rfl (HS3.out.keep (fun g hg => Below.heap_alloc w3 _ g (HS3.out.lt hg))) ⟨w3.heap.size, 0, none⟩ 1 1 rfl rfl (by exact World.news_of_block (heap_alloc_new w3 _)) (by simp) (by unfold maxLen; simp; omega) (by simp; omega) ?_; intro u5 w5 h5 g5 l5; obtain ⟨y5, x5⟩ := FIN2.out _ w5 g5; obtain ⟨p5, n5, rfl⟩ : ∃ p n, u5 = .slice p (l.length + 1) n := (by obtain ⟨a, c, e⟩ := h5.form; exact ⟨a, c, by rw [e]; simp⟩))
    go_returns
    exact ⟨rfl, FIN.out _ _ _ h5 g5 (by simpa using l5)⟩
theorem info_queue : (Try.prog.info? 61).map (·.size) = some 2 := by kernel_rfl
/-- The queue's two cells, ahead of the others, made empty. -/
theorem wpList_store_two {ops : Array Oper} {rest : List Oper} {o : Oper} {a : Act} {Q : Exit → Act → World → Prop} {w : World} (hgd : o.guard = none) (x y : Operand) (ho : o.op = .store 61 x y) (g : Nat) (p q p' q' : Value) (r : List Value) (hx : a.eval x = .pointer (some ⟨g, 0, none⟩)) (hy : a.eval y = .agg #[p, q]) (t : TypeId) (hg : w.heap[g]? = some (.cells (p' :: q' :: r).toArray t (0, 0))) (h1 : p.oneCell' = true) (h2 : q.oneCell' = true)
    (h : ∀ w', w'.heap[g]? = some (.cells (p :: q :: r).toArray t (0, 0)) → w.grownBy w' (some g) → w'.heap.size = w.heap.size → wpList Try.prog ops Q rest (a.put o.dst undef) w') : wpList Try.prog ops Q (o :: rest) a w :=
  wpList_plain hgd fun _ hK => by
    have hz : ∀ w, (sizeOf 61).run Try.prog w = .ok 2 w := fun w => by
      have := info_queue
      cases hi : Try.prog.info? 61 with
      | none => rw [hi] at this; cases this
      | some i =>
        rw [hi] at this
        simp only [Option.map_some, Option.some.injEq] at this
        simp [sizeOf, typeInfo, hi, this]
    have hst := run_storeCells_at Try.prog g 0 t [p, q] 0 _ w hg (by simp) (by simp [h1, h2])
    have e : ((p' :: q' :: r).toArray.toList.take (0 + 0) ++ [p, q] ++ (p' :: q' :: r).toArray.toList.drop (0 + 0 + [p, q].length)).toArray = (p :: q :: r).toArray := by simp
    rw [e] at hst
    unfold Oper.wp execOp
    simp [ho, hx, hy, Instr.storeAt, Instr.sureAddr, storeVar, Value.cells, hz, hst]
    exact hK _ _ (h _ (setRow_heap w g _ _ t _ hg) (grown_setRow_g w g _) (by simp))
set_option maxHeartbeats 3200000 in
set_option maxRecDepth 100000 in
/-- All that wait are handed out. -/
theorem j_leave (h : JAt w base D S T r l) : Calls Try.prog 27 #[.pointer (some ⟨D, 0, none⟩)] w fun e w' => ∃ u, e = .returned u ∧ RowAt intC w' u l ∧ ∃ S', JAt w' base D S' T r [] ∧ Kept w w' S S' ∧ ∀ bk off m cap, 0 < m → u = .slice (some ⟨bk, off, none⟩) m cap → S bk ∧ ¬ S' bk := by
  obtain ⟨v, mo, ks, h1, h2, h3, h4, h5, h6⟩ := h.ex
  have hvD := h2.ne h1 h.ne
  have fin : ∀ w' : World, w'.heap[D]? = some (.cells (Value.slice none 0 0 :: Value.map none :: r).toArray T (0, 0)) → w.grownBy w' (some D) → w'.heap.size = w.heap.size → RowAt intC w' v l ∧ ∃ S', JAt w' base D S' T r [] ∧ Kept w w' S S' ∧ ∀ bk off m cap, 0 < m → v = .slice (some ⟨bk, off, none⟩) m cap → S bk ∧ ¬ S' bk := fun w' e1 e2 e3 => by
    refine ⟨(h2.row intC_len).keep (by omega) (fun bk off n cap _ e => e2.block bk (h2.lt (g := bk) (by rw [e]; rfl)) (fun e4 => hvD (by rw [e]; exact e4))), fun b => S b ∧ v.ownBlock ≠ some b, ⟨⟨_, none, [], e1, Slid.nil _, fun g hg => (by simp [Value.ownBlock] at hg), SetO.nil _, fun M e => (by cases e), List.Perm.refl _⟩, ⟨h.sD, hvD⟩, fun b hb => ?_, fun x hx => (by cases hx), h.ne⟩, ⟨e2.os, e2.tape, e2.output, by omega, fun b hb => Or.inl hb.1, fun b hb hn => e2.block b hb (fun e => hn (by cases e; exact h.sD))⟩, fun bk off m cap _ e => ?_⟩
    · have := h.bd b hb.1
      exact ⟨this.1, by omega⟩
    · exact ⟨h3 bk (by rw [e]; rfl), fun e4 => e4.2 (by rw [e]; rfl)⟩
  obtain ⟨a, cap, rfl⟩ := h2.form
  have c0 : w.cell? ⟨D, 0, none⟩ = some (.slice a l.length cap) := by simp [World.cell?, h1]
  have H1 : Hid _ := h1
  have FIN : Hid _ := fin
  clear h1 h2 h3 h4 h5 h6 h hvD fin
  go_enter Try.func27, Try.ntmps27
  go_wp2_with (refine wpList_store_two rfl _ _ rfl D (.slice none 0 0) (.map none) _ _ r rfl rfl T H1.out rfl rfl ?_; intro w1 e1 e2 e3)
  go_ret
  exact ⟨_, rfl, FIN.out w1 e1 e2 e3⟩
theorem ints_is_nil (w : World) : (binOp .eql 26 (.slice none 0 0) (.slice none 0 0)).run Try.prog w = .ok (.bool true) w := by kernel_rfl
theorem ints_no_nil (a : Addr) (n c : Nat) (w : World) : (binOp .eql 26 (.slice (some a) n c) (.slice none 0 0)).run Try.prog w = .ok (.bool false) w := by kernel_rfl
set_option maxHeartbeats 3200000 in
set_option maxRecDepth 100000 in
theorem clone_any {v : Value} (h : RowAt intC w v l) (hl : l.length ≤ 65536) : Calls Try.prog 30 #[v] w fun e w' => ∃ u, e = .returned u ∧ RowAt intC w' u l ∧ Below w.heap.size w w' := by
  obtain ⟨i0, hi, hz0, hz1, hz2⟩ := info_parts infoI
  obtain ⟨a, cap, rfl, h1, h2, h3⟩ := h.ex
  cases a with
  | none =>
    obtain ⟨e0, rfl⟩ := h2 rfl
    obtain rfl : l = [] := List.eq_nil_of_length_eq_zero e0
    have heq := ints_is_nil
    have HR : Hid (RowAt intC w (.slice none 0 0) []) := h
    have eL : ([] : List Int).length = 0 := rfl
    rw [eL]
    clear h h1 h2 h3 hl e0 eL
    go_enter Try.func30, Try.ntmps30
    go_wp2
    go_ret
    exact ⟨_, rfl, HR.out, Below.refl _ _⟩
  | some a =>
    have heq := ints_no_nil
    have HR : Hid (RowAt intC (w.alloc (.cells #[] 3)) (.slice (some a) l.length cap) l) := h.fresh ((Below.refl _ w).alloc (Nat.le_refl _) _)
    have HO : Hid ((w.alloc (.cells #[] 3)).ownsRow w.heap.size 3 1 (.slice (some ⟨w.heap.size, 0, none⟩) 0 0) 0 []) := World.ownsRow_lit w #[] 0 (Nat.le_refl _) (by unfold maxLen; simp) (by simp)
    have HB : Hid _ := (Below.refl _ w).alloc (Nat.le_refl _) (.cells #[] 3)
    clear h h1 h2 h3
    go_enter Try.func30, Try.ntmps30
    go_wp2_with (at_builtin; refine wpList_app_row (l := l) (enc := intC) (k := 1) rfl (.tmp 5) (.tmp 6) 26 3 rfl i0 _ 8 Try.underlying26 hi hz0 hz1 hz2 rfl (by decide) intC_len intC_one rfl rfl HO.out HR.out (by simp) (by simp; omega) (by omega) ?_; intro u5 w5 o5 a5; obtain ⟨p5, n5, c5, rfl⟩ := own_form o5)
    go_ret
    refine ⟨_, rfl, RowAt.own intC_len (base := w.heap.size) (T := 3) (by simpa using o5), HB.out.trans a5.below⟩
set_option maxHeartbeats 3200000 in
set_option maxRecDepth 100000 in
theorem j_all (h : JAt w base D S T r l) (hl : l.length ≤ 65536) : Calls Try.prog 28 #[.pointer (some ⟨D, 0, none⟩)] w fun e w' => ∃ u, e = .returned u ∧ RowAt intC w' u l ∧ Below w.heap.size w w' := by
  obtain ⟨v, mo, ks, h1, h2, h3, h4, h5, h6⟩ := h.ex
  have hc := clone_any (h2.row intC_len) hl
  obtain ⟨a, cap, rfl⟩ := h2.form
  have c0 : w.cell? ⟨D, 0, none⟩ = some (.slice a l.length cap) := by simp [World.cell?, h1]
  clear h1 h2 h3 h4 h5 h6 h
  go_enter Try.func28, Try.ntmps28
  go_wp2_with (go_at_call 30; refine hc.mono ?_; rintro e w1 ⟨u, rfl, r1, b1⟩; obtain ⟨pu, cu, rfl⟩ := r1.form)
  go_ret
  exact ⟨_, rfl, r1, b1⟩
end
end Go.Proofs.Ytcjmohfglggonaa
