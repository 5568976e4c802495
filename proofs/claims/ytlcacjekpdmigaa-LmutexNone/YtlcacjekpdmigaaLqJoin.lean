/-
  One more waits for a lock (package lmutex), behind all others. The conditions: it does not wait yet; fewer than 65536 wait.
-/
import Derived.Test.YtlcacjekpdmigaaLqMem
namespace Go.Proofs.Ytlcacjekpdmigaa
open Go.RowKit

section
variable {w w3 : World} {base D M : Nat} {S : Nat → Prop} {T : TypeId} {x y v : Value} {q : List Wt} {ks : List Int}
/-- Behind the set's growth: the row grows, and all is in its place. -/
theorem join_fin (h : QAt w base D S T x y q) (t : Int) (rd : Bool) (ht : okI t) (hD : w3.heap[D]? = some (.cells #[v, .map (some M), x, y] T (0, 0))) (hs : Slid waitC 3 72 w3 v q) (hv : ∀ g, v.ownBlock = some g → S g) (hm : SetAt w3 M (ks ++ [t])) (hM : S M ∨ w.heap.size ≤ M) (hxM : x ≠ .map (some M)) (hp : ks.Perm (q.map (·.1)))
    (k3 : Kept w w3 S (fun b => S b ∨ w.heap.size ≤ b ∧ b < w3.heap.size)) (hx : XKept w w3 x) (o : Obj) (u : Value) (w5 : World) (h5 : Slid waitC 3 72 w5 u (q ++ [(t, rd, true)])) (g5 : (w3.alloc o).grownBy w5 v.ownBlock) (l5 : u.ownBlock = v.ownBlock ∨ u.ownBlock = some (w3.heap.size + 1)) :
    ∃ S', QAt (w5.setCell ⟨D, 0, none⟩ u) base D S' T x y (q ++ [(t, rd, true)]) ∧ Kept w (w5.setCell ⟨D, 0, none⟩ u) S S' ∧ XKept w (w5.setCell ⟨D, 0, none⟩ u) x ∧ (∀ b, S b → S' b) := by
  have ho : ∀ b, b ≠ D → (w5.setCell ⟨D, 0, none⟩ u).heap[b]? = w5.heap[b]? := fun b hb => heap_setCell_other _ _ _ _ (by simpa using hb)
  have hDl := lt_of_block hD
  have hvD : v.ownBlock ≠ some D := hs.ne hD h.ne
  have hal : ∀ b, b < w3.heap.size → (w3.alloc o).heap[b]? = w3.heap[b]? := fun b hb => Below.heap_alloc w3 o b hb
  have hsz5 : w3.heap.size + 1 ≤ w5.heap.size := by have := g5.size; simpa using this
  have hD5 : w5.heap[D]? = some (.cells #[v, .map (some M), x, y] T (0, 0)) := by
    rw [g5.block D (by simp; omega) (fun e => hvD e.symm), hal D hDl, hD]
  have hD6 : (w5.setCell ⟨D, 0, none⟩ u).heap[D]? = some (.cells #[u, .map (some M), x, y] T (0, 0)) := by
    rw [heap_setCell_same w5 D 0 _ _ _ hD5]
    rfl
  have hMv : v.ownBlock ≠ some M := fun e => by
    obtain ⟨cur, hb⟩ := hs.block e
    exact hm.ne hb rfl
  have hMl := hm.lt
  have hM5 : w5.heap[M]? = w3.heap[M]? := by
    rw [g5.block M (by simp; omega) (fun e => hMv e.symm), hal M hMl]
  have huD : u.ownBlock ≠ some D := h5.ne hD5 h.ne
  have hsw := k3.size
  refine ⟨fun b => S b ∨ w.heap.size ≤ b ∧ b < w5.heap.size, ⟨⟨u, some M, ks ++ [t], hD6, h5.keep (fun g hg => ho g (fun e => huD (by rw [hg, e]))), fun g hg => ?_, SetO.some ((hm.keep hM5).keep (ho M (hm.ne hD))), fun M' e => ?_, ?_⟩, Or.inl h.sD, fun b hb => ?_, fun p hp => ?_, h.ne, fun M' e => (by have := h.xb M' e; simp; omega)⟩, ?_, fun M' es c e1 e2 => ?_, fun b hb => Or.inl hb⟩
  · have hlt := h5.lt hg
    rcases l5 with l5 | l5
    · exact Or.inl (hv g (by rw [← l5]; exact hg))
    · rw [hg] at l5
      have := Option.some.inj l5
      exact Or.inr ⟨by omega, hlt⟩
  · cases e
    exact ⟨hM.imp id (fun h => ⟨h, by omega⟩), hxM⟩
  · rw [List.map_append]
    exact List.Perm.append_right _ hp
  · rcases hb with hb | hb
    · have := h.bd b hb
      exact ⟨this.1, by simp; omega⟩
    · have := h.base_le
      exact ⟨by omega, by simpa using hb.2⟩
  · rcases List.mem_append.1 hp with hp | hp
    · exact h.lo p hp
    · rw [List.mem_singleton] at hp
      rw [hp]
      exact ht
  · refine ⟨by rw [← k3.os]; exact g5.os, by rw [← k3.tape]; exact g5.tape, by rw [← k3.output]; exact g5.output, by simp; omega, fun b hb => hb.imp id (fun h => h.1), fun b hb hn => ?_⟩
    rw [ho b (fun e => hn (by rw [e]; exact h.sD)), g5.block b (by simp; omega) (fun e => hn (hv b e.symm)), hal b (by omega), k3.kept b hb hn]
  · have hb : M' < w.heap.size := (Array.getElem?_eq_some_iff.1 e2).1
    have e3 := (hx M' es c e1 e2).trans e2
    have hMD : M' ≠ D := fun e => by rw [e, hD] at e3; cases e3
    have hMv' : v.ownBlock ≠ some M' := fun e => by
      obtain ⟨cur, hb⟩ := hs.block e
      rw [e3] at hb
      cases hb
    rw [ho M' hMD, g5.block M' (by simp; omega) (fun e => hMv' e.symm), hal M' (by omega), e3, e2]
set_option maxHeartbeats 6400000 in
set_option maxRecDepth 100000 in
theorem q_join (h : QAt w base D S T x y q) (t : Int) (rd : Bool) (ht : okI t) (hn : qHas q t = false) (hq : q.length < 65536) :
    Calls Try.prog 31 #[.pointer (some ⟨D, 0, none⟩), .int .i64 t, .bool rd] w fun e w' => e = .returned (.tuple #[]) ∧ ∃ S', QAt w' base D S' T x y (q ++ [(t, rd, true)]) ∧ Kept w w' S S' ∧ XKept w w' x ∧ (∀ b, S b → S' b) := by
  obtain ⟨i0, hi, hz0, hz1, hz2⟩ := info_parts infoW
  obtain ⟨v, mo, ks, h1, h2, h3, h4, h5, h6⟩ := h.ex
  obtain ⟨a, cap, rfl⟩ := h2.form
  have hnk : t ∉ ks := fun e => by
    have := qHas_iff.2 (h6.mem_iff.1 e)
    rw [hn] at this
    cases this
  have hkl : ks.length < maxLen := by
    have := h6.length_eq
    rw [List.length_map] at this
    unfold maxLen
    omega
  have hD := lt_of_block h1
  have hvD : Value.ownBlock (.slice a q.length cap) ≠ some D := h2.ne h1 h.ne
  have c0 : w.cell? ⟨D, 0, none⟩ = some (.slice a q.length cap) := by simp [World.cell?, h1]
  have c1 : w.cell? ⟨D, 1, none⟩ = some (.map mo) := by simp [World.cell?, h1]
  have f0 : w.frozen? ⟨D, 0, none⟩ = false := by simp [World.frozen?, h1]
  have f1 : w.frozen? ⟨D, 1, none⟩ = false := by simp [World.frozen?, h1]
  have HC : Hid _ := h
  have H2 : Hid _ := h2
  have H3 : Hid _ := h3
  have H6 : Hid _ := h6
  rcases h4.ex with ⟨rfl, rfl⟩ | ⟨M, rfl, h7⟩
  · have hmk := @run_makeMap Try.prog
    have heq := map_is_nil
    have e1 : ((w.alloc (.map #[] 0)).setCell ⟨D, 1, none⟩ (.map (some w.heap.size))).heap[D]? = some (.cells #[.slice a q.length cap, .map (some w.heap.size), x, y] T (0, 0)) := by
      rw [heap_setCell_same _ D 1 _ _ _ ((Below.heap_alloc w _ D hD).trans h1)]
      rfl
    have z1 : ((w.alloc (.map #[] 0)).setCell ⟨D, 1, none⟩ (.map (some w.heap.size))).cell? ⟨D, 1, none⟩ = some (.map (some w.heap.size)) := by simp [World.cell?, e1]
    have z2 : (w.alloc (.map #[] 0)).cell? ⟨D, 1, none⟩ = some (.map none) := (World.cell?_of_block (a := ⟨D, 1, none⟩) (Below.heap_alloc w _ D hD)).trans c1
    have z3 : (w.alloc (.map #[] 0)).frozen? ⟨D, 1, none⟩ = false := (World.frozen?_of_block (a := ⟨D, 1, none⟩) (Below.heap_alloc w _ D hD)).trans f1
    have ho : ∀ b, b ≠ D → ((w.alloc (.map #[] 0)).setCell ⟨D, 1, none⟩ (.map (some w.heap.size))).heap[b]? = (w.alloc (.map #[] 0)).heap[b]? := fun b hb => heap_setCell_other _ _ _ _ (by simpa using hb)
    have hst := (set_new w).keep (ho w.heap.size (by omega))
    obtain ⟨w3, hup, hs3, hg3, hz3⟩ := set_put hst ht (by unfold maxLen; simp) hnk
    have hb3 : ∀ b, b ≠ w.heap.size → b ≠ D → b < w.heap.size → w3.heap[b]? = w.heap[b]? := fun b hb1 hb2 hb3 => by
      rw [hg3.block b (by simp; omega) (fun e => hb1 (Option.some.inj e)), ho b hb2, Below.heap_alloc w _ b hb3]
    have hD3 : w3.heap[D]? = some (.cells #[.slice a q.length cap, .map (some w.heap.size), x, y] T (0, 0)) := by
      rw [hg3.block D (by simp; omega) (fun e => by have := Option.some.inj e; omega), e1]
    have hS3 : Slid waitC 3 72 w3 (.slice a q.length cap) q := h2.keep (fun g hg => hb3 g (by have := h2.lt hg; omega) (fun e => hvD (by rw [hg, e])) (h2.lt hg))
    have hsz : w3.heap.size = w.heap.size + 1 := by rw [hz3]; simp
    have K3 : Kept w w3 S (fun b => S b ∨ w.heap.size ≤ b ∧ b < w3.heap.size) := ⟨hg3.os, hg3.tape, hg3.output, by omega, fun b hb => hb.imp id (fun h => h.1), fun b hb hn => hb3 b (by omega) (fun e => hn (by rw [e]; exact h.sD)) hb⟩
    have X3 : XKept w w3 x := fun M' es c e1 e2 => by
      have hb : M' < w.heap.size := (Array.getElem?_eq_some_iff.1 e2).1
      exact hb3 M' (by omega) (fun e => by rw [e, h1] at e2; cases e2) hb
    have hxM : x ≠ .map (some w.heap.size) := fun e => by have := h.xb _ e; omega
    clear e1 ho hst hb3 hsz h4
    have y0 : w3.cell? ⟨D, 0, none⟩ = some (.slice a q.length cap) := by simp [World.cell?, hD3]
    have x0 : w3.frozen? ⟨D, 0, none⟩ = false := by simp [World.frozen?, hD3]
    have hD3l := lt_of_block hD3
    have FIN : Hid _ := fun (o : Obj) (u : Value) (w5 : World) => join_fin (w3 := w3) h t rd ht hD3 hS3 h3 hs3 (Or.inr (Nat.le_refl _)) (hxM) h6 K3 X3 o u w5
    have HS3 : Hid _ := hS3
    have HD3 : Hid _ := hD3
    have HVD : Hid _ := hvD
    have fin : ∀ (o : Obj) (w5 : World), (w3.alloc o).grownBy w5 (Value.ownBlock (.slice a q.length cap)) → w5.cell? ⟨D, 0, none⟩ = some (.slice a q.length cap) ∧ w5.frozen? ⟨D, 0, none⟩ = false := fun o w5 g5 => by
      have e5 : w5.heap[D]? = some (.cells #[.slice a q.length cap, .map (some w.heap.size), x, y] T (0, 0)) := by
        rw [g5.block D (by simp; omega) (fun e => hvD e.symm), Below.heap_alloc w3 o D hD3l, hD3]
      exact ⟨by simp [World.cell?, e5], by simp [World.frozen?, e5]⟩
    have FIN2 : Hid _ := fin
    clear fin h h1 h2 h3 h6 hD3 hS3 hs3 hg3 hz3 K3 X3 hn hnk hkl hvD hD
    go_enter Try.func31, Try.ntmps31
    go_wp2_with (at_builtin; refine wpList_app_slid (v := .slice a q.length cap) (k := 3) (enc := waitC) (l := q) (m := [(t, rd, true)]) rfl (.tmp 25) (.tmp 29) 49 rfl i0 _ 16 Try.underlying49 hi hz0 hz1 hz2 rfl waitC_len waitC_one rfl (HS3.out.keep (fun g hg => Below.heap_alloc w3 _ g (HS3.out.lt hg))) ⟨w3.heap.size, 0, none⟩ 1 1 rfl rfl (by exact World.news_of_block (heap_alloc_new w3 _)) (by simp) (by unfold maxLen; simp; omega) (by simp; omega) ?_; intro u5 w5 h5 g5 l5; obtain ⟨y5, x5⟩ := FIN2.out _ w5 g5; obtain ⟨p5, n5, rfl⟩ : ∃ p n, u5 = .slice p (q.length + 1) n := (by obtain ⟨a, c, e⟩ := h5.form; exact ⟨a, c, by rw [e]; simp⟩))
    go_returns
    exact ⟨rfl, FIN.out _ _ _ h5 g5 (by simpa using l5)⟩
  · have heq := map_no_nil M
    obtain ⟨w3, hup, hs3, hg3, hz3⟩ := set_put h7 ht hkl hnk
    have hMD : M ≠ D := h7.ne h1
    have hMv : Value.ownBlock (.slice a q.length cap) ≠ some M := fun e => by
      obtain ⟨cur, hb⟩ := h2.block e
      exact h7.ne hb rfl
    have hb3 : ∀ b, b ≠ M → b < w.heap.size → w3.heap[b]? = w.heap[b]? := fun b hb1 hb2 => hg3.block b hb2 (fun e => hb1 (Option.some.inj e))
    have hD3 : w3.heap[D]? = some (.cells #[.slice a q.length cap, .map (some M), x, y] T (0, 0)) := (hb3 D (fun e => hMD e.symm) hD).trans h1
    have hS3 : Slid waitC 3 72 w3 (.slice a q.length cap) q := h2.keep (fun g hg => hb3 g (fun e => hMv (by rw [hg, e])) (h2.lt hg))
    have K3 : Kept w w3 S (fun b => S b ∨ w.heap.size ≤ b ∧ b < w3.heap.size) := ⟨hg3.os, hg3.tape, hg3.output, by omega, fun b hb => hb.imp id (fun h => h.1), fun b hb hn => hb3 b (fun e => hn (by rw [e]; exact (h5 M rfl).1)) hb⟩
    have X3 : XKept w w3 x := fun M' es c e1 e2 => by
      have hb : M' < w.heap.size := (Array.getElem?_eq_some_iff.1 e2).1
      exact hb3 M' (fun e => (h5 M rfl).2 (by rw [e1, e])) hb
    have hM5 := h5 M rfl
    clear h4 h7 h5 hMD hMv hb3
    have y0 : w3.cell? ⟨D, 0, none⟩ = some (.slice a q.length cap) := by simp [World.cell?, hD3]
    have x0 : w3.frozen? ⟨D, 0, none⟩ = false := by simp [World.frozen?, hD3]
    have hD3l := lt_of_block hD3
    have FIN : Hid _ := fun (o : Obj) (u : Value) (w5 : World) => join_fin (w3 := w3) h t rd ht hD3 hS3 h3 hs3 (Or.inl hM5.1) (hM5.2) h6 K3 X3 o u w5
    have HS3 : Hid _ := hS3
    have HD3 : Hid _ := hD3
    have HVD : Hid _ := hvD
    have fin : ∀ (o : Obj) (w5 : World), (w3.alloc o).grownBy w5 (Value.ownBlock (.slice a q.length cap)) → w5.cell? ⟨D, 0, none⟩ = some (.slice a q.length cap) ∧ w5.frozen? ⟨D, 0, none⟩ = false := fun o w5 g5 => by
      have e5 : w5.heap[D]? = some (.cells #[.slice a q.length cap, .map (some M), x, y] T (0, 0)) := by
        rw [g5.block D (by simp; omega) (fun e => hvD e.symm), Below.heap_alloc w3 o D hD3l, hD3]
      exact ⟨by simp [World.cell?, e5], by simp [World.frozen?, e5]⟩
    have FIN2 : Hid _ := fin
    clear fin h h1 h2 h3 h6 hD3 hS3 hs3 hg3 hz3 K3 X3 hn hnk hkl hvD hD
    go_enter Try.func31, Try.ntmps31
    go_wp2_with (at_builtin; refine wpList_app_slid (v := .slice a q.length cap) (k := 3) (enc := waitC) (l := q) (m := [(t, rd, true)]) rfl (.tmp 25) (.tmp 29) 49 rfl i0 _ 16 Try.underlying49 hi hz0 hz1 hz2 rfl waitC_len waitC_one rfl (HS3.out.keep (fun g hg => Below.heap_alloc w3 _ g (HS3.out.lt hg))) ⟨w3.heap.size, 0, none⟩ 1 1 rfl rfl (by exact World.news_of_block (heap_alloc_new w3 _)) (by simp) (by unfold maxLen; simp; omega) (by simp; omega) ?_; intro u5 w5 h5 g5 l5; obtain ⟨y5, x5⟩ := FIN2.out _ w5 g5; obtain ⟨p5, n5, rfl⟩ : ∃ p n, u5 = .slice p (q.length + 1) n := (by obtain ⟨a, c, e⟩ := h5.form; exact ⟨a, c, by rw [e]; simp⟩))
    go_returns
    exact ⟨rfl, FIN.out _ _ _ h5 g5 (by simpa using l5)⟩
end
end Go.Proofs.Ytlcacjekpdmigaa
