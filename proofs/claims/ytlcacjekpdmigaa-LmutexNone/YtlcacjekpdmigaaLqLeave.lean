/-
  The first of those that wait for a lock (package lmutex) leaves the queue. No condition.
-/
import Derived.Test.YtlcacjekpdmigaaLqJoin
import Derived.Test.YtlcacjekpdmigaaGStore
namespace Go.Proofs.Ytlcacjekpdmigaa
open Go.RowKit

section
variable {w : World} {base D : Nat} {S : Nat → Prop} {T : TypeId} {x y : Value} {q : List Wt}
theorem leave_fin {w3 w4 wE : World} {M : Nat} {ks : List Int} {v u : Value} {t : Int} {r b : Bool} (h : QAt w base D S T x y ((t, r, b) :: q)) (h1 : w.heap[D]? = some (.cells #[v, .map (some M), x, y] T (0, 0))) (h2 : Slid waitC 3 72 w v ((t, r, b) :: q)) (h2u : Slid waitC 3 72 w u q) (hub : u.ownBlock = v.ownBlock) (h3 : ∀ g, v.ownBlock = some g → S g) (h5 : S M ∧ x ≠ .map (some M)) (h6 : ks.Perm (((t, r, b) :: q).map (·.1))) (h7 : SetAt w M ks)
    (hD3 : w3.heap[D]? = some (.cells #[u, .map (some M), x, y] T (0, 0))) (hk3 : ∀ b, b < w.heap.size → b ≠ D → w3.heap[b]? = w.heap[b]?) (hs3 : w.heap.size ≤ w3.heap.size) (o3 : w3.os = w.os ∧ w3.tape = w.tape ∧ w3.output = w.output) (g4 : w3.drew.grownBy w4 (some M)) (hs4 : SetAt w4 M (ks.filter fun y => !(y == t))) (gE : w4.grownBy wE (some w.heap.size)) :
    ∃ S', QAt wE base D S' T x y q ∧ Kept w wE S S' ∧ XKept w wE x ∧ (∀ b, S b → S' b) := by
  have hMl := h7.lt
  have hDl := lt_of_block h1
  have hMD : M ≠ D := h7.ne h1
  have s4 : w3.heap.size ≤ w4.heap.size := g4.size
  have hb : ∀ b, b < w.heap.size → b ≠ M → b ≠ D → wE.heap[b]? = w.heap[b]? := fun b hb h8 h9 => by
    rw [gE.block b (by omega) (fun e => by have := Option.some.inj e; omega), g4.block b (by show b < w3.heap.size; omega) (fun e => h8 (Option.some.inj e))]
    exact hk3 b hb h9
  have hDE : wE.heap[D]? = some (.cells #[u, .map (some M), x, y] T (0, 0)) := by
    rw [gE.block D (by omega) (fun e => by have := Option.some.inj e; omega), g4.block D (by show D < w3.heap.size; omega) (fun e => hMD (Option.some.inj e).symm)]
    exact hD3
  have hME := gE.block M (by omega) (fun e => by have := Option.some.inj e; omega)
  have hvD : v.ownBlock ≠ some D := h2.ne h1 h.ne
  have hvM : v.ownBlock ≠ some M := fun e => by
    obtain ⟨cur, hb⟩ := h2.block e
    exact h7.ne hb rfl
  have hsE : w.heap.size ≤ wE.heap.size := Nat.le_trans hs3 (Nat.le_trans s4 gE.size)
  refine ⟨S, ⟨⟨u, some M, _, hDE, h2u.keep (fun g hg => ?_), fun g hg => h3 g (by rw [← hub]; exact hg), SetO.some (hs4.keep hME), fun M' e => ?_, ?_⟩, h.sD, fun b hb => ⟨(h.bd b hb).1, Nat.lt_of_lt_of_le (h.bd b hb).2 hsE⟩, fun p hp => h.lo p (List.mem_cons_of_mem _ hp), h.ne, fun M' e => Nat.lt_of_lt_of_le (h.xb M' e) hsE⟩, ⟨?_, ?_, ?_, hsE, fun b hb => Or.inl hb, fun b hb1 hn => hb b hb1 (fun e => hn (by rw [e]; exact h5.1)) (fun e => hn (by rw [e]; exact h.sD))⟩, fun M' es c e1 e2 => ?_, fun b hb => hb⟩
  · rw [hub] at hg
    exact hb g (h2.lt hg) (fun e => hvM (by rw [hg, e])) (fun e => hvD (by rw [hg, e]))
  · cases e
    exact h5
  · have hnd := h.nodup
    rw [List.map_cons, List.nodup_cons] at hnd
    have h8 := h6.filter (fun y => !(y == t))
    have e8 : (q.map (·.1)).filter (fun y => !(y == t)) = q.map (·.1) := List.filter_eq_self.2 (fun z hz => by
      have : z ≠ t := fun e => hnd.1 (by rw [← e]; exact hz)
      simpa using this)
    rw [List.map_cons, List.filter_cons, if_neg (by simp), e8] at h8
    exact h8
  · rw [gE.os, g4.os]
    exact o3.1
  · rw [gE.tape, g4.tape]
    exact o3.2.1
  · rw [gE.output, g4.output]
    exact o3.2.2
  · exact hb M' (Array.getElem?_eq_some_iff.1 e2).1 (fun e => h5.2 (by rw [e1, e])) (fun e => by rw [e, h1] at e2; cases e2)
set_option maxHeartbeats 6400000 in
set_option maxRecDepth 100000 in
theorem q_leave {t : Int} {r b : Bool} (h : QAt w base D S T x y ((t, r, b) :: q)) :
    Calls Try.prog 29 #[.pointer (some ⟨D, 0, none⟩)] w fun e w' => e = .returned (.agg #[.int .i64 t, .bool r, .bool b]) ∧ ∃ S', QAt w' base D S' T x y q ∧ Kept w w' S S' ∧ XKept w w' x ∧ (∀ b, S b → S' b) := by
  obtain ⟨i0, hi, hz0, hz1, hz2⟩ := info_parts infoW
  obtain ⟨v, mo, ks, h1, h2, h3, h4, h5, h6⟩ := h.ex
  obtain ⟨u, hsl, h2u, hub⟩ := h2.tail 49 i0 Try.underlying49 rfl hi hz1 waitC_len
  obtain ⟨a, cap, rfl⟩ := h2.form
  obtain ⟨ua, ucap, rfl⟩ := h2u.form
  have ht : okI t := h.lo (t, r, b) (by simp)
  rw [List.length_cons] at hsl
  rcases h4.ex with ⟨_, rfl⟩ | ⟨M, rfl, h7⟩
  · have := h6.length_eq
    simp at this
  have hD := lt_of_block h1
  have hMl := h7.lt
  have hf := q_first (h.fresh ((Below.refl _ w).alloc (Nat.le_refl _) (.cells #[.int .i64 0, .bool false, .bool false] 72)))
  have hB0 := heap_alloc_new w (.cells #[.int .i64 0, .bool false, .bool false] 72)
  have hsz0 : (w.alloc (.cells #[.int .i64 0, .bool false, .bool false] 72)).heap.size = w.heap.size + 1 := by simp
  have hbl0 : ∀ b, b < w.heap.size → (w.alloc (.cells #[.int .i64 0, .bool false, .bool false] 72)).heap[b]? = w.heap[b]? := fun b hb => Below.heap_alloc w _ b hb
  have st : ∀ w1 : World, Below (w.alloc (.cells #[.int .i64 0, .bool false, .bool false] 72)).heap.size (w.alloc (.cells #[.int .i64 0, .bool false, .bool false] 72)) w1 →
      w1.heap[D]? = some (.cells #[.slice a (q.length + 1) cap, .map (some M), x, y] T (0, 0)) ∧ w1.heap[w.heap.size]? = some (.cells #[.int .i64 0, .bool false, .bool false] 72 (0, 0)) ∧ w.heap.size + 1 ≤ w1.heap.size ∧ ∀ b, b < w.heap.size → w1.heap[b]? = w.heap[b]? := fun w1 b1 => by
    have hsz := b1.size
    rw [hsz0] at hsz
    refine ⟨?_, ?_, hsz, fun b hb => ?_⟩
    · rw [b1.block D (by rw [hsz0]; omega), hbl0 D hD, h1]
      rfl
    · rw [b1.block _ (by rw [hsz0]; omega), hB0]
    · rw [b1.block b (by rw [hsz0]; omega), hbl0 b hb]
  have ST : Hid _ := st
  have st2 : ∀ w1 : World, w1.heap[D]? = some (.cells #[.slice a (q.length + 1) cap, .map (some M), x, y] T (0, 0)) → 
      (w1.alloc (.cells #[.int .i64 t, .bool r, .bool b] 72)).cell? ⟨D, 0, none⟩ = some (.slice a (q.length + 1) cap) ∧ (w1.alloc (.cells #[.int .i64 t, .bool r, .bool b] 72)).frozen? ⟨D, 0, none⟩ = false := fun w1 e => by
    have e2 := (Below.heap_alloc w1 (.cells #[.int .i64 t, .bool r, .bool b] 72) D (lt_of_block e)).trans e
    exact ⟨by simp [World.cell?, e2], by simp [World.frozen?, e2]⟩
  have ST2 : Hid _ := st2
  have H : Hid _ := h
  have H7 : Hid (SetAt w M ks) := h7
  have H2U : Hid _ := h2u
  have HUB : Hid _ := hub
  have H2 : Hid _ := h2
  have H1 : Hid _ := h1
  have H3 : Hid _ := h3
  have H5 : Hid _ := h5
  have H6 : Hid _ := h6
  clear st st2 h1 h2 h2u hub h3 h4 h5 h6 h7 hB0 hsz0 hbl0 h
  go_enter Try.func29, Try.ntmps29
  go_wp2_with (go_at_call 34; refine hf.mono ?_; rintro e w1 ⟨rfl, b1⟩; obtain ⟨hD1, hB1, hs1, hk1⟩ := ST.out w1 b1; obtain ⟨zc, zf⟩ := ST2.out w1 hD1)
  obtain ⟨B1, hB1e⟩ : ∃ B1, B1 = w1.heap.size := ⟨_, rfl⟩
  obtain ⟨w3, hw3⟩ : ∃ w3, w3 = ((w1.alloc (.cells #[.int .i64 t, .bool r, .bool b] 72)).setCell ⟨D, 0, none⟩ (.slice ua q.length ucap)) := ⟨_, rfl⟩
  rw [← hB1e, ← hw3]
  have e1 := (Below.heap_alloc w1 (.cells #[.int .i64 t, .bool r, .bool b] 72) D (lt_of_block hD1)).trans hD1
  have hD3 : w3.heap[D]? = some (.cells #[.slice ua q.length ucap, .map (some M), x, y] T (0, 0)) := by
    rw [hw3, heap_setCell_same _ D 0 _ _ _ e1]
    rfl
  have ho : ∀ c, c ≠ D → w3.heap[c]? = (w1.alloc (.cells #[.int .i64 t, .bool r, .bool b] 72)).heap[c]? := fun c hb => by
    rw [hw3]
    exact heap_setCell_other _ _ _ _ (by simpa using hb)
  have hB3 : w3.heap[B1]? = some (.cells #[.int .i64 t, .bool r, .bool b] 72 (0, 0)) := by
    rw [ho B1 (by omega), hB1e]
    exact heap_alloc_new w1 _
  have hR3 : w3.heap[w.heap.size]? = some (.cells #[.int .i64 0, .bool false, .bool false] 72 (0, 0)) := by
    rw [ho _ (by omega), Below.heap_alloc w1 _ _ (by omega), hB1]
  have hk3 : ∀ b, b < w.heap.size → b ≠ D → w3.heap[b]? = w.heap[b]? := fun b hb hn => by
    rw [ho b hn, Below.heap_alloc w1 _ _ (by omega), hk1 b hb]
  have hs3 : w3.heap.size = w1.heap.size + 1 := by
    rw [hw3]
    simp
  have o3 : w3.os = w.os ∧ w3.tape = w.tape ∧ w3.output = w.output := by
    rw [hw3]
    exact ⟨b1.os, b1.tape, b1.output⟩
  have hMD : M ≠ D := H7.out.ne H1.out
  have hM3 : SetAt w3.drew M ks := H7.out.keep (hk3 M hMl hMD)
  obtain ⟨w4, hdel, hs4, hg4, hz4⟩ := set_del hM3 ht 0
  have hb4 : ∀ b, b ≠ M → b < w3.heap.size → w4.heap[b]? = w3.heap[b]? := fun b hb hb2 => hg4.block b hb2 (fun e => hb (Option.some.inj e))
  have hD4 := (hb4 D (fun e => hMD e.symm) (by omega)).trans hD3
  have hB4 := (hb4 B1 (by omega) (by omega)).trans hB3
  have hR4 := (hb4 w.heap.size (by omega) (by omega)).trans hR3
  have zc3 : w3.cell? ⟨D, 1, none⟩ = some (.map (some M)) := by simp [World.cell?, hD3]
  have zb3 : w3.cell? ⟨B1, 0, none⟩ = some (.int .i64 t) := by simp [World.cell?, hB3]
  have zc4 : w4.cell? ⟨D, 1, none⟩ = some (.map (some M)) := by simp [World.cell?, hD4]
  have zb4 : w4.cell? ⟨B1, 0, none⟩ = some (.int .i64 t) := by simp [World.cell?, hB4]
  have zb41 : w4.cell? ⟨B1, 1, none⟩ = some (.bool r) := by simp [World.cell?, hB4]
  have zb42 : w4.cell? ⟨B1, 2, none⟩ = some (.bool b) := by simp [World.cell?, hB4]
  have FIN : Hid _ := fun (wE : World) (gE : w4.grownBy wE (some w.heap.size)) => leave_fin H.out H1.out H2.out H2U.out HUB.out H3.out (H5.out M rfl) H6.out H7.out hD3 hk3 (by omega) o3 hg4 hs4 gE
  clear hw3 hB1e e1 hD3 ho hB3 hR3 hk3 hs3 o3 hMD hM3 hs4 hg4 hz4 hb4 hD4 hB4 zc zf hD1 hB1 hs1 hk1 hf
  refine wp_region_held_drew (S := (fun w' : World => w'.cell? ⟨D, 1, none⟩ = some (.map (some M)) ∧ w'.cell? ⟨B1, 0, none⟩ = some (.int .i64 t))) (by kernel_rfl) ?_ (fun hHeld0 => ?_)
  · try dsimp only
    go_keep
  refine tk0 (.pointer (some ⟨D, 0, none⟩)) (by kernel_rfl) (by kernel_rfl) (by kernel_rfl) (fun _ _ _ h => h) rfl (fun w hSw => by (try dsimp only at hSw); obtain ⟨q0, q1⟩ := hSw; go_simp) (by assumption) ?_
  try simp only [Act.put, List.setIfInBounds_toArray, List.set_cons_zero, List.set_cons_succ]
  refine tk1 (.pointer (some ⟨D, 0, none⟩)) (by kernel_rfl) (by kernel_rfl) (by kernel_rfl) (fun _ _ _ h => h) rfl (fun w hSw => by (try dsimp only at hSw); obtain ⟨q0, q1⟩ := hSw; go_simp) (by assumption) ?_
  try simp only [Act.put, List.setIfInBounds_toArray, List.set_cons_zero, List.set_cons_succ]
  refine tk2 (.pointer (some ⟨D, 1, none⟩)) (by kernel_rfl) (by kernel_rfl) (by kernel_rfl) (fun _ _ _ h => h) rfl (fun w hSw => by (try dsimp only at hSw); obtain ⟨q0, q1⟩ := hSw; go_simp) (by assumption) ?_
  try simp only [Act.put, List.setIfInBounds_toArray, List.set_cons_zero, List.set_cons_succ]
  refine tk3 (.map (some M)) (by kernel_rfl) (by kernel_rfl) (by kernel_rfl) (fun _ _ _ h => h) rfl (fun w hSw => by (try dsimp only at hSw); obtain ⟨q0, q1⟩ := hSw; go_simp) (by assumption) ?_
  try simp only [Act.put, List.setIfInBounds_toArray, List.set_cons_zero, List.set_cons_succ]
  refine tk4 (.pointer (some ⟨B1, 0, none⟩)) (by kernel_rfl) (by kernel_rfl) (by kernel_rfl) (fun _ _ _ h => h) rfl (fun w hSw => by (try dsimp only at hSw); obtain ⟨q0, q1⟩ := hSw; go_simp) (by assumption) ?_
  try simp only [Act.put, List.setIfInBounds_toArray, List.set_cons_zero, List.set_cons_succ]
  refine tk5 (.int .i64 t) (by kernel_rfl) (by kernel_rfl) (by kernel_rfl) (fun _ _ _ h => h) rfl (fun w hSw => by (try dsimp only at hSw); obtain ⟨q0, q1⟩ := hSw; go_simp) (by assumption) ?_
  try simp only [Act.put, List.setIfInBounds_toArray, List.set_cons_zero, List.set_cons_succ]
  refine cl6 (by kernel_rfl) rfl (fun K hK => ?_)
  go_simp
  refine hK.out _ _ ?_ (fun hHeld => ?_)
  · exact ⟨zc4, zb4⟩
  clear hK K
  try simp only [Act.put, List.setIfInBounds_toArray, List.set_cons_zero, List.set_cons_succ]
  refine wpAnyH_done (by kernel_rfl) ?_ _
  go_wp2_with (show wpList _ _ _ (⟨_, Op.store 72 _ _, _, _, _, _⟩ :: _) _ _; refine store_row_g rfl 72 _ _ rfl w.heap.size #[.int .i64 t, .bool r, .bool b] rfl rfl 72 #[.int .i64 0, .bool false, .bool false] hR4 infoW3 rfl (by simp [Value.oneCell']) ?_; intro wE hE gE)
  refine bodyPost_ret (results_cell_row Try.results29 _ _ w.heap.size 72 _ (0, 0) _ rfl hE Try.underlying72 rfl infoW3) rfl ?_
  exact ⟨rfl, FIN.out wE gE⟩
end
end Go.Proofs.Ytlcacjekpdmigaa
