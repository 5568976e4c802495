/-
  Parts of the proof, laid together: LqMem, LqJoin, LqLeave, MxCodeA, MxCodeB, RwCodeA, RwHold, RwCodeB, RwCodeD. The conditions stand at each part.
-/
import Derived.Test.YthhlglbohibekaaSPackA
import Derived.Test.YthhlglbohibekaaSPackC
import Derived.Test.YthhlglbohibekaaSPackZ
namespace Go.Proofs.Ythhlglbohibekaa
open Go.RowKit

structure QAt (w : World) (base D : Nat) (S : Nat → Prop) (T : TypeId) (x y : Value) (q : List Wt) : Prop where
  ex : ∃ v mo ks, w.heap[D]? = some (.cells #[v, .map mo, x, y] T (0, 0)) ∧ Slid waitC 3 116 w v q ∧ (∀ g, v.ownBlock = some g → S g) ∧ SetO w mo ks ∧ (∀ M, mo = some M → S M ∧ x ≠ .map (some M)) ∧ ks.Perm (q.map (·.1))
  sD : S D
  bd : ∀ b, S b → base ≤ b ∧ b < w.heap.size
  lo : ∀ p ∈ q, okI p.1
  ne : 116 ≠ T
  xb : ∀ M, x = .map (some M) → M < w.heap.size
section
variable {w w' : World} {base base' D : Nat} {S S' : Nat → Prop} {T : TypeId} {x y : Value} {q : List Wt}
theorem QAt.keep (h : QAt w base D S T x y q) (hs : w.heap.size ≤ w'.heap.size) (hk : ∀ b, S b → w'.heap[b]? = w.heap[b]?) : QAt w' base D S T x y q := by
  obtain ⟨v, mo, ks, h1, h2, h3, h4, h5, h6⟩ := h.ex
  exact ⟨⟨v, mo, ks, (hk D h.sD).trans h1, h2.keep (fun g hg => hk g (h3 g hg)), h3, h4.keep (fun M hM => hk M (h5 M hM).1), h5, h6⟩, h.sD, fun b hb => ⟨(h.bd b hb).1, Nat.lt_of_lt_of_le (h.bd b hb).2 hs⟩, h.lo, h.ne, fun M e => Nat.lt_of_lt_of_le (h.xb M e) hs⟩
theorem QAt.fresh (h : QAt w base D S T x y q) (k : Below w.heap.size w w') : QAt w' base D S T x y q := h.keep k.size (fun b hb => k.block b (h.bd b hb).2)
theorem QAt.low (h : QAt w base D S T x y q) (hb : base' ≤ base) : QAt w base' D S T x y q := ⟨h.ex, h.sD, fun b hs => ⟨Nat.le_trans hb (h.bd b hs).1, (h.bd b hs).2⟩, h.lo, h.ne, h.xb⟩
theorem QAt.base_le (h : QAt w base D S T x y q) : base ≤ w.heap.size := by have := h.bd D h.sD; omega
theorem QAt.nodup (h : QAt w base D S T x y q) : (q.map (·.1)).Nodup := by
  obtain ⟨v, mo, ks, h1, h2, h3, h4, h5, h6⟩ := h.ex
  exact h6.nodup_iff.1 h4.nodup
def qHas (q : List Wt) (t : Int) : Bool := q.any fun p => p.1 == t
theorem qHas_iff {q : List Wt} {t : Int} : qHas q t = true ↔ t ∈ q.map (·.1) := by
  unfold qHas
  rw [List.any_eq_true, List.mem_map]
  constructor
  · rintro ⟨p, hp, e⟩
    exact ⟨p, hp, beq_iff_eq.1 e⟩
  · rintro ⟨p, hp, e⟩
    exact ⟨p, hp, beq_iff_eq.2 e⟩
set_option maxHeartbeats 3200000 in
set_option maxRecDepth 100000 in
theorem q_waits (h : QAt w base D S T x y q) (t : Int) (ht : okI t) : Calls Try.prog 96 #[.pointer (some ⟨D, 0, none⟩), .int .i64 t] w fun e w' => e = .returned (.bool (qHas q t)) ∧ Below w.heap.size w w' := by
  obtain ⟨v, mo, ks, h1, h2, h3, h4, h5, h6⟩ := h.ex
  obtain ⟨a, cap, rfl⟩ := h2.form
  have hl := h4.look (x := t) ht
  have e : decide (t ∈ ks) = qHas q t := by
    rw [Bool.eq_iff_iff, decide_eq_true_eq, qHas_iff]
    exact h6.mem_iff
  rw [e] at hl
  have c1 : w.cell? ⟨D, 1, none⟩ = some (.map mo) := by simp [World.cell?, h1]
  have HB : Hid _ := (Below.refl _ w).alloc (Nat.le_refl _) (.cells #[] 177)
  clear h1 h2 h3 h4 h5 h6 h e
  go_enter Try.func96, Try.ntmps96
  go_wp2
  go_ret
  exact ⟨rfl, HB.out⟩
theorem q_anybody (h : QAt w base D S T x y q) : Calls Try.prog 98 #[.pointer (some ⟨D, 0, none⟩)] w fun e w' => e = .returned (.bool (decide (0 < q.length))) ∧ w = w' := by
  obtain ⟨v, mo, ks, h1, h2, h3, h4, h5, h6⟩ := h.ex
  obtain ⟨a, cap, rfl⟩ := h2.form
  have c0 : w.cell? ⟨D, 0, none⟩ = some (.slice a q.length cap) := by simp [World.cell?, h1]
  clear h1 h2 h3 h4 h5 h6 h
  by_cases h0 : 0 < q.length
  · rw [decide_eq_true h0]
    have q0 : decide ((0 : Int) < (q.length : Int)) = true := decide_eq_true (by omega)
    go_enter Try.func98, Try.ntmps98
    go_wp2
    go_ret
    exact ⟨by simp, rfl⟩
  · rw [decide_eq_false h0]
    have q0 : decide ((0 : Int) < (q.length : Int)) = false := decide_eq_false (by omega)
    go_enter Try.func98, Try.ntmps98
    go_wp2
    go_ret
    exact ⟨by simp, rfl⟩
theorem infoW3 : (Try.prog.info? 116).map (·.size) = some 3 := by kernel_rfl
def XKept (w w' : World) (x : Value) : Prop := ∀ M es c, x = .map (some M) → w.heap[M]? = some (.map es c) → w'.heap[M]? = w.heap[M]?
theorem field_task (t : Int) (r b : Bool) (w : World) : (Instr.field 116 (.agg #[.int .i64 t, .bool r, .bool b]) 0).run Try.prog w = .ok (.int .i64 t) w := by kernel_rfl
theorem field_reader (t : Int) (r b : Bool) (w : World) : (Instr.field 116 (.agg #[.int .i64 t, .bool r, .bool b]) 1).run Try.prog w = .ok (.bool r) w := by kernel_rfl
set_option maxHeartbeats 3200000 in
set_option maxRecDepth 100000 in
theorem q_first {t : Int} {r b : Bool} (h : QAt w base D S T x y ((t, r, b) :: q)) : Calls Try.prog 100 #[.pointer (some ⟨D, 0, none⟩)] w fun e w' => e = .returned (.agg #[.int .i64 t, .bool r, .bool b]) ∧ Below w.heap.size w w' := by
  obtain ⟨v, mo, ks, h1, h2, h3, h4, h5, h6⟩ := h.ex
  obtain ⟨bk, off, cap, rfl, hc, hbk, hx⟩ := (h2.row waitC_len).cells waitC_len (by simp)
  have c0 : w.cell? ⟨D, 0, none⟩ = some (.slice (some ⟨bk, off, none⟩) ((t, r, b) :: q).length cap) := by simp [World.cell?, h1]
  have z0 : w.cell? ⟨bk, off, none⟩ = some (.int .i64 t) := hx 0 (by simp) 0 _ (by decide) rfl
  have z1 : w.cell? ⟨bk, off + 1, none⟩ = some (.bool r) := hx 0 (by simp) 1 _ (by decide) rfl
  have z2 : w.cell? ⟨bk, off + 2, none⟩ = some (.bool b) := hx 0 (by simp) 2 _ (by decide) rfl
  have q0 : decide ((0 : Int) < ((q.length : Int) + 1)) = true := decide_eq_true (by omega)
  have hD := lt_of_block h1
  have HB : Hid _ := (Below.refl _ w).alloc (Nat.le_refl _) (.cells #[.int .i64 t, .bool r, .bool b] 116)
  clear h1 h2 h3 h4 h5 h6 h hx
  go_enter Try.func100, Try.ntmps100
  go_wp2
  refine bodyPost_ret (results_cell_row Try.results100 _ _ w.heap.size 116 _ (0, 0) _ rfl (heap_alloc_new w _) Try.underlying116 rfl infoW3) rfl ?_
  exact ⟨rfl, HB.out⟩
end
end Go.Proofs.Ythhlglbohibekaa
namespace Go.Proofs.Ythhlglbohibekaa
open Go.RowKit

section
variable {w w3 : World} {base D M : Nat} {S : Nat → Prop} {T : TypeId} {x y v : Value} {q : List Wt} {ks : List Int}
theorem join_fin (h : QAt w base D S T x y q) (t : Int) (rd : Bool) (ht : okI t) (hD : w3.heap[D]? = some (.cells #[v, .map (some M), x, y] T (0, 0))) (hs : Slid waitC 3 116 w3 v q) (hv : ∀ g, v.ownBlock = some g → S g) (hm : SetAt w3 M (ks ++ [t])) (hM : S M ∨ w.heap.size ≤ M) (hxM : x ≠ .map (some M)) (hp : ks.Perm (q.map (·.1)))
    (k3 : Kept w w3 S (fun b => S b ∨ w.heap.size ≤ b ∧ b < w3.heap.size)) (hx : XKept w w3 x) (o : Obj) (u : Value) (w5 : World) (h5 : Slid waitC 3 116 w5 u (q ++ [(t, rd, true)])) (g5 : (w3.alloc o).grownBy w5 v.ownBlock) (l5 : u.ownBlock = v.ownBlock ∨ u.ownBlock = some (w3.heap.size + 1)) :
    ∃ S', QAt (w5.setCell ⟨D, 0, none⟩ u) base D S' T x y (q ++ [(t, rd, true)]) ∧ Kept w (w5.setCell ⟨D, 0, none⟩ u) S S' ∧ XKept w (w5.setCell ⟨D, 0, none⟩ u) x ∧ (∀ b, S b → S' b) := by
  have ho : ∀ b, b ≠ D → (w5.setCell ⟨D, 0, none⟩ u).heap[b]? = w5.heap[b]? := fun b hb => heap_setCell_other _ _ _ _ (by simpa using hb)
  have hDl := lt_of_block hD
  have hvD : v.ownBlock ≠ some D := hs.ne hD h.ne
  have hal : ∀ b, b < w3.heap.size → (w3.alloc o).heap[b]? = w3.heap[b]? := fun b hb => Below.heap_alloc w3 o b hb
  have hsz5 : w3.heap.size + 1 ≤ w5.heap.size := by have := g5.size; simpa using this
  have hD5 : w5.heap[D]? = some (.cells #[v, .map (some M), x, y] T (0, 0)) := by
    rw [g5.block D (by simp; omega) (fun e => hvD e.symm), hal D hDl, hD]
  have hD6 : (w5.setCell ⟨D, 0, none⟩ u).heap[D]? = some (.cells #[u, .map (some M), x, y] T (0, 0)) := by
    rw [heap_setCell_same w5 D 0 _ _ _ hD5]
    rfl
  have hMv : v.ownBlock ≠ some M := fun e => by
    obtain ⟨cur, hb⟩ := hs.block e
    exact hm.ne hb rfl
  have hMl := hm.lt
  have hM5 : w5.heap[M]? = w3.heap[M]? := by
    rw [g5.block M (by simp; omega) (fun e => hMv e.symm), hal M hMl]
  have huD : u.ownBlock ≠ some D := h5.ne hD5 h.ne
  have hsw := k3.size
  refine ⟨fun b => S b ∨ w.heap.size ≤ b ∧ b < w5.heap.size, ⟨⟨u, some M, ks ++ [t], hD6, h5.keep (fun g hg => ho g (fun e => huD (by rw [hg, e]))), fun g hg => ?_, SetO.some ((hm.keep hM5).keep (ho M (hm.ne hD))), fun M' e => ?_, ?_⟩, Or.inl h.sD, fun b hb => ?_, fun p hp => ?_, h.ne, fun M' e => (by have := h.xb M' e; simp; omega)⟩, ?_, fun M' es c e1 e2 => ?_, fun b hb => Or.inl hb⟩
  · have hlt := h5.lt hg
    rcases l5 with l5 | l5
    · exact Or.inl (hv g (by rw [← l5]; exact hg))
    · rw [hg] at l5
      have := Option.some.inj l5
      exact Or.inr ⟨by omega, hlt⟩
  · cases e
    exact ⟨hM.imp id (fun h => ⟨h, by omega⟩), hxM⟩
  · rw [List.map_append]
    exact List.Perm.append_right _ hp
  · rcases hb with hb | hb
    · have := h.bd b hb
      exact ⟨this.1, by simp; omega⟩
    · have := h.base_le
      exact ⟨by omega, by simpa using hb.2⟩
  · rcases List.mem_append.1 hp with hp | hp
    · exact h.lo p hp
    · rw [List.mem_singleton] at hp
      rw [hp]
      exact ht
  · refine ⟨by rw [← k3.os]; exact g5.os, by rw [← k3.tape]; exact g5.tape, by rw [← k3.output]; exact g5.output, by simp; omega, fun b hb => hb.imp id (fun h => h.1), fun b hb hn => ?_⟩
    rw [ho b (fun e => hn (by rw [e]; exact h.sD)), g5.block b (by simp; omega) (fun e => hn (hv b e.symm)), hal b (by omega), k3.kept b hb hn]
  · have hb : M' < w.heap.size := (Array.getElem?_eq_some_iff.1 e2).1
    have e3 := (hx M' es c e1 e2).trans e2
    have hMD : M' ≠ D := fun e => by rw [e, hD] at e3; cases e3
    have hMv' : v.ownBlock ≠ some M' := fun e => by
      obtain ⟨cur, hb⟩ := hs.block e
      rw [e3] at hb
      cases hb
    rw [ho M' hMD, g5.block M' (by simp; omega) (fun e => hMv' e.symm), hal M' (by omega), e3, e2]
set_option maxHeartbeats 6400000 in
set_option maxRecDepth 100000 in
theorem q_join (h : QAt w base D S T x y q) (t : Int) (rd : Bool) (ht : okI t) (hn : qHas q t = false) (hq : q.length < 65536) :
    Calls Try.prog 97 #[.pointer (some ⟨D, 0, none⟩), .int .i64 t, .bool rd] w fun e w' => e = .returned (.tuple #[]) ∧ ∃ S', QAt w' base D S' T x y (q ++ [(t, rd, true)]) ∧ Kept w w' S S' ∧ XKept w w' x ∧ (∀ b, S b → S' b) := by
  obtain ⟨i0, hi, hz0, hz1, hz2⟩ := info_parts infoW
  obtain ⟨v, mo, ks, h1, h2, h3, h4, h5, h6⟩ := h.ex
  obtain ⟨a, cap, rfl⟩ := h2.form
  have hnk : t ∉ ks := fun e => by
    have := qHas_iff.2 (h6.mem_iff.1 e)
    rw [hn] at this
    cases this
  have hkl : ks.length < maxLen := by
    have := h6.length_eq
    rw [List.length_map] at this
    unfold maxLen
    omega
  have hD := lt_of_block h1
  have hvD : Value.ownBlock (.slice a q.length cap) ≠ some D := h2.ne h1 h.ne
  have c0 : w.cell? ⟨D, 0, none⟩ = some (.slice a q.length cap) := by simp [World.cell?, h1]
  have c1 : w.cell? ⟨D, 1, none⟩ = some (.map mo) := by simp [World.cell?, h1]
  have f0 : w.frozen? ⟨D, 0, none⟩ = false := by simp [World.frozen?, h1]
  have f1 : w.frozen? ⟨D, 1, none⟩ = false := by simp [World.frozen?, h1]
  have HC : Hid _ := h
  have H2 : Hid _ := h2
  have H3 : Hid _ := h3
  have H6 : Hid _ := h6
  rcases h4.ex with ⟨rfl, rfl⟩ | ⟨M, rfl, h7⟩
  · have hmk := @run_makeMap Try.prog
    have heq := map_is_nil
    have e1 : ((w.alloc (.map #[] 0)).setCell ⟨D, 1, none⟩ (.map (some w.heap.size))).heap[D]? = some (.cells #[.slice a q.length cap, .map (some w.heap.size), x, y] T (0, 0)) := by
      rw [heap_setCell_same _ D 1 _ _ _ ((Below.heap_alloc w _ D hD).trans h1)]
      rfl
    have z1 : ((w.alloc (.map #[] 0)).setCell ⟨D, 1, none⟩ (.map (some w.heap.size))).cell? ⟨D, 1, none⟩ = some (.map (some w.heap.size)) := by simp [World.cell?, e1]
    have z2 : (w.alloc (.map #[] 0)).cell? ⟨D, 1, none⟩ = some (.map none) := (World.cell?_of_block (a := ⟨D, 1, none⟩) (Below.heap_alloc w _ D hD)).trans c1
    have z3 : (w.alloc (.map #[] 0)).frozen? ⟨D, 1, none⟩ = false := (World.frozen?_of_block (a := ⟨D, 1, none⟩) (Below.heap_alloc w _ D hD)).trans f1
    have ho : ∀ b, b ≠ D → ((w.alloc (.map #[] 0)).setCell ⟨D, 1, none⟩ (.map (some w.heap.size))).heap[b]? = (w.alloc (.map #[] 0)).heap[b]? := fun b hb => heap_setCell_other _ _ _ _ (by simpa using hb)
    have hst := (set_new w).keep (ho w.heap.size (by omega))
    obtain ⟨w3, hup, hs3, hg3, hz3⟩ := set_put hst ht (by unfold maxLen; simp) hnk
    have hb3 : ∀ b, b ≠ w.heap.size → b ≠ D → b < w.heap.size → w3.heap[b]? = w.heap[b]? := fun b hb1 hb2 hb3 => by
      rw [hg3.block b (by simp; omega) (fun e => hb1 (Option.some.inj e)), ho b hb2, Below.heap_alloc w _ b hb3]
    have hD3 : w3.heap[D]? = some (.cells #[.slice a q.length cap, .map (some w.heap.size), x, y] T (0, 0)) := by
      rw [hg3.block D (by simp; omega) (fun e => by have := Option.some.inj e; omega), e1]
    have hS3 : Slid waitC 3 116 w3 (.slice a q.length cap) q := h2.keep (fun g hg => hb3 g (by have := h2.lt hg; omega) (fun e => hvD (by rw [hg, e])) (h2.lt hg))
    have hsz : w3.heap.size = w.heap.size + 1 := by rw [hz3]; simp
    have K3 : Kept w w3 S (fun b => S b ∨ w.heap.size ≤ b ∧ b < w3.heap.size) := ⟨hg3.os, hg3.tape, hg3.output, by omega, fun b hb => hb.imp id (fun h => h.1), fun b hb hn => hb3 b (by omega) (fun e => hn (by rw [e]; exact h.sD)) hb⟩
    have X3 : XKept w w3 x := fun M' es c e1 e2 => by
      have hb : M' < w.heap.size := (Array.getElem?_eq_some_iff.1 e2).1
      exact hb3 M' (by omega) (fun e => by rw [e, h1] at e2; cases e2) hb
    have hxM : x ≠ .map (some w.heap.size) := fun e => by have := h.xb _ e; omega
    clear e1 ho hst hb3 hsz h4
    have y0 : w3.cell? ⟨D, 0, none⟩ = some (.slice a q.length cap) := by simp [World.cell?, hD3]
    have x0 : w3.frozen? ⟨D, 0, none⟩ = false := by simp [World.frozen?, hD3]
    have hD3l := lt_of_block hD3
    have FIN : Hid _ := fun (o : Obj) (u : Value) (w5 : World) => join_fin (w3 := w3) h t rd ht hD3 hS3 h3 hs3 (Or.inr (Nat.le_refl _)) (hxM) h6 K3 X3 o u w5
    have HS3 : Hid _ := hS3
    have HD3 : Hid _ := hD3
    have HVD : Hid _ := hvD
    have fin : ∀ (o : Obj) (w5 : World), (w3.alloc o).grownBy w5 (Value.ownBlock (.slice a q.length cap)) → w5.cell? ⟨D, 0, none⟩ = some (.slice a q.length cap) ∧ w5.frozen? ⟨D, 0, none⟩ = false := fun o w5 g5 => by
      have e5 : w5.heap[D]? = some (.cells #[.slice a q.length cap, .map (some w.heap.size), x, y] T (0, 0)) := by
        rw [g5.block D (by simp; omega) (fun e => hvD e.symm), Below.heap_alloc w3 o D hD3l, hD3]
      exact ⟨by simp [World.cell?, e5], by simp [World.frozen?, e5]⟩
    have FIN2 : Hid _ := fin
    clear fin h h1 h2 h3 h6 hD3 hS3 hs3 hg3 hz3 K3 X3 hn hnk hkl hvD hD
    go_enter Try.func97, Try.ntmps97
    go_wp2_with (at_builtin; refine wpList_app_slid (v := .slice a q.length cap) (k := 3) (enc := waitC) (l := q) (m := [(t, rd, true)]) rfl (.tmp 25) (.tmp 29) 87 rfl i0 _ 16 Try.underlying87 hi hz0 hz1 hz2 rfl waitC_len waitC_one rfl (HS3.out.keep (fun g hg => Below.heap_alloc w3 _ g (HS3.out.lt hg))) ⟨w3.heap.size, 0, none⟩ 1 1 rfl rfl (by exact World.news_of_block (heap_alloc_new w3 _)) (by simp) (by unfold maxLen; simp; omega) (by simp; omega) ?_; intro u5 w5 h5 g5 l5; obtain ⟨y5, x5⟩ := FIN2.out _ w5 g5; obtain ⟨p5, n5, rfl⟩ : ∃ p n, u5 = .slice p (q.length + 1) n := (by obtain ⟨a, c, e⟩ := h5.form; exact ⟨a, c, by rw [e]; simp⟩))
    go_returns
    exact ⟨rfl, FIN.out _ _ _ h5 g5 (by simpa using l5)⟩
  · have heq := map_no_nil M
    obtain ⟨w3, hup, hs3, hg3, hz3⟩ := set_put h7 ht hkl hnk
    have hMD : M ≠ D := h7.ne h1
    have hMv : Value.ownBlock (.slice a q.length cap) ≠ some M := fun e => by
      obtain ⟨cur, hb⟩ := h2.block e
      exact h7.ne hb rfl
    have hb3 : ∀ b, b ≠ M → b < w.heap.size → w3.heap[b]? = w.heap[b]? := fun b hb1 hb2 => hg3.block b hb2 (fun e => hb1 (Option.some.inj e))
    have hD3 : w3.heap[D]? = some (.cells #[.slice a q.length cap, .map (some M), x, y] T (0, 0)) := (hb3 D (fun e => hMD e.symm) hD).trans h1
    have hS3 : Slid waitC 3 116 w3 (.slice a q.length cap) q := h2.keep (fun g hg => hb3 g (fun e => hMv (by rw [hg, e])) (h2.lt hg))
    have K3 : Kept w w3 S (fun b => S b ∨ w.heap.size ≤ b ∧ b < w3.heap.size) := ⟨hg3.os, hg3.tape, hg3.output, by omega, fun b hb => hb.imp id (fun h => h.1), fun b hb hn => hb3 b (fun e => hn (by rw [e]; exact (h5 M rfl).1)) hb⟩
    have X3 : XKept w w3 x := fun M' es c e1 e2 => by
      have hb : M' < w.heap.size := (Array.getElem?_eq_some_iff.1 e2).1
      exact hb3 M' (fun e => (h5 M rfl).2 (by rw [e1, e])) hb
    have hM5 := h5 M rfl
    clear h4 h7 h5 hMD hMv hb3
    have y0 : w3.cell? ⟨D, 0, none⟩ = some (.slice a q.length cap) := by simp [World.cell?, hD3]
    have x0 : w3.frozen? ⟨D, 0, none⟩ = false := by simp [World.frozen?, hD3]
    have hD3l := lt_of_block hD3
    have FIN : Hid _ := fun (o : Obj) (u : Value) (w5 : World) => join_fin (w3 := w3) h t rd ht hD3 hS3 h3 hs3 (Or.inl hM5.1) (hM5.2) h6 K3 X3 o u w5
    have HS3 : Hid _ := hS3
    have HD3 : Hid _ := hD3
    have HVD : Hid _ := hvD
    have fin : ∀ (o : Obj) (w5 : World), (w3.alloc o).grownBy w5 (Value.ownBlock (.slice a q.length cap)) → w5.cell? ⟨D, 0, none⟩ = some (.slice a q.length cap) ∧ w5.frozen? ⟨D, 0, none⟩ = false := fun o w5 g5 => by
      have e5 : w5.heap[D]? = some (.cells #[.slice a q.length cap, .map (some M), x, y] T (0, 0)) := by
        rw [g5.block D (by simp; omega) (fun e => hvD e.symm), Below.heap_alloc w3 o D hD3l, hD3]
      exact ⟨by simp [World.cell?, e5], by simp [World.frozen?, e5]⟩
    have FIN2 : Hid _ := fin
    clear fin h h1 h2 h3 h6 hD3 hS3 hs3 hg3 hz3 K3 X3 hn hnk hkl hvD hD
    go_enter Try.func97, Try.ntmps97
    go_wp2_with (at_builtin; refine wpList_app_slid (v := .slice a q.length cap) (k := 3) (enc := waitC) (l := q) (m := [(t, rd, true)]) rfl (.tmp 25) (.tmp 29) 87 rfl i0 _ 16 Try.underlying87 hi hz0 hz1 hz2 rfl waitC_len waitC_one rfl (HS3.out.keep (fun g hg => Below.heap_alloc w3 _ g (HS3.out.lt hg))) ⟨w3.heap.size, 0, none⟩ 1 1 rfl rfl (by exact World.news_of_block (heap_alloc_new w3 _)) (by simp) (by unfold maxLen; simp; omega) (by simp; omega) ?_; intro u5 w5 h5 g5 l5; obtain ⟨y5, x5⟩ := FIN2.out _ w5 g5; obtain ⟨p5, n5, rfl⟩ : ∃ p n, u5 = .slice p (q.length + 1) n := (by obtain ⟨a, c, e⟩ := h5.form; exact ⟨a, c, by rw [e]; simp⟩))
    go_returns
    exact ⟨rfl, FIN.out _ _ _ h5 g5 (by simpa using l5)⟩
end
end Go.Proofs.Ythhlglbohibekaa
namespace Go.Proofs.Ythhlglbohibekaa
open Go.RowKit

section
variable {w : World} {base D : Nat} {S : Nat → Prop} {T : TypeId} {x y : Value} {q : List Wt}
theorem leave_fin {w3 w4 wE : World} {M : Nat} {ks : List Int} {v u : Value} {t : Int} {r b : Bool} (h : QAt w base D S T x y ((t, r, b) :: q)) (h1 : w.heap[D]? = some (.cells #[v, .map (some M), x, y] T (0, 0))) (h2 : Slid waitC 3 116 w v ((t, r, b) :: q)) (h2u : Slid waitC 3 116 w u q) (hub : u.ownBlock = v.ownBlock) (h3 : ∀ g, v.ownBlock = some g → S g) (h5 : S M ∧ x ≠ .map (some M)) (h6 : ks.Perm (((t, r, b) :: q).map (·.1))) (h7 : SetAt w M ks)
    (hD3 : w3.heap[D]? = some (.cells #[u, .map (some M), x, y] T (0, 0))) (hk3 : ∀ b, b < w.heap.size → b ≠ D → w3.heap[b]? = w.heap[b]?) (hs3 : w.heap.size ≤ w3.heap.size) (o3 : w3.os = w.os ∧ w3.tape = w.tape ∧ w3.output = w.output) (g4 : w3.drew.grownBy w4 (some M)) (hs4 : SetAt w4 M (ks.filter fun y => !(y == t))) (gE : w4.grownBy wE (some w.heap.size)) :
    ∃ S', QAt wE base D S' T x y q ∧ Kept w wE S S' ∧ XKept w wE x ∧ (∀ b, S b → S' b) := by
  have hMl := h7.lt
  have hDl := lt_of_block h1
  have hMD : M ≠ D := h7.ne h1
  have s4 : w3.heap.size ≤ w4.heap.size := g4.size
  have hb : ∀ b, b < w.heap.size → b ≠ M → b ≠ D → wE.heap[b]? = w.heap[b]? := fun b hb h8 h9 => by
    rw [gE.block b (by omega) (fun e => by have := Option.some.inj e; omega), g4.block b (by show b < w3.heap.size; omega) (fun e => h8 (Option.some.inj e))]
    exact hk3 b hb h9
  have hDE : wE.heap[D]? = some (.cells #[u, .map (some M), x, y] T (0, 0)) := by
    rw [gE.block D (by omega) (fun e => by have := Option.some.inj e; omega), g4.block D (by show D < w3.heap.size; omega) (fun e => hMD (Option.some.inj e).symm)]
    exact hD3
  have hME := gE.block M (by omega) (fun e => by have := Option.some.inj e; omega)
  have hvD : v.ownBlock ≠ some D := h2.ne h1 h.ne
  have hvM : v.ownBlock ≠ some M := fun e => by
    obtain ⟨cur, hb⟩ := h2.block e
    exact h7.ne hb rfl
  have hsE : w.heap.size ≤ wE.heap.size := Nat.le_trans hs3 (Nat.le_trans s4 gE.size)
  refine ⟨S, ⟨⟨u, some M, _, hDE, h2u.keep (fun g hg => ?_), fun g hg => h3 g (by rw [← hub]; exact hg), SetO.some (hs4.keep hME), fun M' e => ?_, ?_⟩, h.sD, fun b hb => ⟨(h.bd b hb).1, Nat.lt_of_lt_of_le (h.bd b hb).2 hsE⟩, fun p hp => h.lo p (List.mem_cons_of_mem _ hp), h.ne, fun M' e => Nat.lt_of_lt_of_le (h.xb M' e) hsE⟩, ⟨?_, ?_, ?_, hsE, fun b hb => Or.inl hb, fun b hb1 hn => hb b hb1 (fun e => hn (by rw [e]; exact h5.1)) (fun e => hn (by rw [e]; exact h.sD))⟩, fun M' es c e1 e2 => ?_, fun b hb => hb⟩
  · rw [hub] at hg
    exact hb g (h2.lt hg) (fun e => hvM (by rw [hg, e])) (fun e => hvD (by rw [hg, e]))
  · cases e
    exact h5
  · have hnd := h.nodup
    rw [List.map_cons, List.nodup_cons] at hnd
    have h8 := h6.filter (fun y => !(y == t))
    have e8 : (q.map (·.1)).filter (fun y => !(y == t)) = q.map (·.1) := List.filter_eq_self.2 (fun z hz => by
      have : z ≠ t := fun e => hnd.1 (by rw [← e]; exact hz)
      simpa using this)
    rw [List.map_cons, List.filter_cons, if_neg (by simp), e8] at h8
    exact h8
  · rw [gE.os, g4.os]
    exact o3.1
  · rw [gE.tape, g4.tape]
    exact o3.2.1
  · rw [gE.output, g4.output]
    exact o3.2.2
  · exact hb M' (Array.getElem?_eq_some_iff.1 e2).1 (fun e => h5.2 (by rw [e1, e])) (fun e => by rw [e, h1] at e2; cases e2)
set_option maxHeartbeats 6400000 in
set_option maxRecDepth 100000 in
theorem q_leave {t : Int} {r b : Bool} (h : QAt w base D S T x y ((t, r, b) :: q)) :
    Calls Try.prog 99 #[.pointer (some ⟨D, 0, none⟩)] w fun e w' => e = .returned (.agg #[.int .i64 t, .bool r, .bool b]) ∧ ∃ S', QAt w' base D S' T x y q ∧ Kept w w' S S' ∧ XKept w w' x ∧ (∀ b, S b → S' b) := by
  obtain ⟨i0, hi, hz0, hz1, hz2⟩ := info_parts infoW
  obtain ⟨v, mo, ks, h1, h2, h3, h4, h5, h6⟩ := h.ex
  obtain ⟨u, hsl, h2u, hub⟩ := h2.tail 87 i0 Try.underlying87 rfl hi hz1 waitC_len
  obtain ⟨a, cap, rfl⟩ := h2.form
  obtain ⟨ua, ucap, rfl⟩ := h2u.form
  have ht : okI t := h.lo (t, r, b) (by simp)
  rw [List.length_cons] at hsl
  rcases h4.ex with ⟨_, rfl⟩ | ⟨M, rfl, h7⟩
  · have := h6.length_eq
    simp at this
  have hD := lt_of_block h1
  have hMl := h7.lt
  have hf := q_first (h.fresh ((Below.refl _ w).alloc (Nat.le_refl _) (.cells #[.int .i64 0, .bool false, .bool false] 116)))
  have hB0 := heap_alloc_new w (.cells #[.int .i64 0, .bool false, .bool false] 116)
  have hsz0 : (w.alloc (.cells #[.int .i64 0, .bool false, .bool false] 116)).heap.size = w.heap.size + 1 := by simp
  have hbl0 : ∀ b, b < w.heap.size → (w.alloc (.cells #[.int .i64 0, .bool false, .bool false] 116)).heap[b]? = w.heap[b]? := fun b hb => Below.heap_alloc w _ b hb
  have st : ∀ w1 : World, Below (w.alloc (.cells #[.int .i64 0, .bool false, .bool false] 116)).heap.size (w.alloc (.cells #[.int .i64 0, .bool false, .bool false] 116)) w1 →
      w1.heap[D]? = some (.cells #[.slice a (q.length + 1) cap, .map (some M), x, y] T (0, 0)) ∧ w1.heap[w.heap.size]? = some (.cells #[.int .i64 0, .bool false, .bool false] 116 (0, 0)) ∧ w.heap.size + 1 ≤ w1.heap.size ∧ ∀ b, b < w.heap.size → w1.heap[b]? = w.heap[b]? := fun w1 b1 => by
    have hsz := b1.size
    rw [hsz0] at hsz
    refine ⟨?_, ?_, hsz, fun b hb => ?_⟩
    · rw [b1.block D (by rw [hsz0]; omega), hbl0 D hD, h1]
      rfl
    · rw [b1.block _ (by rw [hsz0]; omega), hB0]
    · rw [b1.block b (by rw [hsz0]; omega), hbl0 b hb]
  have ST : Hid _ := st
  have st2 : ∀ w1 : World, w1.heap[D]? = some (.cells #[.slice a (q.length + 1) cap, .map (some M), x, y] T (0, 0)) → 
      (w1.alloc (.cells #[.int .i64 t, .bool r, .bool b] 116)).cell? ⟨D, 0, none⟩ = some (.slice a (q.length + 1) cap) ∧ (w1.alloc (.cells #[.int .i64 t, .bool r, .bool b] 116)).frozen? ⟨D, 0, none⟩ = false := fun w1 e => by
    have e2 := (Below.heap_alloc w1 (.cells #[.int .i64 t, .bool r, .bool b] 116) D (lt_of_block e)).trans e
    exact ⟨by simp [World.cell?, e2], by simp [World.frozen?, e2]⟩
  have ST2 : Hid _ := st2
  have H : Hid _ := h
  have H7 : Hid (SetAt w M ks) := h7
  have H2U : Hid _ := h2u
  have HUB : Hid _ := hub
  have H2 : Hid _ := h2
  have H1 : Hid _ := h1
  have H3 : Hid _ := h3
  have H5 : Hid _ := h5
  have H6 : Hid _ := h6
  clear st st2 h1 h2 h2u hub h3 h4 h5 h6 h7 hB0 hsz0 hbl0 h
  go_enter Try.func99, Try.ntmps99
  go_wp2_with (go_at_call 100; refine hf.mono ?_; rintro e w1 ⟨rfl, b1⟩; obtain ⟨hD1, hB1, hs1, hk1⟩ := ST.out w1 b1; obtain ⟨zc, zf⟩ := ST2.out w1 hD1)
  obtain ⟨B1, hB1e⟩ : ∃ B1, B1 = w1.heap.size := ⟨_, rfl⟩
  obtain ⟨w3, hw3⟩ : ∃ w3, w3 = ((w1.alloc (.cells #[.int .i64 t, .bool r, .bool b] 116)).setCell ⟨D, 0, none⟩ (.slice ua q.length ucap)) := ⟨_, rfl⟩
  rw [← hB1e, ← hw3]
  have e1 := (Below.heap_alloc w1 (.cells #[.int .i64 t, .bool r, .bool b] 116) D (lt_of_block hD1)).trans hD1
  have hD3 : w3.heap[D]? = some (.cells #[.slice ua q.length ucap, .map (some M), x, y] T (0, 0)) := by
    rw [hw3, heap_setCell_same _ D 0 _ _ _ e1]
    rfl
  have ho : ∀ c, c ≠ D → w3.heap[c]? = (w1.alloc (.cells #[.int .i64 t, .bool r, .bool b] 116)).heap[c]? := fun c hb => by
    rw [hw3]
    exact heap_setCell_other _ _ _ _ (by simpa using hb)
  have hB3 : w3.heap[B1]? = some (.cells #[.int .i64 t, .bool r, .bool b] 116 (0, 0)) := by
    rw [ho B1 (by omega), hB1e]
    exact heap_alloc_new w1 _
  have hR3 : w3.heap[w.heap.size]? = some (.cells #[.int .i64 0, .bool false, .bool false] 116 (0, 0)) := by
    rw [ho _ (by omega), Below.heap_alloc w1 _ _ (by omega), hB1]
  have hk3 : ∀ b, b < w.heap.size → b ≠ D → w3.heap[b]? = w.heap[b]? := fun b hb hn => by
    rw [ho b hn, Below.heap_alloc w1 _ _ (by omega), hk1 b hb]
  have hs3 : w3.heap.size = w1.heap.size + 1 := by
    rw [hw3]
    simp
  have o3 : w3.os = w.os ∧ w3.tape = w.tape ∧ w3.output = w.output := by
    rw [hw3]
    exact ⟨b1.os, b1.tape, b1.output⟩
  have hMD : M ≠ D := H7.out.ne H1.out
  have hM3 : SetAt w3.drew M ks := H7.out.keep (hk3 M hMl hMD)
  obtain ⟨w4, hdel, hs4, hg4, hz4⟩ := set_del hM3 ht 0
  have hb4 : ∀ b, b ≠ M → b < w3.heap.size → w4.heap[b]? = w3.heap[b]? := fun b hb hb2 => hg4.block b hb2 (fun e => hb (Option.some.inj e))
  have hD4 := (hb4 D (fun e => hMD e.symm) (by omega)).trans hD3
  have hB4 := (hb4 B1 (by omega) (by omega)).trans hB3
  have hR4 := (hb4 w.heap.size (by omega) (by omega)).trans hR3
  have zc3 : w3.cell? ⟨D, 1, none⟩ = some (.map (some M)) := by simp [World.cell?, hD3]
  have zb3 : w3.cell? ⟨B1, 0, none⟩ = some (.int .i64 t) := by simp [World.cell?, hB3]
  have zc4 : w4.cell? ⟨D, 1, none⟩ = some (.map (some M)) := by simp [World.cell?, hD4]
  have zb4 : w4.cell? ⟨B1, 0, none⟩ = some (.int .i64 t) := by simp [World.cell?, hB4]
  have zb41 : w4.cell? ⟨B1, 1, none⟩ = some (.bool r) := by simp [World.cell?, hB4]
  have zb42 : w4.cell? ⟨B1, 2, none⟩ = some (.bool b) := by simp [World.cell?, hB4]
  have FIN : Hid _ := fun (wE : World) (gE : w4.grownBy wE (some w.heap.size)) => leave_fin H.out H1.out H2.out H2U.out HUB.out H3.out (H5.out M rfl) H6.out H7.out hD3 hk3 (by omega) o3 hg4 hs4 gE
  clear hw3 hB1e e1 hD3 ho hB3 hR3 hk3 hs3 o3 hMD hM3 hs4 hg4 hz4 hb4 hD4 hB4 zc zf hD1 hB1 hs1 hk1 hf
  refine wp_region_held_drew (S := (fun w' : World => w'.cell? ⟨D, 1, none⟩ = some (.map (some M)) ∧ w'.cell? ⟨B1, 0, none⟩ = some (.int .i64 t))) (by kernel_rfl) ?_ (fun hHeld0 => ?_)
  · try dsimp only
    go_keep
  refine tk0 (.pointer (some ⟨D, 0, none⟩)) ?_ (fun w hSw => by (try dsimp only at hSw); obtain ⟨q0, q1⟩ := hSw; go_simp)
  try simp only [Act.put, pu1, pu2, pu3]
  refine tk1 (.pointer (some ⟨D, 0, none⟩)) ?_ (fun w hSw => by (try dsimp only at hSw); obtain ⟨q0, q1⟩ := hSw; go_simp)
  try simp only [Act.put, pu1, pu2, pu3]
  refine tk2 (.pointer (some ⟨D, 1, none⟩)) ?_ (fun w hSw => by (try dsimp only at hSw); obtain ⟨q0, q1⟩ := hSw; go_simp)
  try simp only [Act.put, pu1, pu2, pu3]
  refine tk3 (.map (some M)) ?_ (fun w hSw => by (try dsimp only at hSw); obtain ⟨q0, q1⟩ := hSw; go_simp)
  try simp only [Act.put, pu1, pu2, pu3]
  refine tk4 (.pointer (some ⟨B1, 0, none⟩)) ?_ (fun w hSw => by (try dsimp only at hSw); obtain ⟨q0, q1⟩ := hSw; go_simp)
  try simp only [Act.put, pu1, pu2, pu3]
  refine tk5 (.int .i64 t) ?_ (fun w hSw => by (try dsimp only at hSw); obtain ⟨q0, q1⟩ := hSw; go_simp)
  try simp only [Act.put, pu1, pu2, pu3]
  refine cl6 (by kernel_rfl) rfl (fun K hK => ?_)
  go_simp
  refine hK.out _ _ ?_ (fun hHeld => ?_)
  · exact ⟨zc4, zb4⟩
  clear hK K
  try simp only [Act.put, pu1, pu2, pu3]
  refine wpAnyH_done (by kernel_rfl) ?_ _
  go_wp2_with (show wpList _ _ _ (⟨_, Op.store 116 _ _, _, _, _, _⟩ :: _) _ _; refine store_row_g rfl 116 _ _ rfl w.heap.size #[.int .i64 t, .bool r, .bool b] rfl rfl 116 #[.int .i64 0, .bool false, .bool false] hR4 infoW3 rfl (by simp [Value.oneCell']) ?_; intro wE hE gE)
  refine bodyPost_ret (results_cell_row Try.results99 _ _ w.heap.size 116 _ (0, 0) _ rfl hE Try.underlying116 rfl infoW3) rfl ?_
  exact ⟨rfl, FIN.out wE gE⟩
end
end Go.Proofs.Ythhlglbohibekaa
namespace Go.Proofs.Ythhlglbohibekaa
open Go.RowKit

section
variable {w w' : World} {base base' D : Nat} {S S' : Nat → Prop} {T : TypeId} {x y : Value} {q : List Wt}
theorem QAt.setX (h : QAt w base D S T x y q) (x' : Value) (hx : ∀ M, x' = .map (some M) → M < w.heap.size ∧ ¬ S M) : QAt (w.setCell ⟨D, 2, none⟩ x') base D S T x' y q ∧ Kept w (w.setCell ⟨D, 2, none⟩ x') S S := by
  obtain ⟨v, mo, ks, h1, h2, h3, h4, h5, h6⟩ := h.ex
  have ho : ∀ c, c ≠ D → (w.setCell ⟨D, 2, none⟩ x').heap[c]? = w.heap[c]? := fun c hc => heap_setCell_other _ _ _ _ (by simpa using hc)
  have e : (w.setCell ⟨D, 2, none⟩ x').heap[D]? = some (.cells #[v, .map mo, x', y] T (0, 0)) := by
    rw [heap_setCell_same w D 2 _ _ _ h1]
    rfl
  refine ⟨⟨⟨v, mo, ks, e, h2.keep (fun g hg => ho g (fun e => h2.ne h1 h.ne (by rw [hg, e]))), h3, h4.keep (fun M hM => ho M (fun e => ?_)), fun M hM => ⟨(h5 M hM).1, fun e => (hx M e).2 (h5 M hM).1⟩, h6⟩, h.sD, fun b hb => ⟨(h.bd b hb).1, by simpa using (h.bd b hb).2⟩, h.lo, h.ne, fun M e => by simpa using (hx M e).1⟩, ⟨rfl, rfl, rfl, by simp, fun _ hs => Or.inl hs, fun b _ hs => ho b (fun e => hs (by rw [e]; exact h.sD))⟩⟩
  rcases h4.ex with ⟨h7, _⟩ | ⟨M', h7, h8⟩
  · rw [hM] at h7
    cases h7
  · rw [hM] at h7
    cases h7
    exact h8.ne h1 e
theorem QAt.setY (h : QAt w base D S T x y q) (y' : Value) : QAt (w.setCell ⟨D, 3, none⟩ y') base D S T x y' q ∧ Kept w (w.setCell ⟨D, 3, none⟩ y') S S := by
  obtain ⟨v, mo, ks, h1, h2, h3, h4, h5, h6⟩ := h.ex
  have ho : ∀ c, c ≠ D → (w.setCell ⟨D, 3, none⟩ y').heap[c]? = w.heap[c]? := fun c hc => heap_setCell_other _ _ _ _ (by simpa using hc)
  have e : (w.setCell ⟨D, 3, none⟩ y').heap[D]? = some (.cells #[v, .map mo, x, y'] T (0, 0)) := by
    rw [heap_setCell_same w D 3 _ _ _ h1]
    rfl
  refine ⟨⟨⟨v, mo, ks, e, h2.keep (fun g hg => ho g (fun e => h2.ne h1 h.ne (by rw [hg, e]))), h3, h4.keep (fun M hM => ho M (fun e => ?_)), h5, h6⟩, h.sD, fun b hb => ⟨(h.bd b hb).1, by simpa using (h.bd b hb).2⟩, h.lo, h.ne, fun M e => by simpa using h.xb M e⟩, ⟨rfl, rfl, rfl, by simp, fun _ hs => Or.inl hs, fun b _ hs => ho b (fun e => hs (by rw [e]; exact h.sD))⟩⟩
  rcases h4.ex with ⟨h7, _⟩ | ⟨M', h7, h8⟩
  · rw [hM] at h7
    cases h7
  · rw [hM] at h7
    cases h7
    exact h8.ne h1 e
theorem QAt.grow (h : QAt w base D S T x y q) (hS : ∀ b, S b → S' b) (hb : ∀ b, S' b → base ≤ b ∧ b < w.heap.size) : QAt w base D S' T x y q := by
  obtain ⟨v, mo, ks, h1, h2, h3, h4, h5, h6⟩ := h.ex
  exact ⟨⟨v, mo, ks, h1, h2, fun g hg => hS g (h3 g hg), h4, fun M hM => ⟨hS M (h5 M hM).1, (h5 M hM).2⟩, h6⟩, hS D h.sD, hb, h.lo, h.ne, h.xb⟩
theorem QAt.cells (h : QAt w base D S T x y q) : w.cell? ⟨D, 2, none⟩ = some x ∧ w.cell? ⟨D, 3, none⟩ = some y ∧ w.frozen? ⟨D, 2, none⟩ = false ∧ w.frozen? ⟨D, 3, none⟩ = false ∧ D < w.heap.size := by
  obtain ⟨v, mo, ks, h1, _⟩ := h.ex
  exact ⟨by simp [World.cell?, h1], by simp [World.cell?, h1], by simp [World.frozen?, h1], by simp [World.frozen?, h1], lt_of_block h1⟩
theorem QAt.below (h : QAt w base D S T x y q) (k : Kept w w' S S') : Below base w w' := k.low h.base_le (fun b hb => (h.bd b hb).1)
end
def mxQ (l : List Int) : List Wt := l.map fun t => (t, false, true)
theorem mxQ_length (l : List Int) : (mxQ l).length = l.length := by unfold mxQ; simp
theorem mxQ_has (l : List Int) (t : Int) : qHas (mxQ l) t = hasB l t := by
  rw [Bool.eq_iff_iff, qHas_iff]
  unfold hasB mxQ
  rw [decide_eq_true_eq, List.map_map]
  have : ((fun x : Wt => x.1) ∘ fun t : Int => (t, false, true)) = id := rfl
  rw [this, List.map_id]
structure PMx (w : World) (base D : Nat) (S : Nat → Prop) (who : Int) (l : List Int) : Prop where
  ex : ∃ by', QAt w base D S 146 (.bool (decide (0 ≤ who))) (.int .i64 by') (mxQ l) ∧ (0 ≤ who → by' = who)
  no : who < 0 → who = -1
  len : l.length ≤ 65536
  pos : ∀ x ∈ l, 0 ≤ x
section
variable {w w' : World} {base base' D : Nat} {S S' : Nat → Prop} {who : Int} {l : List Int}
theorem PMx.sD (h : PMx w base D S who l) : S D := by
  obtain ⟨_, h, _⟩ := h.ex
  exact h.sD
theorem PMx.bd (h : PMx w base D S who l) : ∀ b, S b → base ≤ b ∧ b < w.heap.size := by
  obtain ⟨_, h, _⟩ := h.ex
  exact h.bd
theorem PMx.keep (h : PMx w base D S who l) (hs : w.heap.size ≤ w'.heap.size) (hk : ∀ b, S b → w'.heap[b]? = w.heap[b]?) : PMx w' base D S who l := by
  obtain ⟨b, h1, h2⟩ := h.ex
  exact ⟨⟨b, h1.keep hs hk, h2⟩, h.no, h.len, h.pos⟩
theorem PMx.low (h : PMx w base D S who l) (hb : base' ≤ base) : PMx w base' D S who l := by
  obtain ⟨b, h1, h2⟩ := h.ex
  exact ⟨⟨b, h1.low hb, h2⟩, h.no, h.len, h.pos⟩
theorem PMx.fresh (h : PMx w base D S who l) (k : Below w.heap.size w w') : PMx w' base D S who l := h.keep k.size (fun b hb => k.block b (h.bd b hb).2)
theorem pm_new (w : World) : Calls Try.prog 70 #[] w fun e w' => ∃ D S, e = .returned (.pointer (some ⟨D, 0, none⟩)) ∧ PMx w' w.heap.size D S (-1) [] ∧ Below w.heap.size w w' := by
  have H1 : Hid _ := heap_alloc_new w (.cells #[.slice none 0 0, .map none, .bool false, .int .i64 0] 146)
  have B1 : Hid _ := (Below.refl _ w).alloc (Nat.le_refl _) (.cells #[.slice none 0 0, .map none, .bool false, .int .i64 0] 146)
  go_enter Try.func70, Try.ntmps70
  go_wp2
  go_ret
  refine ⟨w.heap.size, fun b => b = w.heap.size, rfl, ⟨⟨0, ⟨⟨.slice none 0 0, none, [], H1.out, Slid.nil _, fun g hg => (by simp [Value.ownBlock] at hg), SetO.nil _, fun M e => (by cases e), List.Perm.refl _⟩, rfl, fun b hb => ⟨by omega, by simp; omega⟩, fun p hp => (by cases hp), by decide, fun M e => (by cases e)⟩, fun h => absurd h (by decide)⟩, fun _ => rfl, Nat.zero_le _, fun x hx => (by cases hx)⟩, B1.out⟩
theorem pm_holds (h : PMx w base D S who l) (t : Int) : Calls Try.prog 95 #[.pointer (some ⟨D, 0, none⟩), .int .i64 t] w fun e w' => e = .returned (.bool (decide (0 ≤ who) && (who == t))) ∧ w = w' := by
  obtain ⟨b, h1, h2⟩ := h.ex
  obtain ⟨c2, c3, _⟩ := h1.cells
  clear h1 h
  by_cases h0 : 0 ≤ who
  · obtain rfl := h2 h0
    rw [decide_eq_true h0] at c2 ⊢
    clear h0 h2
    cases hb : (b == t) with
    | true =>
      go_enter Try.func95, Try.ntmps95
      go_wp2
      go_ret
      exact ⟨rfl, rfl⟩
    | false =>
      go_enter Try.func95, Try.ntmps95
      go_wp2
      go_ret
      exact ⟨rfl, rfl⟩
  · rw [decide_eq_false h0] at c2 ⊢
    clear h0 h2
    go_enter Try.func95, Try.ntmps95
    go_wp2
    go_ret
    exact ⟨rfl, rfl⟩
theorem pm_holder (h : PMx w base D S who l) : Calls Try.prog 89 #[.pointer (some ⟨D, 0, none⟩)] w fun e w' => e = .returned (.int .i64 who) ∧ w = w' := by
  obtain ⟨b, h1, h2⟩ := h.ex
  obtain ⟨c2, c3, _⟩ := h1.cells
  by_cases h0 : 0 ≤ who
  · obtain rfl := h2 h0
    rw [decide_eq_true h0] at c2
    clear h0 h2 h1 h
    go_enter Try.func89, Try.ntmps89
    go_wp2
    go_ret
    exact ⟨rfl, rfl⟩
  · obtain rfl := h.no (by omega)
    rw [decide_eq_false h0] at c2
    clear h0 h2 h1 h
    go_enter Try.func89, Try.ntmps89
    go_wp2
    go_ret
    exact ⟨rfl, rfl⟩
end
end Go.Proofs.Ythhlglbohibekaa
namespace Go.Proofs.Ythhlglbohibekaa
open Go.RowKit

section
variable {w w' : World} {base base' D : Nat} {S S' : Nat → Prop} {who : Int} {l : List Int}
theorem mxQ_append (l : List Int) (t : Int) : mxQ (l ++ [t]) = mxQ l ++ [(t, false, true)] := by unfold mxQ; simp
set_option maxHeartbeats 6400000 in
set_option maxRecDepth 100000 in
theorem pm_lock (h : PMx w base D S who l) (t : Int) (ht : okI t) (hl : l.length < 65536) : Calls Try.prog 93 #[.pointer (some ⟨D, 0, none⟩), .int .i64 t] w fun e w' => e = .returned (.tuple #[.bool (lockB who l t), .int .i64 (lockZ who l t)]) ∧ ∃ S', PMx w' base D S' (lockW who l t) (lockL who l t) ∧ Kept w w' S S' := by
  by_cases h1 : t < 0
  · have e1 : lockZ who l t = 1 := by unfold lockZ; rw [if_pos h1]
    have e2 : lockB who l t = false := decide_eq_false (fun e => absurd e.1 (by omega))
    have e3 : lockW who l t = who := by unfold lockW; rw [e2]; rfl
    have e4 : lockL who l t = l := by unfold lockL; rw [e1, if_neg (by simp)]
    rw [e1, e2, e3, e4]
    have q1 : decide (t < 0) = true := decide_eq_true h1
    have H : Hid _ := h
    clear h e1 e2 e3 e4
    go_enter Try.func93, Try.ntmps93
    go_wp2
    go_ret2
    exact ⟨rfl, S, H.out, Kept.refl _ _⟩
  have q1 : decide (t < 0) = false := decide_eq_false h1
  have hh := pm_holds h t
  obtain ⟨b, hq, hby⟩ := h.ex
  have hw := q_waits hq t ht
  rw [mxQ_has] at hw
  have H : Hid _ := h
  have HQ : Hid _ := hq
  obtain ⟨c2, c3, f2, f3, hD⟩ := hq.cells
  by_cases h2 : who = t ∨ t ∈ l
  · have e1 : lockZ who l t = 12 := by unfold lockZ; rw [if_neg h1, if_pos h2]
    have e2 : lockB who l t = false := decide_eq_false (fun e => h2.elim e.2.1 e.2.2.1)
    have e3 : lockW who l t = who := by unfold lockW; rw [e2]; rfl
    have e4 : lockL who l t = l := by unfold lockL; rw [e1, if_neg (by simp)]
    rw [e1, e2, e3, e4]
    cases hb : (decide (0 ≤ who) && (who == t)) with
    | true =>
      rw [hb] at hh
      clear h hq hw e1 e2 e3 e4 h1 h2 hby hb c2 c3
      go_enter Try.func93, Try.ntmps93
      go_wp2_with (go_at_call 95; refine hh.mono ?_; rintro e w1 ⟨rfl, rfl⟩)
      go_ret2
      exact ⟨rfl, S, H.out, Kept.refl _ _⟩
    | false =>
      have h3 : hasB l t = true := by
        rcases h2 with h2 | h2
        · rw [h2, beq_self_eq_true, decide_eq_true (by omega)] at hb
          cases hb
        · exact decide_eq_true h2
      rw [hb] at hh
      rw [h3] at hw
      clear h hq e1 e2 e3 e4 h1 h2 h3 hby hb c2 c3
      go_enter Try.func93, Try.ntmps93
      go_wp2_with (first
        | (go_at_call 96; refine hw.mono ?_; rintro e w1 ⟨rfl, b1⟩)
        | (go_at_call 95; refine hh.mono ?_; rintro e w1 ⟨rfl, rfl⟩))
      go_ret2
      exact ⟨rfl, S, H.out.fresh b1, Kept.of b1⟩
  · have hb : (decide (0 ≤ who) && (who == t)) = false := by
      rw [beq_eq_false_iff_ne.2 (fun e => h2 (Or.inl e)), Bool.and_false]
    have h3 : hasB l t = false := decide_eq_false (fun e => h2 (Or.inr e))
    have e1 : lockZ who l t = 0 := by unfold lockZ; rw [if_neg h1, if_neg h2]
    rw [hb] at hh
    rw [h3] at hw
    have HB3 : Hid (qHas (mxQ l) t = false) := by
      show _ = _
      rw [mxQ_has, h3]
    by_cases h4 : who < 0
    · have e2 : lockB who l t = true := decide_eq_true ⟨by omega, fun e => h2 (Or.inl e), fun e => h2 (Or.inr e), h4⟩
      have e3 : lockW who l t = t := by unfold lockW; rw [e2]; rfl
      have e4 : lockL who l t = l := by unfold lockL; rw [e1, if_neg (fun e => e.2 h4)]
      rw [e1, e2, e3, e4]
      rw [decide_eq_false (by omega)] at c2
      have fin : ∀ w1 : World, Below w.heap.size w w1 → PMx ((w1.setCell ⟨D, 2, none⟩ (.bool true)).setCell ⟨D, 3, none⟩ (.int .i64 t)) base D S t l ∧ Kept w ((w1.setCell ⟨D, 2, none⟩ (.bool true)).setCell ⟨D, 3, none⟩ (.int .i64 t)) S S := fun w1 b1 => by
        have k1 := (hq.fresh b1).setX (.bool true) (fun M e => by cases e)
        have k2 := k1.1.setY (.int .i64 t)
        refine ⟨⟨⟨t, ?_, fun _ => rfl⟩, fun e => absurd e h1, h.len, h.pos⟩, (Kept.of b1).trans (k1.2.trans k2.2)⟩
        rw [decide_eq_true (by omega)]
        exact k2.1
      have FIN : Hid _ := fin
      clear h hq e1 e2 e3 e4 h1 h2 h3 h4 hby hb fin
      go_enter Try.func93, Try.ntmps93
      go_wp2_with (first
        | (go_at_call 96; refine hw.mono ?_; rintro e w1 ⟨rfl, b1⟩; have z2 := (b1.cell (p := ⟨D, 2, none⟩) (by exact hD)).trans c2; have z3 := (b1.cell (p := ⟨D, 3, none⟩) (by exact hD)).trans c3; have y2 := (b1.frozen (p := ⟨D, 2, none⟩) (by exact hD)).trans f2; have y3 := (b1.frozen (p := ⟨D, 3, none⟩) (by exact hD)).trans f3)
        | (go_at_call 95; refine hh.mono ?_; rintro e w1 ⟨rfl, rfl⟩))
      go_ret2
      exact ⟨rfl, S, FIN.out _ b1⟩
    · have e2 : lockB who l t = false := decide_eq_false (fun e => h4 e.2.2.2)
      have e3 : lockW who l t = who := by unfold lockW; rw [e2]; rfl
      have e4 : lockL who l t = l ++ [t] := by unfold lockL; rw [if_pos ⟨e1, h4⟩]
      rw [e1, e2, e3, e4]
      have hj : ∀ w1 : World, Below w.heap.size w w1 → Calls Try.prog 97 #[.pointer (some ⟨D, 0, none⟩), .int .i64 t, .bool false] w1 fun e w' => e = .returned (.tuple #[]) ∧ ∃ S', PMx w' base D S' who (l ++ [t]) ∧ Kept w w' S S' := fun w1 b1 =>
        (q_join (hq.fresh b1) t false ht HB3.out (by rw [mxQ_length]; omega)).mono (fun e w' ⟨h5, S', h6, h7, _⟩ => ⟨h5, S', ⟨⟨b, by rw [mxQ_append]; exact h6, hby⟩, h.no, by rw [List.length_append]; simp; omega, fun x hx => (List.mem_append.1 hx).elim (h.pos x) (fun hx => by rw [List.mem_singleton] at hx; omega)⟩, (Kept.of b1).trans h7⟩)
      have HJ : Hid _ := hj
      rw [decide_eq_true (by omega)] at c2
      clear h hq e1 e2 e3 e4 h1 h2 h3 h4 hby hb hj
      go_enter Try.func93, Try.ntmps93
      go_wp2_with (first
        | (go_at_call 97; refine (HJ.out _ b1).mono ?_; rintro e w2 ⟨rfl, S2, hp2, hk2⟩)
        | (go_at_call 96; refine hw.mono ?_; rintro e w1 ⟨rfl, b1⟩; have z2 := (b1.cell (p := ⟨D, 2, none⟩) (by exact hD)).trans c2)
        | (go_at_call 95; refine hh.mono ?_; rintro e w1 ⟨rfl, rfl⟩))
      go_ret2
      exact ⟨rfl, S2, hp2, hk2⟩
set_option maxHeartbeats 6400000 in
set_option maxRecDepth 100000 in
theorem pm_unlock (h : PMx w base D S who l) (t : Int) : Calls Try.prog 94 #[.pointer (some ⟨D, 0, none⟩), .int .i64 t] w fun e w' => e = .returned (.tuple #[.int .i64 (unN who l t), .int .i64 (unZ who t)]) ∧ ∃ S', PMx w' base D S' (unW who l t) (unL who l t) ∧ Kept w w' S S' := by
  have hh := pm_holds h t
  obtain ⟨b, hq, hby⟩ := h.ex
  have hc : (decide (0 ≤ who) && (who == t)) = decide (¬ (t < 0 ∨ ¬ who = t)) := by
    rw [Bool.eq_iff_iff, Bool.and_eq_true, decide_eq_true_eq, beq_iff_eq, decide_eq_true_eq]
    omega
  rw [hc] at hh
  unfold unN unZ unW unL
  have H : Hid _ := h
  by_cases h1 : t < 0 ∨ ¬ who = t
  · rw [if_pos h1, if_pos h1, if_pos h1, if_pos h1]
    rw [decide_eq_false (fun e => e h1)] at hh
    clear h hq hby hc h1
    go_enter Try.func94, Try.ntmps94
    go_wp2_with (go_at_call 95; refine hh.mono ?_; rintro e w1 ⟨rfl, rfl⟩)
    go_ret2
    exact ⟨rfl, S, H.out, Kept.refl _ _⟩
  · rw [if_neg h1, if_neg h1, if_neg h1, if_neg h1]
    rw [decide_eq_true h1] at hh
    have ha := q_anybody hq
    rw [mxQ_length] at ha
    obtain ⟨c2, c3, f2, f3, hD⟩ := hq.cells
    cases l with
    | nil =>
      have k1 := hq.setX (.bool false) (fun M e => by cases e)
      have hp : PMx (w.setCell ⟨D, 2, none⟩ (.bool false)) base D S (-1) [] := ⟨⟨b, k1.1, fun e => absurd e (by decide)⟩, fun _ => rfl, Nat.zero_le _, fun x hx => (by cases hx)⟩
      have hl := pm_holder hp
      rw [decide_eq_false (by simp)] at ha
      have HP : Hid _ := hp
      have HK : Hid _ := k1.2
      have z2 := (k1.1.cells).1
      clear h hq hby hc h1 k1 hp
      go_enter Try.func94, Try.ntmps94
      go_wp2_with (first
        | (go_at_call 89; refine hl.mono ?_; rintro e w3 ⟨rfl, rfl⟩)
        | (go_at_call 98; refine ha.mono ?_; rintro e w2 ⟨rfl, rfl⟩)
        | (go_at_call 95; refine hh.mono ?_; rintro e w1 ⟨rfl, rfl⟩))
      go_ret2
      exact ⟨rfl, S, HP.out, HK.out⟩
    | cons t' l =>
      have k1 := hq.setX (.bool true) (fun M e => by cases e)
      have hlv := q_leave (q := mxQ l) (t := t') (r := false) (b := true) k1.1
      have ht' : okI t' := hq.lo (t', false, true) (by unfold mxQ; simp)
      rw [decide_eq_true (by simp)] at ha
      have z2 := (k1.1.cells).1
      have ht0 : 0 ≤ t' := h.pos t' (by simp)
      have fin : ∀ (w2 : World) (S2 : Nat → Prop), QAt w2 base D S2 146 (.bool true) (.int .i64 b) (mxQ l) → Kept (w.setCell ⟨D, 2, none⟩ (.bool true)) w2 S S2 → PMx (w2.setCell ⟨D, 3, none⟩ (.int .i64 t')) base D S2 t' l ∧ Kept w (w2.setCell ⟨D, 3, none⟩ (.int .i64 t')) S S2 := fun w2 S2 h2 h3 => by
        have k3 := h2.setY (.int .i64 t')
        refine ⟨⟨⟨t', ?_, fun _ => rfl⟩, fun e => absurd e (by omega), by have := h.len; rw [List.length_cons] at this; omega, fun x hx => h.pos x (by simp [hx])⟩, (k1.2.trans h3).trans k3.2⟩
        rw [decide_eq_true ht0]
        exact k3.1
      have FIN : Hid _ := fin
      have hfd := field_task t' false true
      clear h hq hby hc h1 k1 fin
      go_enter Try.func94, Try.ntmps94
      go_wp2_with (first
        | (go_at_call 89; refine (pm_holder hf2.1).mono ?_; rintro e w3 ⟨rfl, rfl⟩)
        | (go_at_call 99; refine hlv.mono ?_; rintro e w2 ⟨rfl, S2, hq2, hk2, _⟩; have hf2 := FIN.out w2 S2 hq2 hk2; obtain ⟨_, y3, _, x3, _⟩ := hq2.cells)
        | (go_at_call 98; refine ha.mono ?_; rintro e w2 ⟨rfl, rfl⟩)
        | (go_at_call 95; refine hh.mono ?_; rintro e w1 ⟨rfl, rfl⟩))
      go_ret2
      exact ⟨rfl, S2, hf2⟩
end
end Go.Proofs.Ythhlglbohibekaa
namespace Go.Proofs.Ythhlglbohibekaa
open Go.RowKit

section
variable {w w' : World} {base base' D M : Nat} {S S' : Nat → Prop} {T : TypeId} {x y : Value} {q : List Wt} {hs : List Int}
theorem SetO.keepX {ho : Option Nat} (h : SetO w ho hs) (k : XKept w w' (.map ho)) : SetO w' ho hs := by
  rcases h.ex with h0 | ⟨M, rfl, h1⟩
  · exact ⟨Or.inl h0⟩
  · obtain ⟨D, ⟨es, c, hb, r⟩, r2⟩ := h1
    exact SetO.some ⟨D, ⟨es, c, (k M es c rfl hb).trans hb, r⟩, r2⟩
theorem QAt.turnX (h : QAt w base D S T (.map (some M)) y q) (hm : SetAt w M hs) (g : w.grownBy w' (some M)) : QAt w' base D S T (.map (some M)) y q := by
  obtain ⟨v, mo, ks, h1, h2, h3, h4, h5, h6⟩ := h.ex
  have hb : ∀ b, b < w.heap.size → b ≠ M → w'.heap[b]? = w.heap[b]? := fun b hb hn => g.block b hb (fun e => hn (Option.some.inj e))
  have hMD : M ≠ D := hm.ne h1
  refine ⟨⟨v, mo, ks, (hb D (lt_of_block h1) (fun e => hMD e.symm)).trans h1, h2.keep (fun g hg => hb g (h2.lt hg) (fun e => ?_)), h3, h4.keep (fun M' hM' => hb M' (h.bd M' (h5 M' hM').1).2 (fun e => (h5 M' hM').2 (by rw [e]))), h5, h6⟩, h.sD, fun b hb => ⟨(h.bd b hb).1, Nat.lt_of_lt_of_le (h.bd b hb).2 g.size⟩, h.lo, h.ne, fun M' e => Nat.lt_of_lt_of_le (h.xb M' e) g.size⟩
  obtain ⟨cur, hc⟩ := h2.block hg
  exact hm.ne hc e.symm
end
theorem putL_perm (l : List Int) (n : Int) : (putL l n).Perm (n :: l) := by
  unfold putL
  refine List.perm_middle.trans (List.Perm.cons n ?_)
  rw [List.takeWhile_append_dropWhile]
theorem putL_sorted : ∀ (l : List Int) (n : Int), l.Pairwise (· < ·) → n ∉ l → (putL l n).Pairwise (· < ·)
  | [], n, _, _ => by simp [putL]
  | a :: l, n, h, hn => by
    rw [List.pairwise_cons] at h
    by_cases ha : a < n
    · have e : putL (a :: l) n = a :: putL l n := by simp [putL, ha]
      rw [e, List.pairwise_cons]
      refine ⟨fun b hb => ?_, putL_sorted l n h.2 (fun e => hn (by simp [e]))⟩
      rcases putL_mem hb with e | hb
      · rw [e]; exact ha
      · exact h.1 b hb
    · have e : putL (a :: l) n = n :: a :: l := by simp [putL, ha]
      have hna : n ≠ a := fun e => hn (by simp [e])
      rw [e, List.pairwise_cons]
      refine ⟨fun b hb => ?_, List.pairwise_cons.2 h⟩
      rcases List.mem_cons.1 hb with e | hb
      · omega
      · have := h.1 b hb
        omega
structure PRw (w : World) (base D : Nat) (S : Nat → Prop) (L : List Int) (wt : Bool) (q : List Wt) : Prop where
  ex : ∃ ho hs, QAt w base D S 148 (.map ho) (.bool (wt && decide (0 < L.length))) q ∧ SetO w ho hs ∧ (∀ M, ho = some M → S M) ∧ hs.Perm L
  srt : L.Pairwise (· < ·)
  one : wt = true → L.length ≤ 1
  dis : ∀ t ∈ L, t ∉ q.map (·.1)
  len : L.length + q.length ≤ 65536
  lo : ∀ t ∈ L, okI t
section
variable {w w' : World} {base base' D : Nat} {S S' : Nat → Prop} {L : List Int} {wt : Bool} {q : List Wt}
theorem PRw.sD (h : PRw w base D S L wt q) : S D := by
  obtain ⟨_, _, h, _⟩ := h.ex
  exact h.sD
theorem PRw.bd (h : PRw w base D S L wt q) : ∀ b, S b → base ≤ b ∧ b < w.heap.size := by
  obtain ⟨_, _, h, _⟩ := h.ex
  exact h.bd
theorem PRw.keep (h : PRw w base D S L wt q) (hs : w.heap.size ≤ w'.heap.size) (hk : ∀ b, S b → w'.heap[b]? = w.heap[b]?) : PRw w' base D S L wt q := by
  obtain ⟨ho, ks, h1, h2, h3, h4⟩ := h.ex
  exact ⟨⟨ho, ks, h1.keep hs hk, h2.keep (fun M hM => hk M (h3 M hM)), h3, h4⟩, h.srt, h.one, h.dis, h.len, h.lo⟩
theorem PRw.low (h : PRw w base D S L wt q) (hb : base' ≤ base) : PRw w base' D S L wt q := by
  obtain ⟨ho, ks, h1, h2⟩ := h.ex
  exact ⟨⟨ho, ks, h1.low hb, h2⟩, h.srt, h.one, h.dis, h.len, h.lo⟩
theorem PRw.fresh (h : PRw w base D S L wt q) (k : Below w.heap.size w w') : PRw w' base D S L wt q := h.keep k.size (fun b hb => k.block b (h.bd b hb).2)
theorem pr_new (w : World) : Calls Try.prog 71 #[] w fun e w' => ∃ D S, e = .returned (.pointer (some ⟨D, 0, none⟩)) ∧ PRw w' w.heap.size D S [] false [] ∧ Below w.heap.size w w' := by
  have H1 : Hid _ := heap_alloc_new w (.cells #[.slice none 0 0, .map none, .map none, .bool false] 148)
  have B1 : Hid _ := (Below.refl _ w).alloc (Nat.le_refl _) (.cells #[.slice none 0 0, .map none, .map none, .bool false] 148)
  go_enter Try.func71, Try.ntmps71
  go_wp2
  go_ret
  refine ⟨w.heap.size, fun b => b = w.heap.size, rfl, ⟨⟨none, [], ⟨⟨.slice none 0 0, none, [], H1.out, Slid.nil _, fun g hg => (by simp [Value.ownBlock] at hg), SetO.nil _, fun M e => (by cases e), List.Perm.refl _⟩, rfl, fun b hb => ⟨by omega, by simp; omega⟩, fun p hp => (by cases hp), by decide, fun M e => (by cases e)⟩, SetO.nil _, fun M e => (by cases e), List.Perm.refl _⟩, List.Pairwise.nil, fun e => (by cases e), fun t ht => (by cases ht), Nat.zero_le _, fun t ht => (by cases ht)⟩, B1.out⟩
set_option maxHeartbeats 3200000 in
set_option maxRecDepth 100000 in
theorem pr_holds (h : PRw w base D S L wt q) (t : Int) (ht : okI t) : Calls Try.prog 105 #[.pointer (some ⟨D, 0, none⟩), .int .i64 t] w fun e w' => e = .returned (.bool (hasB L t)) ∧ Below w.heap.size w w' := by
  obtain ⟨ho, hs, h1, h2, h3, h4⟩ := h.ex
  have hl := h2.look (x := t) ht
  have e : decide (t ∈ hs) = hasB L t := by
    unfold hasB
    rw [Bool.eq_iff_iff, decide_eq_true_eq, decide_eq_true_eq]
    exact h4.mem_iff
  rw [e] at hl
  have c2 := (h1.cells).1
  have HB : Hid _ := (Below.refl _ w).alloc (Nat.le_refl _) (.cells #[] 177)
  clear h1 h2 h3 h4 h e
  go_enter Try.func105, Try.ntmps105
  go_wp2
  go_ret
  exact ⟨rfl, HB.out⟩
set_option maxHeartbeats 3200000 in
set_option maxRecDepth 100000 in
theorem pr_room (h : PRw w base D S L wt q) (rd : Bool) : Calls Try.prog 106 #[.pointer (some ⟨D, 0, none⟩), .bool rd] w fun e w' => e = .returned (.bool (fitsB L wt rd)) ∧ w = w' := by
  obtain ⟨ho, hs, h1, h2, h3, h4⟩ := h.ex
  have hl := h2.len
  obtain ⟨c2, c3, _⟩ := h1.cells
  rw [h4.length_eq] at hl
  clear h1 h2 h3 h4 h
  unfold fitsB
  by_cases h0 : L.length = 0
  · rw [decide_eq_true h0, Bool.true_or]
    have q0 : ((L.length : Int) == 0) = true := by rw [beq_iff_eq]; omega
    clear h0 c3
    go_enter Try.func106, Try.ntmps106
    go_wp2
    go_ret
    exact ⟨rfl, rfl⟩
  · rw [decide_eq_false h0, Bool.false_or]
    have q0 : ((L.length : Int) == 0) = false := by rw [beq_eq_false_iff_ne]; omega
    rw [decide_eq_true (by omega), Bool.and_true] at c3
    clear h0
    cases rd with
    | false =>
      go_enter Try.func106, Try.ntmps106
      go_wp2
      go_ret
      exact ⟨rfl, rfl⟩
    | true =>
      go_enter Try.func106, Try.ntmps106
      go_wp2
      go_ret
      exact ⟨rfl, rfl⟩
end
end Go.Proofs.Ythhlglbohibekaa
namespace Go.Proofs.Ythhlglbohibekaa
open Go.RowKit

section
variable {w w' : World} {base base' D : Nat} {S S' : Nat → Prop} {L : List Int} {wt : Bool} {q : List Wt}
theorem hold_fin (h : PRw w base D S L wt q) (t : Int) (rd : Bool) (ht : okI t) (htL : t ∉ L) (htq : t ∉ q.map (·.1)) (hf : fitsB L wt rd = true) (hN : L.length + q.length < 65536) {hs : List Int} {M : Nat} (hp : hs.Perm L) (hq : QAt w' base D S' 148 (.map (some M)) (.bool (!rd)) q) (hs' : SetAt w' M (hs ++ [t])) (hM : S' M) : PRw w' base D S' (putL L t) (!rd) q := by
  refine ⟨⟨some M, hs ++ [t], ?_, SetO.some hs', fun M' e => (by cases e; exact hM), ?_⟩, putL_sorted L t h.srt htL, fun e => ?_, fun z hz => ?_, by rw [putL_length]; omega, fun z hz => ?_⟩
  · rw [putL_length, decide_eq_true (by omega), Bool.and_true]
    exact hq
  · exact (List.perm_append_comm.trans (List.Perm.cons t hp)).trans (putL_perm L t).symm
  · have e2 : rd = false := by simpa using e
    rw [e2] at hf
    unfold fitsB at hf
    rw [Bool.false_and, Bool.or_false, decide_eq_true_eq] at hf
    rw [putL_length]
    omega
  · rcases putL_mem hz with e | hz
    · rw [e]; exact htq
    · exact h.dis z hz
  · rcases putL_mem hz with e | hz
    · rw [e]; exact ht
    · exact h.lo z hz
set_option maxHeartbeats 6400000 in
set_option maxRecDepth 100000 in
theorem pr_hold (h : PRw w base D S L wt q) (t : Int) (rd : Bool) (ht : okI t) (htL : t ∉ L) (htq : t ∉ q.map (·.1)) (hf : fitsB L wt rd = true) (hN : L.length + q.length < 65536) :
    Calls Try.prog 107 #[.pointer (some ⟨D, 0, none⟩), .int .i64 t, .bool rd] w fun e w' => e = .returned (.tuple #[]) ∧ ∃ S', PRw w' base D S' (putL L t) (!rd) q ∧ Kept w w' S S' := by
  obtain ⟨ho, hs, hq, h2, h3, h4⟩ := h.ex
  have hnk : t ∉ hs := fun e => htL (h4.mem_iff.1 e)
  have hkl : hs.length < maxLen := by
    have := h4.length_eq
    unfold maxLen
    omega
  obtain ⟨c2, c3', f2, f3', hD⟩ := hq.cells
  rcases h2.ex with ⟨rfl, rfl⟩ | ⟨M, rfl, h7⟩
  · have heq := map_is_nil
    have hmk := @run_makeMap Try.prog
    have hq1 := hq.fresh ((Below.refl _ w).alloc (Nat.le_refl _) (.map #[] 0))
    have k2 := hq1.setX (.map (some w.heap.size)) (fun M e => by
      simp only [Value.map.injEq, Option.some.injEq] at e
      subst e
      exact ⟨by simp, fun e => by have := (hq.bd _ e).2; omega⟩)
    have z1 := (k2.1.cells).1
    have z2 := (hq1.cells).1
    have z3 := (hq1.cells).2.2.1
    have hst := (set_new w).keep (w' := (w.alloc (.map #[] 0)).setCell ⟨D, 2, none⟩ (.map (some w.heap.size))) (heap_setCell_other _ _ _ _ (by show w.heap.size ≠ D; omega))
    obtain ⟨w3, hup, hs3, hg3, hz3⟩ := set_put hst ht (by unfold maxLen; simp) hnk
    have hq3 := k2.1.turnX hst hg3
    have hMD : w.heap.size ≠ D := by omega
    have c3 : w3.cell? ⟨D, 3, none⟩ = some (.bool (wt && decide (0 < L.length))) := (hq3.cells).2.1
    have f3 : w3.frozen? ⟨D, 3, none⟩ = false := (hq3.cells).2.2.2.1
    have k4 := hq3.setY (.bool (!rd))
    have hs4 := hs3.keep (w' := w3.setCell ⟨D, 3, none⟩ (.bool (!rd))) (heap_setCell_other _ _ _ _ (by simpa using hMD))
    have KK : Kept w (w3.setCell ⟨D, 3, none⟩ (.bool (!rd))) S (fun b => S b ∨ b = w.heap.size) := by
      have k5 : Kept w (w3.setCell ⟨D, 3, none⟩ (.bool (!rd))) S S := ⟨k4.2.os.trans hg3.os, k4.2.tape.trans hg3.tape, k4.2.output.trans hg3.output, by simp [hz3], fun b hb => Or.inl hb, fun b hb hn => by
        rw [k4.2.kept b (by rw [hz3]; simp; omega) hn, hg3.block b (by simp; omega) (fun e => by have := Option.some.inj e; omega), k2.2.kept b (by simp; omega) hn, Below.heap_alloc w _ b hb]⟩
      exact ⟨k5.os, k5.tape, k5.output, k5.size, fun b hb => hb.imp id (fun e => by omega), k5.kept⟩
    have FIN : Hid _ := hold_fin (S' := fun b => S b ∨ b = w.heap.size) h t rd ht htL htq hf hN h4 (k4.1.grow (fun b hb => Or.inl hb) (fun b hb => by
      rcases hb with hb | hb
      · exact k4.1.bd b hb
      · have := hq.base_le
        exact ⟨by omega, by simp [hz3]; omega⟩)) hs4 (Or.inr rfl)
    have HK : Hid _ := KK
    clear h hq h2 h3 h4 hnk hkl hf hq1 k2 hst hs3 hg3 hq3 k4 hs4 KK htL htq hD hMD hz3
    go_enter Try.func107, Try.ntmps107
    go_wp2
    go_returns
    exact ⟨rfl, _, FIN.out, HK.out⟩
  · have heq := map_no_nil M
    obtain ⟨w3, hup, hs3, hg3, hz3⟩ := set_put h7 ht hkl hnk
    have hq3 := hq.turnX h7 hg3
    have hMD : M ≠ D := by
      obtain ⟨v, mo, ks, h1, _⟩ := hq.ex
      exact h7.ne h1
    have c3 : w3.cell? ⟨D, 3, none⟩ = some (.bool (wt && decide (0 < L.length))) := (hq3.cells).2.1
    have f3 : w3.frozen? ⟨D, 3, none⟩ = false := (hq3.cells).2.2.2.1
    have k4 := hq3.setY (.bool (!rd))
    have hs4 := hs3.keep (w' := w3.setCell ⟨D, 3, none⟩ (.bool (!rd))) (heap_setCell_other _ _ _ _ (by simpa using hMD))
    have KK : Kept w (w3.setCell ⟨D, 3, none⟩ (.bool (!rd))) S S := ⟨k4.2.os.trans hg3.os, k4.2.tape.trans hg3.tape, k4.2.output.trans hg3.output, by simp [hz3], fun b hb => Or.inl hb, fun b hb hn => by
        rw [k4.2.kept b (by rw [hz3]; omega) hn, hg3.block b hb (fun e => hn (by rw [Option.some.inj e]; exact h3 M rfl))]⟩
    have FIN : Hid _ := hold_fin (S' := S) h t rd ht htL htq hf hN h4 k4.1 hs4 (h3 M rfl)
    have HK : Hid _ := KK
    clear h hq h2 h3 h4 hnk hkl hf h7 hs3 hg3 hq3 k4 hs4 KK htL htq
    go_enter Try.func107, Try.ntmps107
    go_wp2
    go_returns
    exact ⟨rfl, _, FIN.out, HK.out⟩
end
end Go.Proofs.Ythhlglbohibekaa
namespace Go.Proofs.Ythhlglbohibekaa
open Go.RowKit

section
variable {w w' : World} {base base' D : Nat} {S S' : Nat → Prop} {L : List Int} {wt : Bool} {q : List Wt}
theorem pr_join (h : PRw w base D S L wt q) (t : Int) (rd : Bool) (ht : okI t) (htL : hasB L t = false) (htq : qHas q t = false) (hN : L.length + q.length < 65536) :
    Calls Try.prog 97 #[.pointer (some ⟨D, 0, none⟩), .int .i64 t, .bool rd] w fun e w' => e = .returned (.tuple #[]) ∧ ∃ S', PRw w' base D S' L wt (q ++ [(t, rd, true)]) ∧ Kept w w' S S' := by
  obtain ⟨ho, hs, hq, h2, h3, h4⟩ := h.ex
  refine (q_join hq t rd ht htq (by omega)).mono ?_
  rintro e w' ⟨rfl, S', h5, h6, h7, h8⟩
  refine ⟨rfl, S', ⟨⟨ho, hs, h5, h2.keepX h7, fun M e => h8 M (h3 M e), h4⟩, h.srt, h.one, fun z hz e => ?_, by rw [List.length_append]; simp; omega, h.lo⟩, h6⟩
  rw [List.map_append, List.mem_append] at e
  rcases e with e | e
  · exact h.dis z hz e
  · have e2 : z = t := by simpa using e
    rw [e2] at hz
    have := decide_eq_true hz
    unfold hasB at htL
    rw [htL] at this
    cases this
set_option maxHeartbeats 6400000 in
set_option maxRecDepth 100000 in
theorem pr_lock (h : PRw w base D S L wt q) (t : Int) (ht : okI t) (rd : Bool) (hN : L.length + q.length < 65536) : Calls Try.prog 103 #[.pointer (some ⟨D, 0, none⟩), .int .i64 t, .bool rd] w fun e w' => e = .returned (.tuple #[.bool (rwB L wt q t rd), .int .i64 (rwZ L q t)]) ∧ ∃ S', PRw w' base D S' (rwSt L wt q t rd).1 (rwSt L wt q t rd).2.1 (rwSt L wt q t rd).2.2 ∧ Kept w w' S S' := by
  have H : Hid _ := h
  by_cases h1 : t < 0
  · have e1 : rwZ L q t = 1 := by unfold rwZ; rw [if_pos h1]
    have e2 : rwB L wt q t rd = false := by unfold rwB; rw [e1]; rfl
    have e3 : rwSt L wt q t rd = (L, wt, q) := by unfold rwSt; rw [e1, if_neg (by decide)]
    rw [e1, e2, e3]
    have q1 : decide (t < 0) = true := decide_eq_true h1
    clear h e1 e2 e3
    go_enter Try.func103, Try.ntmps103
    go_wp2
    go_ret2
    exact ⟨rfl, S, H.out, Kept.refl _ _⟩
  have q1 : decide (t < 0) = false := decide_eq_false h1
  have hh := pr_holds h t ht
  have hw : ∀ w1 : World, Below w.heap.size w w1 → Calls Try.prog 96 #[.pointer (some ⟨D, 0, none⟩), .int .i64 t] w1 fun e w2 => e = .returned (.bool (qHas q t)) ∧ Below w.heap.size w w2 := fun w1 b1 => by
    obtain ⟨ho, hs, hq, _⟩ := (h.fresh b1).ex
    exact (q_waits hq t ht).mono (fun e w2 h => ⟨h.1, b1.trans (h.2.mono b1.size)⟩)
  have HW : Hid _ := hw
  cases hb : hasB L t with
  | true =>
    have e1 : rwZ L q t = 12 := by unfold rwZ heldB; rw [if_neg h1, hb]; rfl
    have e2 : rwB L wt q t rd = false := by unfold rwB; rw [e1]; rfl
    have e3 : rwSt L wt q t rd = (L, wt, q) := by unfold rwSt; rw [e1, if_neg (by decide)]
    rw [e1, e2, e3]
    rw [hb] at hh
    clear h hw e1 e2 e3 h1 hb
    go_enter Try.func103, Try.ntmps103
    go_wp2_with (go_at_call 105; refine hh.mono ?_; rintro e w1 ⟨rfl, b1⟩)
    go_ret2
    exact ⟨rfl, S, H.out.fresh b1, Kept.of b1⟩
  | false =>
    rw [hb] at hh
    cases hc : qHas q t with
    | true =>
      have e1 : rwZ L q t = 12 := by
        unfold rwZ heldB
        unfold qHas at hc
        rw [if_neg h1, hb, hc]
        rfl
      have e2 : rwB L wt q t rd = false := by unfold rwB; rw [e1]; rfl
      have e3 : rwSt L wt q t rd = (L, wt, q) := by unfold rwSt; rw [e1, if_neg (by decide)]
      rw [e1, e2, e3]
      rw [hc] at HW
      clear h hw e1 e2 e3 h1 hb hc
      go_enter Try.func103, Try.ntmps103
      go_wp2_with (first
        | (go_at_call 96; refine (HW.out _ b1).mono ?_; rintro e w2 ⟨rfl, b2⟩)
        | (go_at_call 105; refine hh.mono ?_; rintro e w1 ⟨rfl, b1⟩))
      go_ret2
      exact ⟨rfl, S, H.out.fresh b2, Kept.of b2⟩
    | false =>
      have e1 : rwZ L q t = 0 := by
        unfold rwZ heldB
        unfold qHas at hc
        rw [if_neg h1, hb, hc]
        rfl
      have ha : ∀ w1 : World, Below w.heap.size w w1 → Calls Try.prog 98 #[.pointer (some ⟨D, 0, none⟩)] w1 fun e w2 => e = .returned (.bool (decide (0 < q.length))) ∧ w1 = w2 := fun w1 b1 => by
        obtain ⟨ho, hs, hq, _⟩ := (h.fresh b1).ex
        exact q_anybody hq
      have HA : Hid _ := ha
      have hr : ∀ w1 : World, Below w.heap.size w w1 → Calls Try.prog 106 #[.pointer (some ⟨D, 0, none⟩), .bool rd] w1 fun e w2 => e = .returned (.bool (fitsB L wt rd)) ∧ w1 = w2 := fun w1 b1 => pr_room (h.fresh b1) rd
      have HR : Hid _ := hr
      have hj : ∀ w1 : World, Below w.heap.size w w1 → Calls Try.prog 97 #[.pointer (some ⟨D, 0, none⟩), .int .i64 t, .bool rd] w1 fun e w' => e = .returned (.tuple #[]) ∧ ∃ S', PRw w' base D S' L wt (q ++ [(t, rd, true)]) ∧ Kept w w' S S' := fun w1 b1 =>
        (pr_join (h.fresh b1) t rd ht hb hc hN).mono (fun e w' ⟨h5, S', h6, h7⟩ => ⟨h5, S', h6, (Kept.of b1).trans h7⟩)
      have HJ : Hid _ := hj
      rw [hc] at HW
      by_cases h0 : 0 < q.length
      · have e2 : rwB L wt q t rd = false := by unfold rwB; rw [decide_eq_false (p := q.length = 0) (by omega), Bool.and_false, Bool.false_and]
        have e3 : rwSt L wt q t rd = (L, wt, q ++ [(t, rd, true)]) := by unfold rwSt; rw [e1, if_pos rfl, e2, if_neg (by decide)]
        rw [e1, e2, e3]
        rw [decide_eq_true h0] at HA
        clear h hw e1 e2 e3 h1 hb hc ha hr hj h0
        go_enter Try.func103, Try.ntmps103
        go_wp2_with (first
          | (go_at_call 97; refine (HJ.out _ b2).mono ?_; rintro e w4 ⟨rfl, S4, hp4, hk4⟩)
          | (go_at_call 98; refine (HA.out _ b2).mono ?_; rintro e w3 ⟨rfl, rfl⟩)
          | (go_at_call 96; refine (HW.out _ b1).mono ?_; rintro e w2 ⟨rfl, b2⟩)
          | (go_at_call 105; refine hh.mono ?_; rintro e w1 ⟨rfl, b1⟩))
        go_ret2
        exact ⟨rfl, S4, hp4, hk4⟩
      · have h00 : q.length = 0 := by omega
        rw [decide_eq_false h0] at HA
        cases hf : fitsB L wt rd with
        | false =>
          have e2 : rwB L wt q t rd = false := by unfold rwB; rw [hf, Bool.and_false]
          have e3 : rwSt L wt q t rd = (L, wt, q ++ [(t, rd, true)]) := by unfold rwSt; rw [e1, if_pos rfl, e2, if_neg (by decide)]
          rw [e1, e2, e3]
          rw [hf] at HR
          clear h hw e1 e2 e3 h1 hb hc ha hr hj h0 h00 hf
          go_enter Try.func103, Try.ntmps103
          go_wp2_with (first
            | (go_at_call 97; refine (HJ.out _ b2).mono ?_; rintro e w4 ⟨rfl, S4, hp4, hk4⟩)
            | (go_at_call 106; refine (HR.out _ b2).mono ?_; rintro e w3 ⟨rfl, rfl⟩)
            | (go_at_call 98; refine (HA.out _ b2).mono ?_; rintro e w3 ⟨rfl, rfl⟩)
            | (go_at_call 96; refine (HW.out _ b1).mono ?_; rintro e w2 ⟨rfl, b2⟩)
            | (go_at_call 105; refine hh.mono ?_; rintro e w1 ⟨rfl, b1⟩))
          go_ret2
          exact ⟨rfl, S4, hp4, hk4⟩
        | true =>
          have e2 : rwB L wt q t rd = true := by unfold rwB; rw [e1, h00, hf]; rfl
          have e3 : rwSt L wt q t rd = (putL L t, !rd, q) := by unfold rwSt; rw [e1, if_pos rfl, e2, if_pos rfl]
          rw [e1, e2, e3]
          have hg : ∀ w1 : World, Below w.heap.size w w1 → Calls Try.prog 107 #[.pointer (some ⟨D, 0, none⟩), .int .i64 t, .bool rd] w1 fun e w' => e = .returned (.tuple #[]) ∧ ∃ S', PRw w' base D S' (putL L t) (!rd) q ∧ Kept w w' S S' := fun w1 b1 =>
            (pr_hold (h.fresh b1) t rd ht (fun e => by have := decide_eq_true e; unfold hasB at hb; rw [hb] at this; cases this) (fun e => by have := qHas_iff.2 e; rw [hc] at this; cases this) hf hN).mono (fun e w' ⟨h5, S', h6, h7⟩ => ⟨h5, S', h6, (Kept.of b1).trans h7⟩)
          have HG : Hid _ := hg
          rw [hf] at HR
          clear h hw e1 e2 e3 h1 hb hc ha hr hj h0 h00 hf hg
          go_enter Try.func103, Try.ntmps103
          go_wp2_with (first
            | (go_at_call 107; refine (HG.out _ b2).mono ?_; rintro e w4 ⟨rfl, S4, hp4, hk4⟩)
            | (go_at_call 106; refine (HR.out _ b2).mono ?_; rintro e w3 ⟨rfl, rfl⟩)
            | (go_at_call 98; refine (HA.out _ b2).mono ?_; rintro e w3 ⟨rfl, rfl⟩)
            | (go_at_call 96; refine (HW.out _ b1).mono ?_; rintro e w2 ⟨rfl, b2⟩)
            | (go_at_call 105; refine hh.mono ?_; rintro e w1 ⟨rfl, b1⟩))
          go_ret2
          exact ⟨rfl, S4, hp4, hk4⟩
end
end Go.Proofs.Ythhlglbohibekaa
namespace Go.Proofs.Ythhlglbohibekaa
open Go.RowKit

section
variable {w w' : World} {base base' D : Nat} {S S' : Nat → Prop} {L : List Int} {wt : Bool} {q : List Wt}
theorem pr_leave {t : Int} {r b : Bool} (h : PRw w base D S L wt ((t, r, b) :: q)) : Calls Try.prog 99 #[.pointer (some ⟨D, 0, none⟩)] w fun e w' => e = .returned (.agg #[.int .i64 t, .bool r, .bool b]) ∧ ∃ S', PRw w' base D S' L wt q ∧ Kept w w' S S' := by
  obtain ⟨ho, hs, hq, h2, h3, h4⟩ := h.ex
  refine (q_leave hq).mono ?_
  rintro e w' ⟨rfl, S', h5, h6, h7, h8⟩
  exact ⟨rfl, S', ⟨⟨ho, hs, h5, h2.keepX h7, fun M e => h8 M (h3 M e), h4⟩, h.srt, h.one, fun z hz e => h.dis z hz (by rw [List.map_cons]; exact List.mem_cons_of_mem _ e), by have := h.len; rw [List.length_cons] at this; omega, h.lo⟩, h6⟩
theorem PRw.first {t : Int} {r b : Bool} (h : PRw w base D S L wt ((t, r, b) :: q)) : t ∉ L ∧ t ∉ q.map (·.1) ∧ okI t := by
  obtain ⟨ho, hs, hq, h2, h3, h4⟩ := h.ex
  have hn := hq.nodup
  rw [List.map_cons, List.nodup_cons] at hn
  exact ⟨fun e => h.dis t e (by simp), hn.1, hq.lo (t, r, b) (by simp)⟩
theorem drop_fin (h : PRw w base D S L wt q) (t : Int) (htL : t ∈ L) {M : Nat} {hs : List Int} (hq : QAt w base D S 148 (.map (some M)) (.bool (wt && decide (0 < L.length))) q) (h2 : SetAt w M hs) (h3 : S M) (h4 : hs.Perm L) {w2 : World} (hs2 : SetAt w2 M (hs.filter fun y => !(y == t))) (hg : w.grownBy w2 (some M)) (hz : w2.heap.size = w.heap.size) :
    PRw (w2.setCell ⟨D, 3, none⟩ (.bool false)) base D S (dropL L t) wt q ∧ Kept w (w2.setCell ⟨D, 3, none⟩ (.bool false)) S S := by
  have hq2 := hq.turnX h2 hg
  have k3 := hq2.setY (.bool false)
  have hMD : M ≠ D := by
    obtain ⟨v, mo, ks, h1, _⟩ := hq.ex
    exact h2.ne h1
  have hle : (dropL L t).length ≤ L.length := by unfold dropL; exact List.length_filter_le _ _
  refine ⟨⟨⟨some M, _, ?_, SetO.some (hs2.keep (heap_setCell_other _ _ _ _ (by simpa using hMD))), fun M' e => (by cases e; exact h3), h4.filter _⟩, h.srt.filter _, fun e => Nat.le_trans hle (h.one e), fun z hz => h.dis z (dropL_mem hz), by have := h.len; omega, fun z hz => h.lo z (dropL_mem hz)⟩, ⟨k3.2.os.trans hg.os, k3.2.tape.trans hg.tape, k3.2.output.trans hg.output, by simp [hz], fun b hb => Or.inl hb, fun b hb hn => ?_⟩⟩
  · have e : (wt && decide (0 < (dropL L t).length)) = false := by
      cases hw : wt with
      | false => rfl
      | true =>
        have h1 := h.one hw
        have e1 : dropL L t = [] := by
          cases L with
          | nil => rfl
          | cons a l =>
            have e2 : l = [] := List.eq_nil_of_length_eq_zero (by rw [List.length_cons] at h1; omega)
            subst e2
            have e3 : t = a := by simpa using htL
            simp [dropL, e3]
        rw [e1]
        rfl
    rw [e]
    exact k3.1
  · rw [k3.2.kept b (by omega) hn, hg.block b hb (fun e => hn (by rw [Option.some.inj e]; exact h3))]
set_option maxHeartbeats 6400000 in
set_option maxRecDepth 100000 in
theorem pr_unlock (h : PRw w base D S L wt q) (t : Int) (ht : okI t) (rd : Bool) (hN : L.length + q.length < 65536) : Calls Try.prog 104 #[.pointer (some ⟨D, 0, none⟩), .int .i64 t, .bool rd] w fun e w' => ∃ u, e = .returned (.tuple #[u, .int .i64 (rwUZ L wt t rd)]) ∧ RowAt intC w' u (rwU L wt q t rd).1 ∧ (∀ bk off n cap, 0 < n → u = .slice (some ⟨bk, off, none⟩) n cap → w.heap.size ≤ bk) ∧ ∃ S', PRw w' base D S' (rwU L wt q t rd).2.1 (rwU L wt q t rd).2.2.1 (rwU L wt q t rd).2.2.2 ∧ Kept w w' S S' := by
  have hh := pr_holds h t ht
  have H : Hid _ := h
  have nil0 : ∀ (bk off n cap : Nat), 0 < n → Value.slice none 0 0 = .slice (some ⟨bk, off, none⟩) n cap → w.heap.size ≤ bk := fun bk off n cap h0 e => by simp at e
  have NIL : Hid _ := nil0
  clear nil0
  cases hb : hasB L t with
  | false =>
    have HZ : Hid (rwUZ L wt t rd = 13) := by show _ = _; unfold rwUZ rwUE; rw [hb]; rfl
    have HU : Hid (rwU L wt q t rd = ([], L, wt, q)) := by show _ = _; unfold rwU rwUE; rw [hb]; rfl
    rw [hb] at hh
    clear h hb
    go_enter Try.func104, Try.ntmps104
    go_wp2_with (go_at_call 105; refine hh.mono ?_; rintro e w1 ⟨rfl, b1⟩)
    go_ret2
    exact ⟨_, by rw [HZ.out]; rfl, by rw [HU.out]; exact RowAt.nil _, NIL.out, S, by rw [HU.out]; exact H.out.fresh b1, Kept.of b1⟩
  | true =>
    have htL : t ∈ L := by unfold hasB at hb; simpa using hb
    have hLp : 0 < L.length := List.length_pos_of_mem htL
    obtain ⟨ho, hs, hq, h2, h3, h4⟩ := h.ex
    obtain ⟨c2, c3, f2, f3, hD⟩ := hq.cells
    rw [decide_eq_true hLp, Bool.and_true] at c3
    rw [hb] at hh
    cases hw : (wt == rd) with
    | true =>
      have HZ : Hid (rwUZ L wt t rd = 13) := by show _ = _; unfold rwUZ rwUE; rw [hb, hw]; rfl
      have HU : Hid (rwU L wt q t rd = ([], L, wt, q)) := by show _ = _; unfold rwU rwUE; rw [hb, hw]; rfl
      clear h hb hq h2 h3 h4 htL hLp
      go_enter Try.func104, Try.ntmps104
      go_wp2_with (go_at_call 105; refine hh.mono ?_; rintro e w1 ⟨rfl, b1⟩; have z3 := (b1.cell (p := ⟨D, 3, none⟩) (by exact hD)).trans c3)
      go_ret2
      exact ⟨_, by rw [HZ.out]; rfl, by rw [HU.out]; exact RowAt.nil _, NIL.out, S, by rw [HU.out]; exact H.out.fresh b1, Kept.of b1⟩
    | false =>
      have HZ : Hid (rwUZ L wt t rd = 0) := by show _ = _; unfold rwUZ rwUE; rw [hb, hw]; rfl
      have HU : Hid (rwU L wt q t rd = rwGo (dropL L t) wt q) := by show _ = _; unfold rwU rwUE; rw [hb, hw]; rfl
      rcases h2.ex with ⟨_, rfl⟩ | ⟨M, rfl, h7⟩
      · have := h4.length_eq
        simp at this
        omega
      have st : ∀ w1 : World, Below w.heap.size w w1 → ∃ w2, (Builtin.delete_ #[142, 3] 0 #[.map (some M), .int .i64 t]).run Try.prog w1 = .ok (.tuple #[]) w2 ∧ w2.cell? ⟨D, 3, none⟩ = some (.bool wt) ∧ w2.frozen? ⟨D, 3, none⟩ = false ∧ PRw (w2.setCell ⟨D, 3, none⟩ (.bool false)) base D S (dropL L t) wt q ∧ Kept w (w2.setCell ⟨D, 3, none⟩ (.bool false)) S S := fun w1 b1 => by
        have h1 := h.fresh b1
        have hq1 := hq.fresh b1
        have h71 := h7.keep (b1.block M (hq.bd M (h3 M rfl)).2)
        obtain ⟨w2, hd, hs2, hg2, hz2⟩ := set_del h71 ht 0
        obtain ⟨k1, k2⟩ := drop_fin h1 t htL hq1 h71 (h3 M rfl) h4 hs2 hg2 hz2
        have hc := (hq1.turnX h71 hg2).cells
        refine ⟨w2, hd, ?_, hc.2.2.2.1, k1, (Kept.of b1).trans k2⟩
        rw [hc.2.1, decide_eq_true hLp, Bool.and_true]
      have ST : Hid _ := st
      have hdl : (dropL L t).length ≤ L.length := by unfold dropL; exact List.length_filter_le _ _
      obtain ⟨dl, hdle⟩ : ∃ dl, dl = dropL L t := ⟨_, rfl⟩
      rw [← hdle] at hdl HU ST
      obtain ⟨i0, hi, hz0, hz1, hz2⟩ := info_parts infoI
      clear st h hb hq h2 h3 h4 h7 hLp htL hdle
      go_enter Try.func104, Try.ntmps104
      go_wp2_with (go_at_call 105; refine hh.mono ?_; rintro e w1 ⟨rfl, b1⟩; obtain ⟨w2, hdel, y3, x3, hp2, hk2⟩ := ST.out w1 b1; have z2 := (b1.cell (p := ⟨D, 2, none⟩) (by exact hD)).trans c2; have z3 := (b1.cell (p := ⟨D, 3, none⟩) (by exact hD)).trans c3)
      generalize hw3 : w2.setCell ⟨D, 3, none⟩ (.bool false) = w3 at *
      clear hw3 hdel y3 x3 z2 z3 ST hh c2 c3 f2 f3 b1
      go_loopw [8, 9] (fun g _ wr => ∃ (L' : List Int) (wt' : Bool) (q' : List Wt) (got : List Int) (S' : Nat → Prop), PRw wr base D S' L' wt' q' ∧ Kept w wr S S' ∧ wr.ownsRow w.heap.size 3 1 g got.length (intL got) ∧ (∀ x, g.ownBlock = some x → ¬ S' x) ∧ Hid (rwGo dl wt q = (got ++ (rwGo L' wt' q').1, (rwGo L' wt' q').2)) ∧ L'.length + q'.length < 65536 ∧ got.length + q'.length ≤ q.length) (fun _ _ wr => match wr.cell? ⟨D, 0, none⟩ with | some (.slice _ n _) => n | _ => 0)
      case atStart => exact ⟨dl, wt, q, [], S, hp2, hk2, World.ownsRow_nil _ _ _ _, fun x e => (by simp [Value.ownBlock] at e), by show _ = _; simp, by omega, by simp⟩
      case round =>
        obtain ⟨L', wt', q', got, S', hr, hk, hown, hne, HG, hN', hgq⟩ := hrel
        clear hp2 hk2
        have HLOW : Hid (∀ bk off n cap, 0 < n → u8 = .slice (some ⟨bk, off, none⟩) n cap → w.heap.size ≤ bk) := fun bk off n cap h0 e => (World.ownsRow.lt hown bk (by rw [e]; rfl)).1
        obtain ⟨pg, ng, mg, rfl⟩ := own_form hown
        have HO : Hid (World.ownsRow wr w.heap.size 3 1 (.slice pg ng mg) got.length (intL got)) := hown
        have HR : Hid _ := hr
        have ha : Calls Try.prog 98 #[.pointer (some ⟨D, 0, none⟩)] wr fun e w2 => e = .returned (.bool (decide (0 < q'.length))) ∧ wr = w2 := by
          obtain ⟨ho, hs, hq, _⟩ := hr.ex
          exact q_anybody hq
        cases q' with
        | nil =>
          have HG2 : Hid (rwU L wt q t rd = (got, L', wt', [])) := by
            show _ = _
            rw [HU.out, HG.out]
            simp [rwGo]
          rw [decide_eq_false (by simp)] at ha
          clear hr HG hown
          go_wp2_with (go_at_call 98; refine ha.mono ?_; rintro e w4 ⟨rfl, rfl⟩)
          go_ret2
          refine ⟨_, by rw [HZ.out]; rfl, ?_, HLOW.out, S', ?_, hk⟩
          · rw [HG2.out]
            exact RowAt.own (k := 1) (T := 3) (base := w.heap.size) intC_len (by rw [rowL_int]; exact HO.out)
          · rw [HG2.out]
            exact HR.out
        | cons p qs =>
          obtain ⟨x1, x2, x3⟩ := p
          rw [decide_eq_true (by simp)] at ha
          have hf : Calls Try.prog 100 #[.pointer (some ⟨D, 0, none⟩)] wr fun e w2 => e = .returned (.agg #[.int .i64 x1, .bool x2, .bool x3]) ∧ Below wr.heap.size wr w2 := by
            obtain ⟨ho, hs, hq, _⟩ := hr.ex
            exact q_first hq
          have hfr := field_reader x1 x2 x3
          have hm : ∀ w4, Below wr.heap.size wr w4 → Calls Try.prog 106 #[.pointer (some ⟨D, 0, none⟩), .bool x2] w4 fun e w5 => e = .returned (.bool (fitsB L' wt' x2)) ∧ w4 = w5 := fun w4 b4 => pr_room (hr.fresh b4) x2
          have HM : Hid _ := hm
          cases hfb : fitsB L' wt' x2 with
          | false =>
            have HG2 : Hid (rwU L wt q t rd = (got, L', wt', (x1, x2, x3) :: qs)) := by
              show _ = _
              rw [HU.out, HG.out, rwGo_stop L' wt' _ (fun y q' e => by cases e; exact hfb)]
              simp
            rw [hfb] at HM
            clear hr HG hown hm hfb
            go_wp2_with (first
              | (go_at_call 106; refine (HM.out _ b4).mono ?_; rintro e w5 ⟨rfl, rfl⟩)
              | (go_at_call 100; refine hf.mono ?_; rintro e w4 ⟨rfl, b4⟩)
              | (go_at_call 98; refine ha.mono ?_; rintro e w4 ⟨rfl, rfl⟩))
            go_ret2
            refine ⟨_, by rw [HZ.out]; rfl, ?_, HLOW.out, S', ?_, hk.trans (Kept.of b4)⟩
            · rw [HG2.out]
              exact (RowAt.own (k := 1) (T := 3) (base := w.heap.size) intC_len (by rw [rowL_int]; exact HO.out)).fresh b4
            · rw [HG2.out]
              exact HR.out.fresh b4
          | true =>
            have HG2 : Hid (rwGo dl wt q = (got ++ [x1] ++ (rwGo (putL L' x1) (!x2) qs).1, (rwGo (putL L' x1) (!x2) qs).2)) := by
              show _ = _
              rw [HG.out, rwGo_step L' wt' (x1, x2, x3) qs hfb]
              simp
            rw [hfb] at HM
            obtain ⟨hx1, hx2, hx3⟩ := hr.first
            have hlv : ∀ w4, Below wr.heap.size wr w4 → Calls Try.prog 99 #[.pointer (some ⟨D, 0, none⟩)] w4 fun e w5 => e = .returned (.agg #[.int .i64 x1, .bool x2, .bool x3]) ∧ ∃ S5, PRw w5 base D S5 L' wt' qs ∧ Kept wr w5 S' S5 := fun w4 b4 => (pr_leave (hr.fresh b4)).mono (fun e w5 ⟨h5, S5, h6, h7⟩ => ⟨h5, S5, h6, (Kept.of b4).trans h7⟩)
            have HLV : Hid _ := hlv
            have hhd : ∀ (w6 : World) (S5 : Nat → Prop), PRw w6 base D S5 L' wt' qs → Calls Try.prog 107 #[.pointer (some ⟨D, 0, none⟩), .int .i64 x1, .bool x2] w6 fun e w7 => e = .returned (.tuple #[]) ∧ ∃ S7, PRw w7 base D S7 (putL L' x1) (!x2) qs ∧ Kept w6 w7 S5 S7 := fun w6 S5 h6 => pr_hold h6 x1 x2 hx3 hx1 hx2 hfb (by rw [List.length_cons] at hN'; omega)
            have HHD : Hid _ := hhd
            have MS : Hid (((match wr.cell? ⟨D, 0, none⟩ with | some (.slice _ n _) => n | _ => 0) : Nat) = qs.length + 1) := by
              obtain ⟨ho, hs, hq, _⟩ := hr.ex
              obtain ⟨v, mo, ks, h1, h2, _⟩ := hq.ex
              obtain ⟨a, cap, rfl⟩ := h2.form
              have c0 : wr.cell? ⟨D, 0, none⟩ = some (.slice a ((x1, x2, x3) :: qs).length cap) := by simp [World.cell?, h1]
              show _ = _
              rw [c0]
              rfl
            have kk : ∀ (w5 w7 : World) (S5 S7 : Nat → Prop), PRw w5 base D S5 L' wt' qs → Kept wr w5 S' S5 → Kept (w5.alloc (.cells #[.int .i64 x1, .bool x2, .bool x3] 116)) w7 S5 S7 → w7.cell? ⟨w5.heap.size, 0, none⟩ = some (.int .i64 x1) ∧ w7.ownsRow w.heap.size 3 1 (.slice pg ng mg) got.length (intL got) ∧ (∀ z, (Value.slice pg ng mg).ownBlock = some z → ¬ S7 z) ∧ w.heap.size ≤ w7.heap.size ∧ Kept w w7 S S7 := fun w5 w7 S5 S7 hp5 hk5 hk7 => by
              have hn5 : ∀ z, (Value.slice pg ng mg).ownBlock = some z → ¬ S5 z := fun z e h5 => by
                rcases hk5.old z h5 with h6 | h6
                · exact hne z e h6
                · have := (World.ownsRow.lt hown z e).2
                  omega
              have hb5 : ∀ z, (Value.slice pg ng mg).ownBlock = some z → z < w5.heap.size := fun z e => Nat.lt_of_lt_of_le (World.ownsRow.lt hown z e).2 hk5.size
              have hkA : Kept w5 (w5.alloc (.cells #[.int .i64 x1, .bool x2, .bool x3] 116)) S5 S5 := Kept.of ((Below.refl _ w5).alloc (Nat.le_refl _) _)
              refine ⟨?_, own_keep hown (fun g e => ?_), fun z e h7 => ?_, ?_, (hk.trans hk5).trans (hkA.trans hk7)⟩
              · rw [World.cell?_of_block (a := ⟨w5.heap.size, 0, none⟩) (hk7.kept w5.heap.size (by simp) (fun e => by have := (hp5.bd _ e).2; omega))]
                exact World.cell?_alloc_new w5 _ _ 0
              · rw [hk7.kept g (by simp; have := hb5 g e; omega) (hn5 g e), Below.heap_alloc w5 _ g (hb5 g e), hk5.kept g (World.ownsRow.lt hown g e).2 (hne g e)]
              · rcases hk7.old z h7 with h6 | h6
                · exact hn5 z e h6
                · have := hb5 z e
                  simp at h6
                  omega
              · exact ((hk.trans hk5).trans (hkA.trans hk7)).size
            have KK : Hid _ := kk
            clear hr HG hown hm hfb hlv hhd kk
            go_wp2_with (first
              | (at_builtin; refine wpList_app_row (k := 1) (enc := intC) (l := [x1]) rfl (.tmp 57) (.tmp 60) 23 3 rfl i0 _ 8 Try.underlying23 hi hz0 hz1 hz2 rfl (by decide) intC_len intC_one rfl rfl (hO7.alloc _) (RowAt.built (heap_alloc_new w7 _) rfl 1 rfl rfl) (by simp; omega) (by simp; omega) (by simp; omega) ?_; intro u8' w8 h8 k8)
              | (go_at_call 107; refine (HHD.out _ S5 (hp5.fresh ((Below.refl _ w5).alloc (Nat.le_refl _) _))).mono ?_; rintro e w7 ⟨rfl, S7, hp7, hk7⟩; obtain ⟨zB, hO7, hN7, hs7, hk07⟩ := KK.out w5 w7 S5 S7 hp5 hk5 hk7)
              | (go_at_call 99; refine (HLV.out _ b4).mono ?_; rintro e w5 ⟨rfl, S5, hp5, hk5⟩)
              | (go_at_call 106; refine (HM.out _ b4).mono ?_; rintro e w5 ⟨rfl, rfl⟩)
              | (go_at_call 100; refine hf.mono ?_; rintro e w4 ⟨rfl, b4⟩)
              | (go_at_call 98; refine ha.mono ?_; rintro e w4 ⟨rfl, rfl⟩))
            have hp8 : PRw w8 base D S7 (putL L' x1) (!x2) qs := hp7.keep (Nat.le_trans (by simp) k8.below.size) (fun c hc => by
              have hlt := (hp7.bd c hc).2
              rw [k8.rest c (by simp; omega) (fun e => hN7 c e.symm hc), Below.heap_alloc w7 _ c hlt])
            have b8 : Below w.heap.size w7 w8 := ((Below.refl _ w7).alloc hs7 _).trans k8.below
            have hk8 : Kept w w8 S S7 := ⟨b8.os.trans hk07.os, b8.tape.trans hk07.tape, b8.output.trans hk07.output, Nat.le_trans hs7 b8.size, hk07.old, fun c hc hn => by
              rw [b8.block c hc]
              exact hk07.kept c hc hn⟩
            have M8 : Hid (((match w8.cell? ⟨D, 0, none⟩ with | some (.slice _ n _) => n | _ => 0) : Nat) = qs.length) := by
              obtain ⟨ho, hs, hq, _⟩ := hp8.ex
              obtain ⟨v, mo, ks, h1, h2, _⟩ := hq.ex
              obtain ⟨a, cap, rfl⟩ := h2.form
              have c0 : w8.cell? ⟨D, 0, none⟩ = some (.slice a qs.length cap) := by simp [World.cell?, h1]
              show _ = _
              rw [c0]
            go_roundw
            case rel =>
              refine ⟨putL L' x1, !x2, qs, got ++ [x1], S7, hp8, hk8, ?_, fun z e h9 => ?_, HG2, ?_, ?_⟩
              · have e4 : intL (got ++ [x1]) = intL got ++ rowL intC [x1] := by rw [rowL_int]; unfold intL; simp
                rw [e4, List.length_append]
                exact h8
              · rcases k8.lies with h6 | h6
                · rw [h6] at e
                  exact hN7 z e h9
                · rw [h6] at e
                  simp at e
                  have := (hp7.bd z h9).2
                  omega
              · rw [putL_length]
                simp at hN'
                omega
              · simp at hgq ⊢
                omega
            case measure =>
              rw [M8.out, MS.out]
              omega
end
end Go.Proofs.Ythhlglbohibekaa
