/-
  What an acceptance turns in the program's proposer, against the document's: plain data, and the map of sets in memory. No condition.
-/
import Derived.Test.YtmlgoecdefeapaaPPxProm
namespace Go.Proofs.Ytmlgoecdefeapaa
open Go.RowKit

theorem slotsF_up : ∀ (k : Nat) (s : Int), (slotsF k s).Pairwise (· < ·)
  | 0, _ => List.Pairwise.nil
  | k + 1, s => List.pairwise_cons.2 ⟨fun x hx => by have := slotsF_mem.1 hx; omega, slotsF_up k (s + 1)⟩
theorem rowsS_up : ∀ {l : List (Int × Int)}, l.Pairwise (fun a b => a.2 < b.1) → (∀ r ∈ l, r.1 ≤ r.2) → (rowsS l).Pairwise (· < ·)
  | [], _, _ => List.Pairwise.nil
  | r :: t, h, ho => by
    have h1 := List.pairwise_cons.1 h
    have ht : ∀ x ∈ t, x.1 ≤ x.2 := fun x hx => ho x (List.mem_cons_of_mem _ hx)
    show (rowS r ++ rowsS t).Pairwise (· < ·)
    refine List.pairwise_append.2 ⟨slotsF_up _ _, rowsS_up h1.2 ht, fun a ha b hb => ?_⟩
    have a1 := slotsF_mem.1 ha
    have a2 := ho r List.mem_cons_self
    obtain ⟨y, hy, b1, b2⟩ := rowsS_mem ht hb
    have := h1.1 y hy
    omega
/-- The slots of the open entries are those of the rows. -/
theorem RelR.slots {q : Pp} {p : Px} (h : RelR q p) : q.l.map (fun x => x.e.slot) = rowsS p.rows := by
  have := congrArg (List.map (·.slot)) h.open'
  rw [List.map_map, List.map_map] at this
  refine this.trans ?_
  exact List.map_id'' (fun _ => rfl) _
theorem RelR.rise {q : Pp} {p : Px} (h : RelR q p) : q.l.Pairwise (fun a c => a.e.slot < c.e.slot) := by
  have := rowsS_up h.up (fun r hr => (h.ok r hr).2.1)
  rw [← h.slots, List.pairwise_map] at this
  exact this
theorem accP_same {m who s : Int} {q : Pp} (h : ∀ x ∈ q.l, x.e.slot ≠ s) : accP m q who s = (q, false) := by
  unfold accP
  rw [accL_none h]
  split <;> rfl
theorem rel_acc {q : Pp} {p : Px} {who s : Int} (hi : q.is = true) (h : Rel q p) (hs : s ∈ rowsS p.rows) (hw : 0 ≤ who ∧ who < q.n) {ws ws' : List Int} (hws : ws = wsOf p.acc s) (hws' : ws' = if who ∈ ws then ws else ws ++ [who]) {acc' : List (Int × (Nat × List Int))}
    (ha : ∀ t, wsOf acc' t = if t = s then ws' else wsOf p.acc t) (hk : ∀ y ∈ acc', y.1 = s ∨ ∃ z ∈ p.acc, z.1 = y.1) :
    Rel (accP (maR q.n) q who s).1 ⟨p.who, p.best, p.vf, p.vl, p.last, p.rows, acc'⟩ ∧ (accP (maR q.n) q who s).2 = (decide (who ∉ ws) && decide ((ws'.length : Int) = maR q.n)) := by
  have hR := h.ready hi
  have hup := hR.rise
  have hs2 : s ∈ q.l.map (fun x => x.e.slot) := by rw [hR.slots]; exact hs
  obtain ⟨x, hx, hxs⟩ := List.mem_map.1 hs2
  obtain ⟨a, b, hab⟩ := List.append_of_mem hx
  rw [hab] at hup
  have hsp := accL_split (m := maR q.n) (who := who) hup hxs
  rw [← hab] at hsp
  have e0 : accP (maR q.n) q who s = (⟨q.n, q.b, q.f, q.who, q.best, q.is, q.vals, q.next, a ++ (accOne (maR q.n) who x).1 :: b⟩, (accOne (maR q.n) who x).2) := by
    unfold accP
    rw [if_neg (by omega), hsp]
  have hA := hR.acc x hx
  rw [hxs, ← hws] at hA
  have hse : (accOne (maR q.n) who x).1.e = x.e := by
    unfold accOne
    split <;> rfl
  have key : AccR (maR q.n) (accOne (maR q.n) who x).1 ws' ∧ (accOne (maR q.n) who x).2 = (decide (who ∉ ws) && decide ((ws'.length : Int) = maR q.n)) := by
    unfold accOne
    cases hm : x.most with
    | true =>
      have h1 := hA.yes hm
      rw [if_pos (Or.inl rfl)]
      by_cases hin : who ∈ ws
      · rw [if_pos hin] at hws'
        subst hws'
        exact ⟨⟨(fun h2 => by rw [hm] at h2; cases h2), fun _ => h1⟩, by simp [hin]⟩
      · rw [if_neg hin] at hws'
        subst hws'
        refine ⟨⟨(fun h2 => by rw [hm] at h2; cases h2), fun _ => by simp; omega⟩, ?_⟩
        have : decide (((ws ++ [who]).length : Int) = maR q.n) = false := decide_eq_false (by simp; omega)
        rw [this, Bool.and_false]
    | false =>
      obtain ⟨h1, h2⟩ := hA.no hm
      subst h1
      by_cases hin : who ∈ x.who
      · rw [if_pos (Or.inr hin)]
        rw [if_pos hin] at hws'
        subst hws'
        exact ⟨⟨fun _ => ⟨rfl, h2⟩, (fun h3 => by rw [hm] at h3; cases h3)⟩, by simp [hin]⟩
      · rw [if_neg (by simp [hin])]
        rw [if_neg hin] at hws'
        subst hws'
        refine ⟨⟨fun h3 => ⟨rfl, ?_⟩, fun h3 => ?_⟩, ?_⟩
        · have h4 := of_decide_eq_false h3
          simp
          omega
        · have h4 := of_decide_eq_true h3
          simp
          omega
        · have e1 : decide (who ∉ x.who) = true := decide_eq_true hin
          rw [e1, Bool.true_and]
          refine decide_eq_decide.2 ?_
          simp
          omega
  rw [e0]
  refine ⟨⟨h.names, (fun h2 => by rw [show q.is = true from hi] at h2; cases h2), fun _ => ⟨hR.vf, hR.vl, hR.vals, hR.last, hR.up, hR.ok, ?_, fun y hy => ?_, fun y hy => ?_⟩⟩, key.2⟩
  · show (a ++ (accOne (maR q.n) who x).1 :: b).map (·.e) = _
    rw [← hR.open', hab, List.map_append, List.map_append, List.map_cons, List.map_cons, hse]
  · show AccR (maR q.n) y (wsOf acc' y.e.slot)
    have hab2 := hup
    rw [ha]
    have hy' : y ∈ a ++ (accOne (maR q.n) who x).1 :: b := hy
    rcases List.mem_append.1 hy' with h1 | h1
    · have h2 := (List.pairwise_append.1 hup).2.2 y h1 x List.mem_cons_self
      rw [if_neg (by omega)]
      exact hR.acc y (by rw [hab]; exact List.mem_append.2 (Or.inl h1))
    · rcases List.mem_cons.1 h1 with h1 | h1
      · rw [h1, hse, if_pos hxs]
        exact key.1
      · have h2 := (List.pairwise_cons.1 (List.pairwise_append.1 hup).2.1).1 y h1
        rw [if_neg (by omega)]
        exact hR.acc y (by rw [hab]; exact List.mem_append.2 (Or.inr (List.mem_cons_of_mem _ h1)))
  · rcases hk y hy with h1 | ⟨z, h1, h2⟩
    · obtain ⟨r, hr, b1, b2⟩ := rowsS_mem (fun r hr => (hR.ok r hr).2.1) hs
      have := hR.ok r hr
      show y.1 ≤ p.last
      omega
    · show y.1 ≤ p.last
      rw [← h2]
      exact hR.keys z h1

/-! ## In memory -/
theorem putM_keys {α : Type} {l : List (Int × α)} {n : Int} {c : α} {y : Int × α} (h : y ∈ putM l n c) : y = (n, c) ∨ y ∈ l := by
  unfold putM at h
  split at h
  · rcases List.mem_append.1 h with h | h
    · exact Or.inr h
    · exact Or.inl (List.mem_singleton.1 h)
  · obtain ⟨z, hz, e⟩ := List.mem_map.1 h
    split at e
    · exact Or.inl e.symm
    · exact Or.inr (e ▸ hz)
theorem putM_new {α : Type} {l : List (Int × α)} {n : Int} {c : α} (h : lookM l n = none) : putM l n c = l ++ [(n, c)] := by
  unfold putM
  rw [h]
  rfl
theorem putM_old {α : Type} {l : List (Int × α)} {n : Int} {c d : α} (h : lookM l n = some d) : putM l n c = l.map fun x => if x.1 = n then (n, c) else x := by
  unfold putM
  rw [h]
  rfl
section
variable {w w' : World} {base X : Nat} {S : Nat → Prop} {n b f : Int} {is : Bool} {p : Px} {mp : Option Nat} {mb ma : Nat} {v : Value}
/-- A set turned: the map's own entries stay. -/
theorem acc_ghost {l : List (Int × (Nat × List Int))} {s : Int} {B : Nat} {ws : List Int} (ws' : List Int) (h : mAcc.At w ma l) (hl : lookM l s = some (B, ws)) : mAcc.At w ma (putM l s (B, ws')) := by
  have hnd := h.nodup
  obtain ⟨es, c, hb, he⟩ := h
  refine ⟨es, c, hb, he.st, ?_, fun x hx => ?_⟩
  · rw [he.kv, putM_old hl, List.map_map]
    refine List.map_congr_left fun x hx => ?_
    show _ = (mAcc.kv (if x.1 = s then (s, (B, ws')) else x).1, mAcc.ev (if x.1 = s then (s, (B, ws')) else x).2)
    by_cases hs : x.1 = s
    · rw [if_pos hs]
      have h1 := lookM_some hnd (n := x.1) (c := x.2) hx
      rw [hs, hl] at h1
      have h2 := Option.some.inj h1
      rw [hs, ← h2]
    · rw [if_neg hs]
  · rcases putM_keys hx with h1 | h1
    · rw [h1]
      have h2 := he.ok _ (lookM_mem hl)
      exact h2
    · exact he.ok x h1
theorem blocks_put {l : List (Int × (Nat × List Int))} {s : Int} {B : Nat} {ws : List Int} (ws' : List Int) (hn : (l.map (·.1)).Nodup) (hl : lookM l s = some (B, ws)) : (putM l s (B, ws')).map (·.2.1) = l.map (·.2.1) := by
  rw [putM_old hl, List.map_map]
  refine List.map_congr_left fun x hx => ?_
  show (if x.1 = s then (s, (B, ws')) else x).2.1 = x.2.1
  by_cases hs : x.1 = s
  · rw [if_pos hs]
    have h1 := lookM_some hn (n := x.1) (c := x.2) hx
    rw [hs, hl] at h1
    rw [← Option.some.inj h1]
  · rw [if_neg hs]
/-- One of the sets turned. -/
theorem PxAt.setA (h : PxAt w base X S n b f is p mp mb ma v) {s : Int} {B : Nat} {ws ws' : List Int} (hl : lookM p.acc s = some (B, ws)) (hb : SetU w' B ws') (gr : w.grownBy w' (some B)) :
    PxAt w' base X S n b f is ⟨p.who, p.best, p.vf, p.vl, p.last, p.rows, putM p.acc s (B, ws')⟩ mp mb ma v ∧ Kept w w' S S := by
  have hmem := lookM_mem hl
  have hin : B ∈ mapsP p mp mb ma := by
    simp only [mapsP, List.mem_cons, List.mem_append, List.mem_map]
    exact Or.inr (Or.inr (Or.inr ⟨_, hmem, rfl⟩))
  have hbl := blocks_put ws' h.acc.nodup hl
  have hmp : mapsP ⟨p.who, p.best, p.vf, p.vl, p.last, p.rows, putM p.acc s (B, ws')⟩ mp mb ma = mapsP p mp mb ma := by
    unfold mapsP
    rw [hbl]
  have nd := h.nd
  simp only [mapsP, List.nodup_cons, List.mem_cons, List.mem_append, not_or, List.nodup_append] at nd
  have hBm : B ∈ p.acc.map (·.2.1) := List.mem_map.2 ⟨_, hmem, rfl⟩
  have hs : ∀ g, S g → g ≠ B → w'.heap[g]? = w.heap[g]? := fun g hg hn => gr.block g (h.bd g hg) (fun e => hn (Option.some.inj e))
  refine ⟨⟨(hs X h.inX (fun e => h.neX hin e.symm)).trans h.blk, fun M e => (h.prom M e).keep (hs M (h.inP e) (fun e2 => nd.2.2.2.2 M (by simp [e]) B hBm e2)), h.best.keep (hs mb h.inB (fun e => nd.1.2.2 (by rw [e]; exact hBm))), acc_ghost ws' (h.acc.keep (hs ma h.inA (fun e => nd.2.1.2 (by rw [e]; exact hBm)))) hl, fun x hx => ?_, own_keep h.rows fun g e => hs g (h.inV e) (fun e2 => h.neV hin (by rw [e, e2])), by rw [hmp]; exact h.nd, h.lo, fun g => by rw [hmp]; exact h.set g⟩, gr.os, gr.tape, gr.output, gr.size, fun _ hg => Or.inl hg, fun g hg hn => gr.block g hg (fun e => hn (by rw [Option.some.inj e]; exact (h.set B).2 (Or.inr (Or.inr hin))))⟩
  rcases putM_keys hx with h1 | h1
  · rw [h1]
    exact hb
  · by_cases hxB : x.2.1 = B
    · have hx1 : x.1 = s ∨ x.1 ≠ s := Decidable.em _
      rcases hx1 with hx1 | hx1
      · rw [putM_old hl] at hx
        obtain ⟨z, hz, e⟩ := List.mem_map.1 hx
        by_cases hz1 : z.1 = s
        · rw [if_pos hz1] at e
          rw [← e]
          exact hb
        · rw [if_neg hz1] at e
          rw [e] at hz1
          exact absurd hx1 hz1
      · exfalso
        have hnd2 : (p.acc.map (·.2.1)).Nodup := nd.2.2.2.1
        have := (List.pairwise_map.1 hnd2)
        have key : ∀ {l : List (Int × (Nat × List Int))}, (l.Pairwise fun a b => a.2.1 ≠ b.2.1) → ∀ y z, y ∈ l → z ∈ l → y.2.1 = z.2.1 → y = z := fun {l} hp y z hy hz e => by
          induction l with
          | nil => cases hy
          | cons t l ih =>
            have hp' := List.pairwise_cons.1 hp
            rcases List.mem_cons.1 hy with rfl | hy
            · rcases List.mem_cons.1 hz with rfl | hz
              · rfl
              · exact absurd e (hp'.1 z hz)
            · rcases List.mem_cons.1 hz with e3 | hz
              · rw [e3] at e
                exact absurd e.symm (hp'.1 y hy)
              · exact ih hp'.2 hy hz
        have := key this x (s, (B, ws)) h1 hmem hxB
        rw [this] at hx1
        exact hx1 rfl
    · exact (h.sets x h1).keep (hs _ (h.inS h1) hxB)
/-- A new set put into the map. -/
theorem PxAt.newA (h : PxAt w base X S n b f is p mp mb ma v) {s : Int} {w1 w2 : World} (hb : base ≤ w.heap.size) (hl : lookM p.acc s = none) (e1 : w1 = w.alloc (.map #[] 0)) (ha : mAcc.At w2 ma (putM p.acc s (w.heap.size, []))) (gr : w1.grownBy w2 (some ma)) :
    ∃ S', PxAt w2 base X S' n b f is ⟨p.who, p.best, p.vf, p.vl, p.last, p.rows, putM p.acc s (w.heap.size, [])⟩ mp mb ma v ∧ Kept w w2 S S' := by
  have b1 : Below w.heap.size w w1 := by rw [e1]; exact (Below.refl _ w).alloc (Nat.le_refl _) _
  have z1 : w1.heap.size = w.heap.size + 1 := by rw [e1]; simp
  have m1 : mSet.At w1 w.heap.size [] := by rw [e1]; exact MapOf.new mSet w
  have hma : ma < w.heap.size := h.bd ma h.inA
  have hs : ∀ g, g < w.heap.size → g ≠ ma → w2.heap[g]? = w.heap[g]? := fun g hg hn => (gr.block g (by omega) (fun e => hn (Option.some.inj e))).trans (b1.block g hg)
  have nd := h.nd
  have hmp : mapsP ⟨p.who, p.best, p.vf, p.vl, p.last, p.rows, putM p.acc s (w.heap.size, [])⟩ mp mb ma = mapsP p mp mb ma ++ [w.heap.size] := by
    unfold mapsP
    rw [putM_new hl]
    simp
  have hlt : ∀ g ∈ mapsP p mp mb ma, g < w.heap.size := fun g hg => h.bd g ((h.set g).2 (Or.inr (Or.inr hg)))
  have nd' := nd
  simp only [mapsP, List.nodup_cons, List.mem_cons, List.mem_append, not_or, List.nodup_append] at nd'
  refine ⟨fun g => g = X ∨ v.ownBlock = some g ∨ g ∈ mapsP ⟨p.who, p.best, p.vf, p.vl, p.last, p.rows, putM p.acc s (w.heap.size, [])⟩ mp mb ma, ⟨(hs X (h.bd X h.inX) (fun e => h.neX (g := ma) (by simp [mapsP]) e.symm)).trans h.blk, fun M e => (h.prom M e).keep (hs M (h.bd M (h.inP e)) (fun e2 => nd'.2.1.1 (by rw [← e2]; simp [e]))), h.best.keep (hs mb (h.bd mb h.inB) (fun e => nd'.1.1 e)), ha, fun x hx => ?_, own_keep h.rows fun g e => hs g (h.bd g (h.inV e)) (fun e2 => h.neV (g := ma) (by simp [mapsP]) (by rw [e, e2])), ?_, fun g hg => ?_, fun _ => Iff.rfl⟩, gr.os.trans b1.os, gr.tape.trans b1.tape, gr.output.trans b1.output, Nat.le_trans b1.size gr.size, fun g hg => ?_, fun g hg hn => hs g hg (fun e => hn (by rw [e]; exact h.inA))⟩
  · rcases putM_keys hx with h1 | h1
    · rw [h1]
      exact MapOf.At.keep m1 (gr.block w.heap.size (by omega) (fun e => by have := Option.some.inj e; omega))
    · exact (h.sets x h1).keep (hs _ (h.bd _ (h.inS h1)) (fun e => nd'.2.1.2 (by rw [← e]; exact List.mem_map.2 ⟨x, h1, rfl⟩)))
  · rw [hmp]
    refine List.nodup_append.2 ⟨nd, by simp, fun a ha b hb => ?_⟩
    rw [List.mem_singleton.1 hb]
    have := hlt a ha
    omega
  · rw [hmp, List.mem_append, List.mem_singleton] at hg
    rcases hg with e | e | e | e
    · rw [e]; exact h.lo X h.inX
    · exact h.lo g (h.inV e)
    · exact h.lo g ((h.set g).2 (Or.inr (Or.inr e)))
    · omega
  · rw [hmp, List.mem_append, List.mem_singleton] at hg
    rcases hg with e | e | e | e
    · exact Or.inl (by rw [e]; exact h.inX)
    · exact Or.inl (h.inV e)
    · exact Or.inl ((h.set g).2 (Or.inr (Or.inr e)))
    · exact Or.inr (by omega)
end
end Go.Proofs.Ytmlgoecdefeapaa
