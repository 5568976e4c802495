/-
  Package proposer: what it proposes first and what is open, as the document's plain data. The conditions: those of PxTop.
-/
import Derived.Test.YtmlgoecdefeapaaPPxTop
namespace Go.Proofs.Ytmlgoecdefeapaa
open Go.RowKit

theorem rows_len {y : Int} : ∀ {l : List (Int × Int)} {z : Int}, l.Pairwise (fun a b => a.2 < b.1) → (∀ r ∈ l, z ≤ r.1 ∧ r.1 ≤ r.2 ∧ r.2 ≤ y) → l.length ≤ (rowsS l).length ∧ ((rowsS l).length : Int) ≤ max 0 (y - z + 1)
  | [], z, _, _ => by simp [rowsS]; omega
  | r :: t, z, h, ho => by
    have h1 := List.pairwise_cons.1 h
    have hr := ho r List.mem_cons_self
    have ih := rows_len (y := y) (l := t) (z := r.2 + 1) h1.2 (fun x hx => by
      have := h1.1 x hx
      have := ho x (List.mem_cons_of_mem _ hx)
      omega)
    have e : (rowsS (r :: t)).length = ((r.2 - r.1).toNat + 1) + (rowsS t).length := by
      unfold rowsS
      rw [List.flatMap_cons, List.length_append]
      unfold rowS
      rw [slotsF_len]
    rw [e]
    simp only [List.length_cons]
    omega
section
variable {w : World} {base X : Nat} {S : Nat → Prop} {q : Pp}
/-- The rows of open slots are some hundred thousand at most. -/
theorem RelR.few {p : Px} (h : RelR q p) (hl : Lim q) (hi : q.is = true) : p.rows.length ≤ 100001 ∧ (rowsS p.rows).length ≤ 100001 ∧ (∀ r ∈ p.rows, okRo r) ∧ (∀ s ∈ rowsS p.rows, inI s) := by
  have h1 := rows_len h.up h.ok
  have h2 := hl.next hi
  have h3 := h.last
  have h4 := hl.lo
  have h5 := hl.hi
  refine ⟨by omega, by omega, fun r hr => ?_, fun s hs => ?_⟩
  · have := h.ok r hr
    exact ⟨by omega, by omega, by omega⟩
  · obtain ⟨r, hr, a, b⟩ := rowsS_mem (fun r hr => (h.ok r hr).2.1) hs
    have := h.ok r hr
    exact ⟨by omega, by omega⟩
def AskPost (w : World) (L : List En) (e : Ending) (w' : World) : Prop := ∃ u, e = .returned u ∧ OwnEn w' w.heap.size u L ∧ Below w.heap.size w w'
theorem pready_any (h : PS w base X S q) : Calls Try.prog 19 #[.pointer (some ⟨X, 0, none⟩)] w fun e w' => e = .returned (.bool q.is) ∧ w' = w := by
  obtain ⟨p, mp, mb, ma, v, h, hR, hM⟩ := h.ex
  exact xready_any h
set_option maxHeartbeats 3200000 in
set_option maxRecDepth 100000 in
theorem pvals_any (h : PS w base X S q) (hl : Lim q) : Calls Try.prog 21 #[.pointer (some ⟨X, 0, none⟩)] w (AskPost w q.vals) := by
  have HR : Hid _ := pready_any h
  obtain ⟨p, mp, mb, ma, v, h, hR, hM⟩ := h.ex
  by_cases hi : q.is = true
  · have hr := hR.ready hi
    have c6 := h.cell 6 (.int .i64 p.vf) rfl
    have c7 := h.cell 7 (.int .i64 p.vl) rfl
    obtain ⟨W, hW⟩ : ∃ W, W = w.alloc (.cells #[.int .i64 p.vf, .int .i64 p.vl] 59) := ⟨_, rfl⟩
    have b1 : Below w.heap.size w W := by rw [hW]; exact (Below.refl _ w).alloc (Nat.le_refl _) _
    have q1 : W.heap[w.heap.size]? = some (.cells #[.int .i64 p.vf, .int .i64 p.vl] 59 (0, 0)) := by rw [hW]; exact heap_alloc_new w _
    have hz : W.heap.size = w.heap.size + 1 := by rw [hW]; simp
    have h1 := h.fresh b1
    have a1 := hr.vf
    have a2 := hr.vl
    have a3 := hr.last
    have a4 := hl.next hi
    have a5 := hl.lo
    have a6 := hl.hi
    have it := slots1_iters (k := (p.vl - p.vf).toNat) (by omega) (by omega) (by omega) q1
    have HE : Hid (Calls Try.prog 38 #[.pointer (some ⟨X, 0, none⟩), .func (.func 45) #[] #[.pointer (some ⟨w.heap.size, 0, none⟩)]] W (AskPost w q.vals)) := by
      refine (xents_any h1 hR.names (enters_of Try.func45 (by kernel_rfl) rfl) it (fun g hg => ?_) (by rw [slotsF_len]; omega) (fun s hs => ?_)).mono ?_
      · have := h.bd X h.inX
        have := h.bd mb h.inB
        exact ⟨by omega, by omega, by omega⟩
      · have := slotsF_mem.1 hs
        exact ⟨by omega, by omega⟩
      · rintro r w2 ⟨u, rfl, o2, b2⟩
        refine ⟨u, rfl, ?_, bmm b1 b1.size b2⟩
        rw [hr.vals, ← a1]
        exact own_mono o2 b1.size
    have HW : Hid (w.alloc (.cells #[.int .i64 p.vf, .int .i64 p.vl] 59) = W) := hW.symm
    rw [hi] at HR
    have HS : Hid _ := slots_any w (p.vf, p.vl)
    clear h hr hR hM h1 it hW a1 a2 a3 a4 a5 a6 b1 q1 hz
    go_enter Try.func21, Try.ntmps21
    go_wp2_with (first
      | (go_at_call 38; refine Calls.mono HE.out ?_; rintro r w3 ⟨u, rfl, F3⟩; have H3 : Hid _ := F3; clear F3)
      | (go_at_call 39; refine Calls.mono HS.out ?_; rintro r w2 ⟨rfl, e2⟩; rw [HW.out] at e2; subst e2)
      | (go_at_call 19; refine Calls.mono HR.out ?_; rintro r w1 ⟨rfl, rfl⟩))
    go_ret
    exact ⟨u, rfl, H3.out⟩
  · have hi' : q.is = false := by simpa using hi
    rw [hi'] at HR
    rw [(hR.early hi').vals]
    clear h hR hM
    go_enter Try.func21, Try.ntmps21
    go_wp2_with (go_at_call 19; refine Calls.mono HR.out ?_; rintro r w1 ⟨rfl, rfl⟩)
    go_ret
    exact ⟨_, rfl, World.ownsRow_nil _ _ _ _, Below.refl _ _⟩
set_option maxHeartbeats 3200000 in
set_option maxRecDepth 100000 in
theorem popen_any (h : PS w base X S q) (hl : Lim q) : Calls Try.prog 22 #[.pointer (some ⟨X, 0, none⟩)] w (AskPost w (openP q)) := by
  have HR : Hid _ := pready_any h
  obtain ⟨p, mp, mb, ma, v, h, hR, hM⟩ := h.ex
  by_cases hi : q.is = true
  · have hr := hR.ready hi
    obtain ⟨r1, r2, r3, r4⟩ := hr.few hl hi
    obtain ⟨va, vc, ev⟩ := h.form
    have c9 := h.cell 9 v rfl
    obtain ⟨W, hW⟩ : ∃ W, W = w.alloc (.cells #[v] 61) := ⟨_, rfl⟩
    have b1 : Below w.heap.size w W := by rw [hW]; exact (Below.refl _ w).alloc (Nat.le_refl _) _
    have q1 : W.heap[w.heap.size]? = some (.cells #[v] 61 (0, 0)) := by rw [hW]; exact heap_alloc_new w _
    have hz : W.heap.size = w.heap.size + 1 := by rw [hW]; simp
    have h1 := h.fresh b1
    have it := slots2_iters (by omega) r3 q1 (OwnRo.row h1.rows)
    have HE : Hid (Calls Try.prog 38 #[.pointer (some ⟨X, 0, none⟩), .func (.func 46) #[] #[.pointer (some ⟨w.heap.size, 0, none⟩)]] W (AskPost w (openP q))) := by
      refine (xents_any h1 hR.names (enters_of Try.func46 (by kernel_rfl) rfl) it (fun g hg => ?_) (by omega) r4).mono ?_
      · have x1 := h.bd X h.inX
        have x2 := h.bd mb h.inB
        rcases hg with e | ⟨off, n, c, hn, e⟩
        · exact ⟨by omega, by omega, by omega⟩
        · have eb : v.ownBlock = some g := by rw [e]; rfl
          refine ⟨h1.bd g (h1.inV eb), fun e2 => h.neVX (by rw [eb, e2]), fun e2 => h.neV (g := mb) (by simp [mapsP]) (by rw [eb, e2])⟩
      · rintro r w2 ⟨u, rfl, o2, b2⟩
        refine ⟨u, rfl, ?_, bmm b1 b1.size b2⟩
        unfold openP
        rw [hr.open']
        exact own_mono o2 b1.size
    have HW : Hid (w.alloc (.cells #[v] 61) = W) := hW.symm
    rw [hi] at HR
    have HS : Hid _ := rslots_any w va p.rows.length vc
    rw [← ev] at HS
    have HV : Hid _ := ev
    clear h hr hR hM h1 it hW b1 q1 hz r1 r2 r3 r4 ev
    go_enter Try.func22, Try.ntmps22
    go_wp2_with (first
      | (go_at_call 38; refine Calls.mono HE.out ?_; rintro r w3 ⟨u, rfl, F3⟩; have H3 : Hid _ := F3; clear F3)
      | (go_at_call 40; refine Calls.mono HS.out ?_; rintro r w2 ⟨rfl, e2⟩; rw [HW.out] at e2; subst e2)
      | (go_at_call 19; refine Calls.mono HR.out ?_; rintro r w1 ⟨rfl, rfl⟩))
    go_ret
    exact ⟨u, rfl, H3.out⟩
  · have hi' : q.is = false := by simpa using hi
    rw [hi'] at HR
    have e0 : openP q = [] := by unfold openP; rw [(hR.early hi').l]; rfl
    rw [e0]
    clear h hR hM
    go_enter Try.func22, Try.ntmps22
    go_wp2_with (go_at_call 19; refine Calls.mono HR.out ?_; rintro r w1 ⟨rfl, rfl⟩)
    go_ret
    exact ⟨_, rfl, World.ownsRow_nil _ _ _ _, Below.refl _ _⟩
end
end Go.Proofs.Ytmlgoecdefeapaa
