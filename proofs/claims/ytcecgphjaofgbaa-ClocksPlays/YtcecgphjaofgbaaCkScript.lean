/-
  Scripts: the first step of time whose clocks drift too far, as plain data and by the document's own (package latchkeyref07). The condition: the steps lie in memory as their reading says.
-/
import Derived.Test.YtcecgphjaofgbaaCkGo
namespace Go.Proofs.Ytcecgphjaofgbaa
open Go.RowKit

/-- A step: its kind, its number, its clocks. -/
abbrev Stp : Type := Int × Int × List Int
structure StepAt (w : World) (bk o : Nat) (x : Stp) : Prop where
  c0 : w.cell? ⟨bk, o, none⟩ = some (.int .i64 x.1)
  c1 : w.cell? ⟨bk, o + 1, none⟩ = some (.int .i64 x.2.1)
  c8 : ∃ v, w.cell? ⟨bk, o + 8, none⟩ = some v ∧ IntsAt w v x.2.2
  cx : ∃ (x2 x3 x4 x5 : Int) (x6 : ByteArray) (x7 : Int), w.cell? ⟨bk, o + 2, none⟩ = some (.int .i64 x2) ∧ w.cell? ⟨bk, o + 3, none⟩ = some (.int .i64 x3) ∧ w.cell? ⟨bk, o + 4, none⟩ = some (.int .i64 x4) ∧ w.cell? ⟨bk, o + 5, none⟩ = some (.int .i64 x5) ∧ w.cell? ⟨bk, o + 6, none⟩ = some (.string x6) ∧ w.cell? ⟨bk, o + 7, none⟩ = some (.int .i64 x7)
structure StepsAt (w : World) (v : Value) (l : List Stp) : Prop where
  ex : ∃ (a : Option Addr) (cap : Nat), v = .slice a l.length cap ∧ (l.length = 0 ∨ ∃ bk off, a = some ⟨bk, off, none⟩ ∧ bk < w.heap.size ∧ ∀ j (hj : j < l.length), StepAt w bk (off + j * 9) l[j])
  mx : l.length ≤ maxLen
theorem IntsAt.fresh {w w' : World} {v : Value} {l : List Int} (h : IntsAt w v l) (k : Below w.heap.size w w') : IntsAt w' v l := by
  obtain ⟨a, cap, hv, hc, he⟩ := h.ex
  refine ⟨⟨a, cap, hv, hc, ?_⟩, h.lo, h.mx⟩
  rcases he with h0 | ⟨bk, off, ha, hb, hx⟩
  · exact Or.inl h0
  · exact Or.inr ⟨bk, off, ha, Nat.lt_of_lt_of_le hb k.size, fun j hj => (k.cell (by exact hb)).trans (hx j hj)⟩
theorem StepAt.fresh {w w' : World} {bk o : Nat} {x : Stp} (h : StepAt w bk o x) (hb : bk < w.heap.size) (k : Below w.heap.size w w') : StepAt w' bk o x := by
  obtain ⟨v, h1, h2⟩ := h.c8
  obtain ⟨x2, x3, x4, x5, x6, x7, z2, z3, z4, z5, z6, z7⟩ := h.cx
  exact ⟨(k.cell (by exact hb)).trans h.c0, (k.cell (by exact hb)).trans h.c1, ⟨v, (k.cell (by exact hb)).trans h1, h2.fresh k⟩, x2, x3, x4, x5, x6, x7, (k.cell (by exact hb)).trans z2, (k.cell (by exact hb)).trans z3, (k.cell (by exact hb)).trans z4, (k.cell (by exact hb)).trans z5, (k.cell (by exact hb)).trans z6, (k.cell (by exact hb)).trans z7⟩
theorem StepsAt.fresh {w w' : World} {v : Value} {l : List Stp} (h : StepsAt w v l) (k : Below w.heap.size w w') : StepsAt w' v l := by
  obtain ⟨a, cap, hv, he⟩ := h.ex
  refine ⟨⟨a, cap, hv, ?_⟩, h.mx⟩
  rcases he with h0 | ⟨bk, off, ha, hb, hx⟩
  · exact Or.inl h0
  · exact Or.inr ⟨bk, off, ha, Nat.lt_of_lt_of_le hb k.size, fun j hj => (hx j hj).fresh hb k⟩
def stepB (n : Int) (x : Stp) : Bool := !(x.1 == 5) || (((x.2.2.length : Int) == n) && x.2.2.all (boundB x.2.1))
def firstS (l : List Stp) (n : Int) : Nat := l.findIdx fun x => !stepB n x
def scriptP (l : List Stp) (n : Int) : Nat := if firstS l n < l.length then firstS l n else 0
def scriptZ (l : List Stp) (n : Int) : Int := if firstS l n < l.length then 19 else 0
theorem script_at {l : List Stp} {n : Int} {k : Nat} (hk : k < l.length) (h : stepB n l[k] = false) (hp : ∀ j (hj : j < l.length), j < k → stepB n l[j] = true) : scriptP l n = k ∧ scriptZ l n = 19 := by
  have e : firstS l n = k := by
    unfold firstS
    rw [List.findIdx_eq hk]
    exact ⟨by simp [h], fun j hj => by simp [hp j (by omega) hj]⟩
  unfold scriptP scriptZ
  rw [e, if_pos hk, if_pos hk]
  exact ⟨rfl, rfl⟩
theorem script_none {l : List Stp} {n : Int} (hp : ∀ j (hj : j < l.length), stepB n l[j] = true) : scriptP l n = 0 ∧ scriptZ l n = 0 := by
  have e : firstS l n = l.length := by
    unfold firstS
    rw [List.findIdx_eq_length]
    intro x hx
    obtain ⟨j, hj, rfl⟩ := List.getElem_of_mem hx
    simp [hp j hj]
  unfold scriptP scriptZ
  rw [e, if_neg (by omega), if_neg (by omega)]
  exact ⟨rfl, rfl⟩
def okK (n N : Int) (cs : List Int) (m : Nat) : Bool := ((cs.length : Int) == n) && (cs.take m).all (boundB N)
theorem okK_succ (n N : Int) (cs : List Int) (m : Nat) (hm : m < cs.length) : okK n N cs (m + 1) = (okK n N cs m && boundB N cs[m]) := by
  unfold okK
  rw [List.take_succ_eq_append_getElem hm, List.all_append]
  simp [Bool.and_assoc]
set_option maxHeartbeats 6400000 in
set_option maxRecDepth 100000 in
theorem rscript_any (w : World) (v : Value) (l : List Stp) (n : Int) (hv : StepsAt w v l) :
    Calls Try.prog 19 #[v, .int .i64 n] w fun e w' => e = .returned (.tuple #[.int .i64 (scriptP l n : Int), .int .i64 (scriptZ l n)]) ∧ Below w.heap.size w w' := by
  obtain ⟨a, cap, rfl, hx⟩ := hv.ex
  have hmx : l.length ≤ 9223372036854775807 := hv.mx
  have HX : Hid (l.length = 0 ∨ ∃ bk off, a = some ⟨bk, off, none⟩ ∧ bk < w.heap.size ∧ ∀ j (hj : j < l.length), StepAt w bk (off + j * 9) l[j]) := hx
  clear hv hx
  go_enter Try.func19, Try.ntmps19
  go_wp2
  go_loopw [6] (fun i wr => ∃ k : Nat, k ≤ l.length ∧ i = .int .i64 k ∧ Hid (∀ j (hj : j < l.length), j < k → stepB n l[j] = true) ∧ Below w.heap.size w wr) (fun i _ => l.length - (intOf i).toNat)
  case atStart => exact ⟨0, Nat.zero_le _, rfl, fun j hj h0 => by omega, Below.refl _ _⟩
  case round =>
    obtain ⟨k, hk, rfl, HP, bel⟩ := hrel
    by_cases hkl : k < l.length
    · rcases HX.out with h0 | ⟨bk, off, rfl, hbk, hxx⟩
      · omega
      have hst := (hxx k hkl).fresh hbk bel
      obtain ⟨⟨K, N, cs⟩, hle⟩ : ∃ x, x = l[k] := ⟨_, rfl⟩
      rw [← hle] at hst
      have HLE : Hid (l[k] = (K, N, cs)) := hle.symm
      clear hle hxx
      obtain ⟨cv, z8, hci⟩ := hst.c8
      have z0 : wr.cell? ⟨bk, off + k * 9, none⟩ = some (.int .i64 K) := hst.c0
      have z1 : wr.cell? ⟨bk, off + k * 9 + 1, none⟩ = some (.int .i64 N) := hst.c1
      obtain ⟨ca, cc, rfl, hcc, hcx⟩ := hci.ex
      have hbk2 : bk < wr.heap.size := Nat.lt_of_lt_of_le hbk bel.size
      have hcm : cs.length ≤ 9223372036854775807 := hci.mx
      simp only at z8 hcc hcx
      have HCX : Hid _ := hcx
      clear hst hci hcx
      by_cases hK : K = 5
      · subst hK
        have hok0 : ((cs.length : Int) == n) = okK n N cs 0 := by unfold okK; simp
        have HOK0 : Hid _ := hok0
        clear hok0
        go_wp2
        obtain ⟨w1, rfl⟩ : ∃ w1, w1 = wr := ⟨_, rfl⟩
        go_loopw [7, 8] (fun o i wr => ∃ m : Nat, m ≤ cs.length ∧ o = .bool (okK n N cs m) ∧ i = .int .i64 m ∧ Below w1.heap.size w1 wr) (fun _ i _ => cs.length - (intOf i).toNat)
        case atStart => exact ⟨0, Nat.zero_le _, by rw [← HOK0.out], rfl, Below.refl _ _⟩
        case round =>
          obtain ⟨m, hm, rfl, rfl, bel2⟩ := hrel
          have y8 := (bel2.cell (p := ⟨bk, off + k * 9 + 8, none⟩) (by exact hbk2)).trans z8
          have y1 := (bel2.cell (p := ⟨bk, off + k * 9 + 1, none⟩) (by exact hbk2)).trans z1
          by_cases hml : m < cs.length
          · rcases HCX.out with h0 | ⟨cb, co, rfl, hcb, hcv⟩
            · omega
            have y2 := (bel2.cell (p := ⟨cb, co + m, none⟩) (by exact hcb)).trans (hcv m hml)
            cases hob : okK n N cs m with
            | true =>
              have HOS : Hid (okK n N cs (m + 1) = boundB N cs[m]) := by
                show _ = _
                rw [okK_succ n N cs m hml, hob, Bool.true_and]
              clear hob hcv HOK0
              go_wp2
              refine wp_region_held_drew (S := (fun w' : World => w'.cell? ⟨bk, off + k * 9 + 1, none⟩ = some (.int .i64 N) ∧ w'.cell? ⟨bk, off + k * 9 + 8, none⟩ = some (.slice (some ⟨cb, co, none⟩) cs.length cc) ∧ w'.cell? ⟨cb, co + m, none⟩ = some (.int .i64 cs[m]))) (by kernel_rfl) ?_ (fun hHeld0 => ?_)
              · try dsimp only
                go_keep
              refine tk0 (.bool true) (by kernel_rfl) (by kernel_rfl) (by kernel_rfl) (fun _ _ _ h => h) rfl (fun w hSw => by (try dsimp only at hSw); obtain ⟨q0, q1, q2⟩ := hSw; go_simp) (by assumption) ?_
              try simp only [Act.put, List.setIfInBounds_toArray, List.set_cons_zero, List.set_cons_succ]
              refine tk1 (.bool true) (by kernel_rfl) (by kernel_rfl) (by kernel_rfl) (fun _ _ _ h => h) rfl (fun w hSw => by (try dsimp only at hSw); obtain ⟨q0, q1, q2⟩ := hSw; go_simp) (by assumption) ?_
              try simp only [Act.put, List.setIfInBounds_toArray, List.set_cons_zero, List.set_cons_succ]
              refine tk2 (.slice (some ⟨bk, off, none⟩) l.length cap) (by kernel_rfl) (by kernel_rfl) (by kernel_rfl) (fun _ _ _ h => h) rfl (fun w hSw => by (try dsimp only at hSw); obtain ⟨q0, q1, q2⟩ := hSw; go_simp) (by assumption) ?_
              try simp only [Act.put, List.setIfInBounds_toArray, List.set_cons_zero, List.set_cons_succ]
              refine tk3 (.int .i64 (k : Int)) (by kernel_rfl) (by kernel_rfl) (by kernel_rfl) (fun _ _ _ h => h) rfl (fun w hSw => by (try dsimp only at hSw); obtain ⟨q0, q1, q2⟩ := hSw; go_simp) (by assumption) ?_
              try simp only [Act.put, List.setIfInBounds_toArray, List.set_cons_zero, List.set_cons_succ]
              refine tk4 (.pointer (some ⟨bk, off + k * 9, none⟩)) (by kernel_rfl) (by kernel_rfl) (by kernel_rfl) (fun _ _ _ h => h) rfl (fun w hSw => by (try dsimp only at hSw); obtain ⟨q0, q1, q2⟩ := hSw; go_simp) (by assumption) ?_
              try simp only [Act.put, List.setIfInBounds_toArray, List.set_cons_zero, List.set_cons_succ]
              refine tk5 (.pointer (some ⟨bk, off + k * 9 + 1, none⟩)) (by kernel_rfl) (by kernel_rfl) (by kernel_rfl) (fun _ _ _ h => h) rfl (fun w hSw => by (try dsimp only at hSw); obtain ⟨q0, q1, q2⟩ := hSw; go_simp) (by assumption) ?_
              try simp only [Act.put, List.setIfInBounds_toArray, List.set_cons_zero, List.set_cons_succ]
              refine tk6 (.int .i64 N) (by kernel_rfl) (by kernel_rfl) (by kernel_rfl) (fun _ _ _ h => h) rfl (fun w hSw => by (try dsimp only at hSw); obtain ⟨q0, q1, q2⟩ := hSw; go_simp) (by assumption) ?_
              try simp only [Act.put, List.setIfInBounds_toArray, List.set_cons_zero, List.set_cons_succ]
              refine tk7 (.slice (some ⟨bk, off, none⟩) l.length cap) (by kernel_rfl) (by kernel_rfl) (by kernel_rfl) (fun _ _ _ h => h) rfl (fun w hSw => by (try dsimp only at hSw); obtain ⟨q0, q1, q2⟩ := hSw; go_simp) (by assumption) ?_
              try simp only [Act.put, List.setIfInBounds_toArray, List.set_cons_zero, List.set_cons_succ]
              refine tk8 (.int .i64 (k : Int)) (by kernel_rfl) (by kernel_rfl) (by kernel_rfl) (fun _ _ _ h => h) rfl (fun w hSw => by (try dsimp only at hSw); obtain ⟨q0, q1, q2⟩ := hSw; go_simp) (by assumption) ?_
              try simp only [Act.put, List.setIfInBounds_toArray, List.set_cons_zero, List.set_cons_succ]
              refine tk9 (.pointer (some ⟨bk, off + k * 9, none⟩)) (by kernel_rfl) (by kernel_rfl) (by kernel_rfl) (fun _ _ _ h => h) rfl (fun w hSw => by (try dsimp only at hSw); obtain ⟨q0, q1, q2⟩ := hSw; go_simp) (by assumption) ?_
              try simp only [Act.put, List.setIfInBounds_toArray, List.set_cons_zero, List.set_cons_succ]
              refine tk10 (.pointer (some ⟨bk, off + k * 9 + 8, none⟩)) (by kernel_rfl) (by kernel_rfl) (by kernel_rfl) (fun _ _ _ h => h) rfl (fun w hSw => by (try dsimp only at hSw); obtain ⟨q0, q1, q2⟩ := hSw; go_simp) (by assumption) ?_
              try simp only [Act.put, List.setIfInBounds_toArray, List.set_cons_zero, List.set_cons_succ]
              refine tk11 (.slice (some ⟨cb, co, none⟩) cs.length cc) (by kernel_rfl) (by kernel_rfl) (by kernel_rfl) (fun _ _ _ h => h) rfl (fun w hSw => by (try dsimp only at hSw); obtain ⟨q0, q1, q2⟩ := hSw; go_simp) (by assumption) ?_
              try simp only [Act.put, List.setIfInBounds_toArray, List.set_cons_zero, List.set_cons_succ]
              refine tk12 (.int .i64 (m : Int)) (by kernel_rfl) (by kernel_rfl) (by kernel_rfl) (fun _ _ _ h => h) rfl (fun w hSw => by (try dsimp only at hSw); obtain ⟨q0, q1, q2⟩ := hSw; go_simp) (by assumption) ?_
              try simp only [Act.put, List.setIfInBounds_toArray, List.set_cons_zero, List.set_cons_succ]
              refine tk13 (.pointer (some ⟨cb, co + m, none⟩)) (by kernel_rfl) (by kernel_rfl) (by kernel_rfl) (fun _ _ _ h => h) rfl (fun w hSw => by (try dsimp only at hSw); obtain ⟨q0, q1, q2⟩ := hSw; go_simp) (by assumption) ?_
              try simp only [Act.put, List.setIfInBounds_toArray, List.set_cons_zero, List.set_cons_succ]
              refine tk14 (.int .i64 cs[m]) (by kernel_rfl) (by kernel_rfl) (by kernel_rfl) (fun _ _ _ h => h) rfl (fun w hSw => by (try dsimp only at hSw); obtain ⟨q0, q1, q2⟩ := hSw; go_simp) (by assumption) ?_
              try simp only [Act.put, List.setIfInBounds_toArray, List.set_cons_zero, List.set_cons_succ]
              refine cl15 (by kernel_rfl) rfl (fun K hK => ?_)
              go_simp
              go_at_call 21
              refine (rbounded_any N cs[m] _).mono ?_
              rintro e w5 ⟨rfl, rfl⟩
              refine hK.out _ _ ?_ (fun hHeld => ?_)
              · try dsimp only
                go_keep
              clear hK K
              try simp only [Act.put, List.setIfInBounds_toArray, List.set_cons_zero, List.set_cons_succ]
              refine tk16 (.bool (boundB N cs[m])) (by kernel_rfl) (by kernel_rfl) (by kernel_rfl) (fun _ _ _ h => h) rfl (fun w hSw => by (try dsimp only at hSw); obtain ⟨q0, q1, q2⟩ := hSw; go_simp) (by assumption) ?_
              try simp only [Act.put, List.setIfInBounds_toArray, List.set_cons_zero, List.set_cons_succ]
              refine tk17 (.bool (boundB N cs[m])) (by kernel_rfl) (by kernel_rfl) (by kernel_rfl) (fun _ _ _ h => h) rfl (fun w hSw => by (try dsimp only at hSw); obtain ⟨q0, q1, q2⟩ := hSw; go_simp) (by assumption) ?_
              try simp only [Act.put, List.setIfInBounds_toArray, List.set_cons_zero, List.set_cons_succ]
              refine wpAnyH_done (by kernel_rfl) ?_ _
              go_wp2
              go_roundw
              case rel => exact ⟨m + 1, hml, by rw [HOS.out], by go_num, bmm bel2 bel2.size (undrew (Below.refl _ wr.drew))⟩
              case measure => simp [intOf]; omega
            | false =>
              have HOS : Hid (okK n N cs (m + 1) = false) := by
                show _ = _
                rw [okK_succ n N cs m hml, hob, Bool.false_and]
              clear hob hcv HOK0
              go_wp2
              refine wp_region_held_drew (S := (fun _ : World => True)) (by kernel_rfl) ?_ (fun hHeld0 => ?_)
              · trivial
              refine tk0 (.bool false) (by kernel_rfl) (by kernel_rfl) (by kernel_rfl) (fun _ _ _ h => h) rfl (fun w hSw => by (try dsimp only at hSw); go_simp) trivial ?_
              try simp only [Act.put, List.setIfInBounds_toArray, List.set_cons_zero, List.set_cons_succ]
              refine tk1 (.bool false) (by kernel_rfl) (by kernel_rfl) (by kernel_rfl) (fun _ _ _ h => h) rfl (fun w hSw => by (try dsimp only at hSw); go_simp) trivial ?_
              try simp only [Act.put, List.setIfInBounds_toArray, List.set_cons_zero, List.set_cons_succ]
              refine sk2 (by kernel_rfl) (by kernel_rfl) (by kernel_rfl) (fun _ _ _ h => h) rfl trivial ?_
              try simp only [Act.put, List.setIfInBounds_toArray, List.set_cons_zero, List.set_cons_succ]
              refine sk3 (by kernel_rfl) (by kernel_rfl) (by kernel_rfl) (fun _ _ _ h => h) rfl trivial ?_
              try simp only [Act.put, List.setIfInBounds_toArray, List.set_cons_zero, List.set_cons_succ]
              refine sk4 (by kernel_rfl) (by kernel_rfl) (by kernel_rfl) (fun _ _ _ h => h) rfl trivial ?_
              try simp only [Act.put, List.setIfInBounds_toArray, List.set_cons_zero, List.set_cons_succ]
              refine sk5 (by kernel_rfl) (by kernel_rfl) (by kernel_rfl) (fun _ _ _ h => h) rfl trivial ?_
              try simp only [Act.put, List.setIfInBounds_toArray, List.set_cons_zero, List.set_cons_succ]
              refine sk6 (by kernel_rfl) (by kernel_rfl) (by kernel_rfl) (fun _ _ _ h => h) rfl trivial ?_
              try simp only [Act.put, List.setIfInBounds_toArray, List.set_cons_zero, List.set_cons_succ]
              refine sk7 (by kernel_rfl) (by kernel_rfl) (by kernel_rfl) (fun _ _ _ h => h) rfl trivial ?_
              try simp only [Act.put, List.setIfInBounds_toArray, List.set_cons_zero, List.set_cons_succ]
              refine sk8 (by kernel_rfl) (by kernel_rfl) (by kernel_rfl) (fun _ _ _ h => h) rfl trivial ?_
              try simp only [Act.put, List.setIfInBounds_toArray, List.set_cons_zero, List.set_cons_succ]
              refine sk9 (by kernel_rfl) (by kernel_rfl) (by kernel_rfl) (fun _ _ _ h => h) rfl trivial ?_
              try simp only [Act.put, List.setIfInBounds_toArray, List.set_cons_zero, List.set_cons_succ]
              refine sk10 (by kernel_rfl) (by kernel_rfl) (by kernel_rfl) (fun _ _ _ h => h) rfl trivial ?_
              try simp only [Act.put, List.setIfInBounds_toArray, List.set_cons_zero, List.set_cons_succ]
              refine sk11 (by kernel_rfl) (by kernel_rfl) (by kernel_rfl) (fun _ _ _ h => h) rfl trivial ?_
              try simp only [Act.put, List.setIfInBounds_toArray, List.set_cons_zero, List.set_cons_succ]
              refine sk12 (by kernel_rfl) (by kernel_rfl) (by kernel_rfl) (fun _ _ _ h => h) rfl trivial ?_
              try simp only [Act.put, List.setIfInBounds_toArray, List.set_cons_zero, List.set_cons_succ]
              refine sk13 (by kernel_rfl) (by kernel_rfl) (by kernel_rfl) (fun _ _ _ h => h) rfl trivial ?_
              try simp only [Act.put, List.setIfInBounds_toArray, List.set_cons_zero, List.set_cons_succ]
              refine sk14 (by kernel_rfl) (by kernel_rfl) (by kernel_rfl) (fun _ _ _ h => h) rfl trivial ?_
              try simp only [Act.put, List.setIfInBounds_toArray, List.set_cons_zero, List.set_cons_succ]
              refine sk15 (by kernel_rfl) (by kernel_rfl) (by kernel_rfl) (fun _ _ _ h => h) rfl trivial ?_
              try simp only [Act.put, List.setIfInBounds_toArray, List.set_cons_zero, List.set_cons_succ]
              refine tk16 (.bool false) (by kernel_rfl) (by kernel_rfl) (by kernel_rfl) (fun _ _ _ h => h) rfl (fun w hSw => by (try dsimp only at hSw); go_simp) trivial ?_
              try simp only [Act.put, List.setIfInBounds_toArray, List.set_cons_zero, List.set_cons_succ]
              refine tk17 (.bool false) (by kernel_rfl) (by kernel_rfl) (by kernel_rfl) (fun _ _ _ h => h) rfl (fun w hSw => by (try dsimp only at hSw); go_simp) trivial ?_
              try simp only [Act.put, List.setIfInBounds_toArray, List.set_cons_zero, List.set_cons_succ]
              refine wpAnyH_done (by kernel_rfl) ?_ _
              go_wp2
              go_roundw
              case rel => exact ⟨m + 1, hml, by rw [HOS.out], by go_num, bmm bel2 bel2.size (undrew (Below.refl _ wr.drew))⟩
              case measure => simp [intOf]; omega
          · have hme : m = cs.length := by omega
            subst hme
            have hfull : stepB n l[k] = okK n N cs cs.length := by
              rw [HLE.out]
              unfold stepB okK
              simp
            cases hob : okK n N cs cs.length with
            | true =>
              have HP2 : Hid (∀ j (hj : j < l.length), j < k + 1 → stepB n l[j] = true) := fun j hj h0 => by
                by_cases e : j = k
                · subst e
                  rw [hfull, hob]
                · exact HP.out j hj (by omega)
              clear hob hfull HP HOK0 HCX HLE
              go_wp2
              go_roundw
              case rel => exact ⟨k + 1, hkl, by go_num, HP2, bmm bel bel.size bel2⟩
              case measure => simp [intOf]; omega
            | false =>
              obtain ⟨e1, e2⟩ := script_at hkl (by rw [hfull, hob]) HP.out
              have HE1 : Hid (scriptP l n = k) := e1
              have HE2 : Hid (scriptZ l n = 19) := e2
              clear hob hfull HP HOK0 HCX HLE e1 e2
              go_wp2
              go_ret2
              exact ⟨by rw [HE1.out, HE2.out]; rfl, bmm bel bel.size bel2⟩
      · have hKb : (K == 5) = false := by simpa using hK
        have HP2 : Hid (∀ j (hj : j < l.length), j < k + 1 → stepB n l[j] = true) := fun j hj h0 => by
          by_cases e : j = k
          · subst e
            rw [HLE.out]
            unfold stepB
            simp [hK]
          · exact HP.out j hj (by omega)
        clear HP HCX HLE
        go_wp2
        go_roundw
        case rel => exact ⟨k + 1, hkl, by go_num, HP2, bel⟩
        case measure => simp [intOf]; omega
    · have hke : k = l.length := by omega
      subst hke
      obtain ⟨e1, e2⟩ := script_none (fun j hj => HP.out j hj hj)
      have HE1 : Hid (scriptP l n = 0) := e1
      have HE2 : Hid (scriptZ l n = 0) := e2
      clear e1 e2 HP
      go_wp2
      go_ret2
      exact ⟨by rw [HE1.out, HE2.out]; rfl, bel⟩
end Go.Proofs.Ytcecgphjaofgbaa
