/-
  The document's proposer: an acceptance heard. The conditions: at most 2^29 open slots, each accepted by at most 1000.
-/
import Derived.Test.YtmlgoecdefeapaaPPackH
import Derived.Test.YtmlgoecdefeapaaPMxRef
import Derived.Test.YtmlgoecdefeapaaPBaRef
import Derived.Test.YtmlgoecdefeapaaPPackA
namespace Go.Proofs.Ytmlgoecdefeapaa
open Go.RowKit

theorem OwnNu.ints {w : World} {base : Nat} {v : Value} {l : List Int} (h : OwnNu w base v l) (hl : l.length ≤ 1000) (hi : ∀ i ∈ l, okI i) : IntsAt w v l :=
  RowAt.ints (show RowAt intC w v l from RowAt.own nuC_len h) hi (by omega)
/-- Servers that accepted are numbers, not too many. -/
def WhoOk (l : List Int) : Prop := l.length ≤ 1000 ∧ ∀ i ∈ l, okI i
theorem off_zero {w : World} {base : Nat} {T : TypeId} {k n cap m : Nat} {bk off : Nat} {xs : List Value} (h : w.ownsRow base T k (.slice (some ⟨bk, off, none⟩) n cap) m xs) : off = 0 := by
  rcases h.2 with ⟨e1, _⟩ | ⟨g', cap, cur, e1, _⟩
  · simp at e1
  · injection e1 with e2 _ _
    injection e2 with e2
    injection e2 with _ e2 _
theorem own_blk {w : World} {base : Nat} {T : TypeId} {k n cap m bk off : Nat} {xs : List Value} (h : w.ownsRow base T k (.slice (some ⟨bk, off, none⟩) n cap) m xs) : ∃ cur, w.heap[bk]? = some (.cells cur T (0, 0)) := by
  rcases h.2 with ⟨e1, _⟩ | ⟨g', cap', cur, e1, _, hc, _⟩
  · simp at e1
  · injection e1 with e2 _ _
    injection e2 with e2
    injection e2 with e2 _ _
    rw [e2]
    exact ⟨cur, hc⟩
section
variable {w w' : World} {base X : Nat} {S : Nat → Prop} {p : Pp} {a1 a2 a3 a4 : Value} {l : List Sv}
set_option maxHeartbeats 6400000 in
set_option maxRecDepth 100000 in
theorem PrAt.raccepted (h : PrAt w base S X p a1 a2 a3 a4 l) (hl : p.l.length ≤ 536870912) (hn : p.n ≤ 9223372036854775807) (hw : ∀ x ∈ p.l, WhoOk x.who) (who s : Int) : Calls Try.prog 14 #[.pointer (some ⟨X, 0, none⟩), .int .i64 who, .int .i64 s] w (PrPost w base S X (accP (maR p.n) p who s).1 (.bool (accP (maR p.n) p who s).2)) := by
  have c0 : w.cell? ⟨X, 0, none⟩ = some (.int .i64 p.n) := by simp [World.cell?, h.blk]
  have HQ : Hid (PrPost w base S X p (.bool false) (.returned (.bool false)) w) := ⟨S, rfl, ⟨_, _, _, _, _, h⟩, Kept.refl _ _⟩
  by_cases h0 : who < 0 ∨ p.n ≤ who
  · have e1 : accP (maR p.n) p who s = (p, false) := by
      unfold accP
      rw [if_pos h0]
    rw [e1]
    by_cases h1 : who < 0
    · have d1 : decide (who < 0) = true := decide_eq_true h1
      clear h h0 e1 hl hn hw h1
      go_enter Try.func14, Try.ntmps14
      go_wp2
      go_ret
      exact HQ.out
    · have d1 : decide (who < 0) = false := decide_eq_false h1
      have d2 : decide (p.n ≤ who) = true := decide_eq_true (by omega)
      clear h h0 e1 hl hn hw h1
      go_enter Try.func14, Try.ntmps14
      go_wp2
      go_ret
      exact HQ.out
  · have d1 : decide (who < 0) = false := decide_eq_false (by omega)
    have d2 : decide (p.n ≤ who) = false := decide_eq_false (by omega)
    have hl' : l.length ≤ 536870912 := by rw [← h.sl, List.length_map] at hl; exact hl
    obtain ⟨m, hm⟩ : ∃ m, m = maR p.n := ⟨_, rfl⟩
    have HMJ : Hid _ := rmaj_any p.n hn
    rw [← hm] at HMJ ⊢
    have HA : Hid (accP m p who s = (⟨p.n, p.b, p.f, p.who, p.best, p.is, p.vals, p.next, (accL m s who p.l).1⟩, (accL m s who p.l).2)) := by
      show accP m p who s = _
      unfold accP
      rw [if_neg h0]
    have c8 : w.cell? ⟨X, 8, none⟩ = some a4 := by simp [World.cell?, h.blk]
    obtain ⟨va, vc, ev⟩ := (OwnSv.row h.o4).form
    subst ev
    have HP : Hid _ := h
    obtain ⟨i0, hi, hz0, hz1, hz2⟩ := info_parts (show (Try.prog.info? 3).map (fun i => (i.zero, i.size, i.bytes)) = some (some (.int .i64 0), 1, 8) by kernel_rfl)
    have HW : Hid (∀ x ∈ l, WhoOk x.1.who) := fun x hx => hw x.1 (by rw [← h.sl]; exact List.mem_map.2 ⟨x, hx, rfl⟩)
    clear h h0 hl hn hw hm
    go_enter Try.func14, Try.ntmps14
    go_wp2
    go_loopw [7, 8] (fun i _ wr => ∃ k : Nat, k ≤ l.length ∧ i = .int .i64 (k : Int) ∧ (∀ y ∈ p.l.take k, skipA s who y) ∧ wr = w) (fun i _ _ => l.length - (intOf i).toNat)
    case atStart => exact ⟨0, Nat.zero_le _, rfl, fun y hy => by simp at hy, rfl⟩
    case round =>
      obtain ⟨k, hk, rfl, hsk, rfl⟩ := hrel
      by_cases hkl : k < l.length
      · have q0 : decide ((k : Int) < (l.length : Int)) = true := decide_eq_true (by omega)
        obtain ⟨bk, off, cap', hvv, hcap, hbk, hc⟩ := (OwnSv.row HP.out.o4).cells svC_len (by omega)
        injection hvv with e1 e2 e3
        subst e1 e3
        have hoff : off = 0 := off_zero HP.out.o4
        subst hoff
        clear e2
        obtain ⟨y, hy⟩ : ∃ y, y = l[k] := ⟨_, rfl⟩
        have z0 := hc k hkl 0 (.int .i64 y.1.e.slot) (by decide) (by rw [hy]; rfl)
        have z7 := hc k hkl 7 (.slice y.2.1 y.2.2.1 y.2.2.2) (by decide) (by rw [hy]; rfl)
        have z8 := hc k hkl 8 (.bool y.1.most) (by decide) (by rw [hy]; rfl)
        rw [Nat.add_zero] at z0
        rw [Nat.zero_add] at z0 z7 z8
        have hyl : y ∈ l := by rw [hy]; exact List.getElem_mem hkl
        have hkp : k < p.l.length := by rw [← HP.out.sl, List.length_map]; exact hkl
        have hyp : p.l[k] = y.1 := by
          have e : p.l[k]? = some y.1 := by rw [← HP.out.sl, List.getElem?_map, List.getElem?_eq_getElem hkl, hy]; rfl
          rw [List.getElem?_eq_getElem hkp] at e
          exact Option.some.inj e
        have HH : Hid _ := has_any wr (svW y) y.1.who who (OwnNu.ints (HP.out.ow y hyl) (HW.out y hyl).1 (HW.out y hyl).2)
        have HS : Hid (skipA s who y.1 → ∀ z ∈ p.l.take (k + 1), skipA s who z) := fun h5 z hz => by
          rw [List.take_add_one, List.getElem?_eq_getElem hkp, hyp] at hz
          rcases List.mem_append.1 hz with h6 | h6
          · exact hsk z h6
          · have h7 : z = y.1 := by simpa using h6
            rw [h7]
            exact h5
        have HIT : Hid (¬ skipA s who y.1 → accL m s who p.l = (p.l.set k ⟨y.1.e, y.1.who ++ [who], decide (m ≤ (y.1.who.length : Int) + 1)⟩, decide (m ≤ (y.1.who.length : Int) + 1))) := fun h5 => by
          have := accL_hit (m := m) hkp hsk (by rw [hyp]; exact h5)
          rw [hyp] at this
          exact this
        have HY : Hid (l[k] = y) := hy.symm
        clear hc hsk hy hyp
        by_cases hs : y.1.e.slot = s
        · have t1 : (y.1.e.slot == s) = true := by simpa using hs
          have t2 : (y.1.e.slot != s) = false := by simp [hs]
          cases hmo : y.1.most with
          | true =>
            rw [hmo] at z8
            clear HIT HH
            go_wp2
            go_roundw
            case rel => exact ⟨k + 1, hkl, by go_num, HS.out (Or.inr (Or.inl hmo)), trivial⟩
            case measure => simp [intOf]; omega
          | false =>
            rw [hmo] at z8
            by_cases hha : who ∈ y.1.who
            · have hb : hasB y.1.who who = true := decide_eq_true hha
              rw [hb] at HH
              clear HIT
              go_wp2_with (go_at_call 30; refine Calls.mono HH.out ?_; rintro r w1 ⟨rfl, hw1⟩; rw [hw1]; clear hw1)
              go_roundw
              case rel => exact ⟨k + 1, hkl, by go_num, HS.out (Or.inr (Or.inr hha)), trivial⟩
              case measure => simp [intOf]; omega
            · have hb : hasB y.1.who who = false := decide_eq_false hha
              rw [hb] at HH
              have hit := HIT.out (fun h5 => by
                rcases h5 with h6 | h6 | h6
                · exact h6 hs
                · rw [hmo] at h6; cases h6
                · exact hha h6)
              obtain ⟨L1, hL1⟩ : ∃ L1, L1 = (y.1.who ++ [who]).length := ⟨_, rfl⟩
              have hL2 : (L1 : Int) = (y.1.who.length : Int) + 1 := by rw [hL1]; simp
              obtain ⟨bb, hbb⟩ : ∃ bb, bb = decide (m ≤ (L1 : Int)) := ⟨_, rfl⟩
              rw [← hL2, ← hbb] at hit
              have hmaj : decide (m ≤ (L1 : Int)) = bb := hbb.symm
              have hbs : base ≤ wr.heap.size := Nat.le_trans HP.out.lo (Nat.le_of_lt (lt_of_block HP.out.blk))
              have bA : Below wr.heap.size wr (wr.alloc (.cells #[.int .i64 who] 3)) := (Below.refl _ wr).alloc (Nat.le_refl _) _
              have HNEW : Hid (RowAt nuC (wr.alloc (.cells #[.int .i64 who] 3)) (.slice (some ⟨wr.heap.size, 0, none⟩) 1 1) [who]) := RowAt.built (heap_alloc_new wr _) rfl 1 rfl rfl
              have hoy := HP.out.ow y hyl
              have HOY : Hid (OwnNu (wr.alloc (.cells #[.int .i64 who] 3)) base (.slice y.2.1 y.2.2.1 y.2.2.2) y.1.who) := own_keep hoy fun g e => bA.block g (hoy.lt g e).2
              have HLEN : Hid (y.1.who.length ≤ 1000) := (HW.out y hyl).1
              have HBS : Hid (base ≤ ((wr.alloc (.cells #[.int .i64 who] 3))).heap.size) := Nat.le_trans hbs bA.size
              have hap4 : Apart (svW y) (.slice (some ⟨bk, 0, none⟩) l.length vc) := own_apart hoy HP.out.o4 (by decide)
              have HAP : Hid (∀ w6 u6, w6.ownsRow base 3 1 u6 (y.1.who.length + [who].length) (rowL nuC y.1.who ++ rowL nuC [who]) → Appended base (wr.alloc (.cells #[.int .i64 who] 3)) w6 (.slice y.2.1 y.2.2.1 y.2.2.2) u6 → ∃ p6 q6, u6 = .slice p6 L1 q6 ∧ w6.cell? ⟨bk, k * 9 + 7, none⟩ = some (.slice y.2.1 y.2.2.1 y.2.2.2) ∧ w6.frozen? ⟨bk, k * 9 + 7, none⟩ = false ∧ ∃ W7, w6.setCell ⟨bk, k * 9 + 7, none⟩ (.slice p6 L1 q6) = W7 ∧ W7.cell? ⟨bk, k * 9 + 7, none⟩ = some (.slice p6 L1 q6) ∧ W7.cell? ⟨X, 0, none⟩ = some (.int .i64 p.n) ∧ W7.drew.cell? ⟨bk, k * 9 + 8, none⟩ = some (.bool false) ∧ W7.drew.frozen? ⟨bk, k * 9 + 8, none⟩ = false ∧ ∃ W8, W7.drew.setCell ⟨bk, k * 9 + 8, none⟩ (.bool bb) = W8 ∧ W8.cell? ⟨bk, k * 9 + 8, none⟩ = some (.bool bb) ∧ W8.cell? ⟨bk, k * 9 + 7, none⟩ = some (.slice p6 L1 q6) ∧ W8.cell? ⟨X, 0, none⟩ = some (.int .i64 p.n) ∧ Hid (PrPost wr base S X (accP m p who s).1 (.bool (accP m p who s).2) (.returned (.bool bb)) W8)) := fun w6 u6 o6 a6 => by
                have o6' : OwnNu w6 base u6 (y.1.who ++ [who]) := by
                  show w6.ownsRow _ _ _ _ (y.1.who ++ [who]).length (rowL nuC (y.1.who ++ [who]))
                  rw [List.length_append, rowL_append]
                  exact o6
                obtain ⟨p6, q6, e6⟩ := (RowAt.own nuC_len o6').form
                rw [← hL1] at e6
                subst e6
                have fr : ∀ b, b < wr.heap.size → (svW y).ownBlock ≠ some b → w6.heap[b]? = wr.heap[b]? := fun b hb hn => (a6.rest b (Nat.lt_of_lt_of_le hb bA.size) (fun e => hn e.symm)).trans (bA.block b hb)
                have nbk : (svW y).ownBlock ≠ some bk := fun e => hap4 bk e rfl
                obtain ⟨cur, hcb⟩ := own_blk HP.out.o4
                have hb6 := (fr bk hbk nbk).trans hcb
                have s7 : cur[k * 9 + 7]? = some (.slice y.2.1 y.2.2.1 y.2.2.2) := by simpa [World.cell?, hcb] using z7
                have s8 : cur[k * 9 + 8]? = some (.bool false) := by simpa [World.cell?, hcb] using z8
                have l8 : k * 9 + 8 < cur.size := (Array.getElem?_eq_some_iff.1 s8).1
                have hXb : X ≠ bk := fun e => HP.out.n4 (by rw [e]; rfl)
                have cX6 : w6.heap[X]? = wr.heap[X]? := fr X (lt_of_block HP.out.blk) (HP.out.nw y hyl)
                obtain ⟨W7, hW7⟩ : ∃ W7, w6.setCell ⟨bk, k * 9 + 7, none⟩ (.slice p6 L1 q6) = W7 := ⟨_, rfl⟩
                have b7 : W7.heap[bk]? = some (.cells (cur.setIfInBounds (k * 9 + 7) (.slice p6 L1 q6)) 69 (0, 0)) := by rw [← hW7]; exact heap_setCell_same w6 bk _ _ _ _ hb6
                have n7 : ∀ g, g ≠ bk → W7.heap[g]? = w6.heap[g]? := fun g hg => by rw [← hW7]; exact heap_setCell_other _ _ _ _ hg
                have b7d : W7.drew.heap[bk]? = some (.cells (cur.setIfInBounds (k * 9 + 7) (.slice p6 L1 q6)) 69 (0, 0)) := b7
                obtain ⟨W8, hW8⟩ : ∃ W8, W7.drew.setCell ⟨bk, k * 9 + 8, none⟩ (.bool bb) = W8 := ⟨_, rfl⟩
                have b8 : W8.heap[bk]? = some (.cells ((cur.setIfInBounds (k * 9 + 7) (.slice p6 L1 q6)).setIfInBounds (k * 9 + 8) (.bool bb)) 69 (0, 0)) := by rw [← hW8]; exact heap_setCell_same W7.drew bk _ _ _ _ b7d
                have n8 : ∀ g, g ≠ bk → W8.heap[g]? = w6.heap[g]? := fun g hg => by rw [← hW8, heap_setCell_other _ _ _ _ hg]; exact n7 g hg
                have d78 : Below W7.heap.size W7 W7.drew := undrew (Below.refl _ _)
                have z78 : W7.heap.size = w6.heap.size := by rw [← hW7]; simp
                have z8 : W8.heap.size = W7.drew.heap.size := by rw [← hW8]; simp
                refine ⟨p6, q6, rfl, (by simp [World.cell?, hb6, s7]), (by simp [World.frozen?, hb6]), W7, hW7, (by simp [World.cell?, b7, Array.getElem?_setIfInBounds]; omega), (by simp [World.cell?, n7 X hXb, cX6, HP.out.blk]), (by simp [World.cell?, b7d, s8]), (by simp [World.frozen?, b7d]), W8, hW8, (by simp [World.cell?, b8, Array.getElem?_setIfInBounds]; omega), (by simp [World.cell?, b8, Array.getElem?_setIfInBounds]; omega), (by simp [World.cell?, n8 X hXb, cX6, HP.out.blk]), ?_⟩
                have oN : OwnNu W8 base (.slice p6 L1 q6) (y.1.who ++ [who]) := own_keep o6' fun g e => n8 g (fun e2 => own_ne o6' hb6 (by decide) (by rw [e, e2]))
                have o46 : OwnSv w6 base (.slice (some ⟨bk, 0, none⟩) l.length vc) l := own_keep HP.out.o4 fun g e => by
                  have : bk = g := by simpa [Value.ownBlock] using e
                  rw [← this]
                  exact fr bk hbk nbk
                have o48 := own_setSv (w2 := W7.drew) o46 k hkl (p6, L1, q6) (y.1.who ++ [who]) bb (by show W7.heap[bk]? = _; rw [← hW7])
                rw [hW8, HY.out] at o48
                obtain ⟨S', P8, K8⟩ := HP.out.turn5 (w' := W8) (k := k) (y := (⟨y.1.e, y.1.who ++ [who], bb⟩, (p6, L1, q6))) hkl oN o48 ⟨(by rw [← hW8]; exact d78.os.trans (by rw [← hW7]; exact a6.below.os)), (by rw [← hW8]; exact d78.tape.trans (by rw [← hW7]; exact a6.below.tape)), (by rw [← hW8]; exact d78.output.trans (by rw [← hW7]; exact a6.below.output)), (by rw [z8]; exact Nat.le_trans (Nat.le_trans bA.size (by rw [z78]; exact a6.below.size)) d78.size)⟩ (fun g e => by
                  rw [HY.out]
                  rcases a6.lies with e2 | e2
                  · exact Or.inl (e2.symm.trans e)
                  · refine Or.inr ?_
                    have e3 : some ((wr.alloc (.cells #[.int .i64 who] 3))).heap.size = some g := e2.symm.trans e
                    have := bA.size
                    have := Option.some.inj e3
                    omega) (fun b hb h4 hy2 => by
                  rw [HY.out] at hy2
                  exact (n8 b (fun e => h4 (by rw [e]; rfl))).trans (fr b hb hy2))
                show PrPost _ _ _ _ _ _ _ _
                rw [HA.out, hit]
                exact ⟨S', rfl, ⟨_, _, _, _, _, P8⟩, K8⟩
              clear HIT HS hit hL1 hL2 hbb hoy hap4 hbs bA hyl HW hha hmo HY hkp HA
              go_upto_region 8 with (go_at_call 30; refine Calls.mono HH.out ?_; rintro r w1 ⟨rfl, hw1⟩; rw [hw1]; clear hw1)
              clear HH z0 z8
              go_upto_region 9 with (at_builtin; refine wpList_app_row (k := 1) (enc := nuC) (l := [who]) rfl (.tmp 59) (.tmp 61) 41 3 rfl i0 _ 8 Try.underlying41 hi hz0 hz1 hz2 rfl (by decide) nuC_len nuC_one rfl rfl HOY.out HNEW.out HBS.out (by have := HLEN.out; simp; omega) (by have := HLEN.out; simp; omega) ?_; intro u6 w6 o6 a6; obtain ⟨p6, q6, e6, c7, f7, W7, hW7, v7, v0, c8', f8, W8, hW8, x8, x7, x0, HF⟩ := HAP.out w6 u6 o6 a6; subst e6; clear o6 a6)

              clear HAP HOY HNEW HBS HLEN hW7 c7 f7 z7 c8 c0
              refine wp_region_held_drew (S := (fun y : World => y.cell? ⟨bk, k * 9 + 7, none⟩ = some (.slice p6 L1 q6) ∧ y.cell? ⟨X, 0, none⟩ = some (.int .i64 p.n))) (by kernel_rfl) ?_ (fun hHeld0 => ?_)
              · try dsimp only
                exact ⟨by assumption, by assumption⟩
              refine tk0 (.pointer (some ⟨bk, k * 9, none⟩)) (by kernel_rfl) (by kernel_rfl) (by kernel_rfl) (fun _ _ _ h => h) rfl (fun w hSw => by (try dsimp only at hSw); obtain ⟨s7, s0⟩ := hSw; go_simp) (by assumption) ?_
              try simp only [Act.put, List.setIfInBounds_toArray, List.set_cons_zero, List.set_cons_succ]
              refine tk1 (.pointer (some ⟨bk, k * 9, none⟩)) (by kernel_rfl) (by kernel_rfl) (by kernel_rfl) (fun _ _ _ h => h) rfl (fun w hSw => by (try dsimp only at hSw); obtain ⟨s7, s0⟩ := hSw; go_simp) (by assumption) ?_
              try simp only [Act.put, List.setIfInBounds_toArray, List.set_cons_zero, List.set_cons_succ]
              refine tk2 (.pointer (some ⟨bk, k * 9, none⟩)) (by kernel_rfl) (by kernel_rfl) (by kernel_rfl) (fun _ _ _ h => h) rfl (fun w hSw => by (try dsimp only at hSw); obtain ⟨s7, s0⟩ := hSw; go_simp) (by assumption) ?_
              try simp only [Act.put, List.setIfInBounds_toArray, List.set_cons_zero, List.set_cons_succ]
              refine tk3 (.pointer (some ⟨bk, k * 9 + 7, none⟩)) (by kernel_rfl) (by kernel_rfl) (by kernel_rfl) (fun _ _ _ h => h) rfl (fun w hSw => by (try dsimp only at hSw); obtain ⟨s7, s0⟩ := hSw; go_simp) (by assumption) ?_
              try simp only [Act.put, List.setIfInBounds_toArray, List.set_cons_zero, List.set_cons_succ]
              refine tk4 (.slice p6 L1 q6) (by kernel_rfl) (by kernel_rfl) (by kernel_rfl) (fun _ _ _ h => h) rfl (fun w hSw => by (try dsimp only at hSw); obtain ⟨s7, s0⟩ := hSw; go_simp) (by assumption) ?_
              try simp only [Act.put, List.setIfInBounds_toArray, List.set_cons_zero, List.set_cons_succ]
              refine tk5 (.int .i64 (L1 : Int)) (by kernel_rfl) (by kernel_rfl) (by kernel_rfl) (fun _ _ _ h => h) rfl (fun w hSw => by (try dsimp only at hSw); obtain ⟨s7, s0⟩ := hSw; go_simp) (by assumption) ?_
              try simp only [Act.put, List.setIfInBounds_toArray, List.set_cons_zero, List.set_cons_succ]
              refine tk6 (.pointer (some ⟨X, 0, none⟩)) (by kernel_rfl) (by kernel_rfl) (by kernel_rfl) (fun _ _ _ h => h) rfl (fun w hSw => by (try dsimp only at hSw); obtain ⟨s7, s0⟩ := hSw; go_simp) (by assumption) ?_
              try simp only [Act.put, List.setIfInBounds_toArray, List.set_cons_zero, List.set_cons_succ]
              refine tk7 (.pointer (some ⟨X, 0, none⟩)) (by kernel_rfl) (by kernel_rfl) (by kernel_rfl) (fun _ _ _ h => h) rfl (fun w hSw => by (try dsimp only at hSw); obtain ⟨s7, s0⟩ := hSw; go_simp) (by assumption) ?_
              try simp only [Act.put, List.setIfInBounds_toArray, List.set_cons_zero, List.set_cons_succ]
              refine tk8 (.pointer (some ⟨X, 0, none⟩)) (by kernel_rfl) (by kernel_rfl) (by kernel_rfl) (fun _ _ _ h => h) rfl (fun w hSw => by (try dsimp only at hSw); obtain ⟨s7, s0⟩ := hSw; go_simp) (by assumption) ?_
              try simp only [Act.put, List.setIfInBounds_toArray, List.set_cons_zero, List.set_cons_succ]
              refine tk9 (.int .i64 p.n) (by kernel_rfl) (by kernel_rfl) (by kernel_rfl) (fun _ _ _ h => h) rfl (fun w hSw => by (try dsimp only at hSw); obtain ⟨s7, s0⟩ := hSw; go_simp) (by assumption) ?_
              try simp only [Act.put, List.setIfInBounds_toArray, List.set_cons_zero, List.set_cons_succ]
              refine cl10 (by kernel_rfl) rfl (fun K hK => ?_)
              go_simp
              go_at_call 24
              refine Calls.mono (HMJ.out _) ?_
              rintro r w9 ⟨rfl, e9⟩
              subst e9
              refine hK.out _ _ ?_ (fun hHeld => ?_)
              · try dsimp only
                exact ⟨by assumption, by assumption⟩
              clear hK K
              try simp only [Act.put, List.setIfInBounds_toArray, List.set_cons_zero, List.set_cons_succ]
              refine tk11 (.bool bb) (by kernel_rfl) (by kernel_rfl) (by kernel_rfl) (fun _ _ _ h => h) rfl (fun w hSw => by (try dsimp only at hSw); obtain ⟨s7, s0⟩ := hSw; go_simp) (by assumption) ?_
              try simp only [Act.put, List.setIfInBounds_toArray, List.set_cons_zero, List.set_cons_succ]
              refine tk12 (.pointer (some ⟨bk, k * 9, none⟩)) (by kernel_rfl) (by kernel_rfl) (by kernel_rfl) (fun _ _ _ h => h) rfl (fun w hSw => by (try dsimp only at hSw); obtain ⟨s7, s0⟩ := hSw; go_simp) (by assumption) ?_
              try simp only [Act.put, List.setIfInBounds_toArray, List.set_cons_zero, List.set_cons_succ]
              refine tk13 (.pointer (some ⟨bk, k * 9 + 8, none⟩)) (by kernel_rfl) (by kernel_rfl) (by kernel_rfl) (fun _ _ _ h => h) rfl (fun w hSw => by (try dsimp only at hSw); obtain ⟨s7, s0⟩ := hSw; go_simp) (by assumption) ?_
              try simp only [Act.put, List.setIfInBounds_toArray, List.set_cons_zero, List.set_cons_succ]
              refine cl14 (by kernel_rfl) rfl (fun K hK => ?_)
              go_simp
              refine hK.out _ _ ?_ (fun hHeld => ?_)
              · try dsimp only
                exact ⟨x7, x0⟩
              clear hK K
              try simp only [Act.put, List.setIfInBounds_toArray, List.set_cons_zero, List.set_cons_succ]
              refine wpAnyH_done (by kernel_rfl) ?_ _
              go_wp2
              go_ret
              exact HF.out
        · have t1 : (y.1.e.slot == s) = false := by simpa using hs
          have t2 : (y.1.e.slot != s) = true := by simp [hs]
          clear HIT HH
          go_wp2
          go_roundw
          case rel => exact ⟨k + 1, hkl, by go_num, HS.out (Or.inl hs), trivial⟩
          case measure => simp [intOf]; omega
      · have q0 : decide ((k : Int) < (l.length : Int)) = false := decide_eq_false (by omega)
        have hkp : p.l.take k = p.l := List.take_of_length_le (by rw [← HP.out.sl, List.length_map]; omega)
        rw [hkp] at hsk
        have HN : Hid (accP m p who s = (p, false)) := by
          show accP m p who s = _
          rw [HA.out, accL_skip hsk]
        clear hsk hkp HA HP
        go_wp2
        go_ret
        rw [HN.out]
        exact HQ.out
end
end Go.Proofs.Ytmlgoecdefeapaa
