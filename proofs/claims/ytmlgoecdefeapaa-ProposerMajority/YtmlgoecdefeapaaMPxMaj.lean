/-
  ProposerMajority: a slot is accepted just when a majority of servers did, each counted once, and told once. No condition.
-/
import Derived.Test.YtmlgoecdefeapaaMPxNone
import Derived.Test.YtmlgoecdefeapaaMBaRef
import Derived.Test.YtmlgoecdefeapaaMPackA
import Derived.Lib.MinMax
namespace Go.Proofs.Ytmlgoecdefeapaa
open Go.RowKit

def withL (q : Pp) (l : List Sl) : Pp := ⟨q.n, q.b, q.f, q.who, q.best, q.is, q.vals, q.next, l⟩
/-- The promises of k servers heard. -/
def pqM (n : Int) : Nat → Pp
  | 0 => Pp.new n 9 1
  | k + 1 => (promP (maR n) (pqM n k) (k : Int) []).1
def chkQ (n : Int) (q : Pp) : Bool := decide (q.f = 1) && (q.best.isEmpty && (decide (q.next ≤ 10) && decide (q.n = n)))
theorem pq_all : (List.range 5).all (fun a => (List.range 6).all fun k => chkQ ((a : Int) + 1) (pqM ((a : Int) + 1) k)) = true := by kernel_rfl
theorem pq_ok {n : Nat} (h1 : 1 ≤ n) (h5 : n ≤ 5) {k : Nat} (hk : k ≤ 5) : (pqM n k).f = 1 ∧ (pqM n k).best = [] ∧ (pqM n k).next ≤ 10 ∧ (pqM n k).n = n := by
  have h : chkQ (((n - 1 : Nat) : Int) + 1) (pqM (((n - 1 : Nat) : Int) + 1) k) = true := List.all_eq_true.1 (List.all_eq_true.1 pq_all (n - 1) (List.mem_range.2 (by omega))) k (List.mem_range.2 (by omega))
  have e : ((n - 1 : Nat) : Int) + 1 = (n : Int) := by omega
  rw [e] at h
  unfold chkQ at h
  rw [Bool.and_eq_true, Bool.and_eq_true, Bool.and_eq_true, decide_eq_true_iff, decide_eq_true_iff, decide_eq_true_iff, List.isEmpty_iff] at h
  exact ⟨h.1, h.2.1, h.2.2.1, h.2.2.2⟩
theorem pq_lim {n : Nat} (h1 : 1 ≤ n) (h5 : n ≤ 5) {k : Nat} (hk : k ≤ 5) : Lim (pqM n k) := by
  obtain ⟨a, b, c, d⟩ := pq_ok h1 h5 hk
  exact lim_of a (by rw [b]; rfl) c
theorem pq_end1 : (pqM ((1 : Nat) : Int) 1).l = [slOf (termE 9 1)] := by kernel_rfl
theorem pq_end2 : (pqM ((2 : Nat) : Int) 2).l = [slOf (termE 9 1)] := by kernel_rfl
theorem pq_end3 : (pqM ((3 : Nat) : Int) 3).l = [slOf (termE 9 1)] := by kernel_rfl
theorem pq_end4 : (pqM ((4 : Nat) : Int) 4).l = [slOf (termE 9 1)] := by kernel_rfl
theorem pq_end5 : (pqM ((5 : Nat) : Int) 5).l = [slOf (termE 9 1)] := by kernel_rfl
theorem pq_end {n : Nat} (h1 : 1 ≤ n) (h5 : n ≤ 5) : (pqM n n).l = [slOf (termE 9 1)] := by
  have : n = 1 ∨ n = 2 ∨ n = 3 ∨ n = 4 ∨ n = 5 := by omega
  rcases this with rfl | rfl | rfl | rfl | rfl
  · exact pq_end1
  · exact pq_end2
  · exact pq_end3
  · exact pq_end4
  · exact pq_end5
theorem lim_with {q : Pp} (h : Lim q) (l : List Sl) : Lim (withL q l) := ⟨h.lo, h.hi, h.best, h.next⟩
/-- What was heard so far: who was seen, the slot, how often it was told. -/
structure MjI (m : Int) (seen : List Int) (x : Sl) (told : Int) : Prop where
  slot : x.e.slot = 1
  no : x.most = false → x.who = seen ∧ (seen.length : Int) < m ∧ told = 0
  yes : x.most = true → m ≤ (seen.length : Int) ∧ told = 1
theorem MjI.told01 {m : Int} {seen : List Int} {x : Sl} {told : Int} (h : MjI m seen x told) : 0 ≤ told ∧ told ≤ 1 := by
  cases hm : x.most with
  | true => have := (h.yes hm).2; omega
  | false => have := (h.no hm).2.2; omega
def seenM (n : Int) (seen : List Int) (who : Int) : List Int := if 0 ≤ who ∧ who < n ∧ who ∉ seen then seen ++ [who] else seen
theorem mj_step {m : Int} {seen : List Int} {x : Sl} {told : Int} (h : MjI m seen x told) (q : Pp) (who : Int) :
    ∃ (x' : Sl) (b : Bool), accP m (withL q [x]) who 1 = (withL q [x'], b) ∧ ((b = true ∧ ((seenM q.n seen who).length : Int) = m ∧ MjI m (seenM q.n seen who) x' (told + 1)) ∨ (b = false ∧ MjI m (seenM q.n seen who) x' told)) := by
  unfold accP
  by_cases hv : who < 0 ∨ (withL q [x]).n ≤ who
  · rw [if_pos hv]
    have hv' : who < 0 ∨ q.n ≤ who := hv
    have e : seenM q.n seen who = seen := by unfold seenM; rw [if_neg (fun h2 => by obtain ⟨a, b, _⟩ := h2; omega)]
    rw [e]
    exact ⟨x, false, rfl, Or.inr ⟨rfl, h⟩⟩
  · rw [if_neg hv]
    have hv' : 0 ≤ who ∧ who < q.n := by
      have h2 : ¬ (who < 0 ∨ q.n ≤ who) := hv
      omega
    show ∃ x' b, ((⟨q.n, q.b, q.f, q.who, q.best, q.is, q.vals, q.next, (accL m 1 who [x]).1⟩ : Pp), (accL m 1 who [x]).2) = (withL q [x'], b) ∧ _
    by_cases hc : x.e.slot ≠ 1 ∨ x.most = true ∨ who ∈ x.who
    · have ea : accL m 1 who [x] = ([x], false) := by
        unfold accL
        rw [if_pos hc]
        rfl
      rw [ea]
      cases hm : x.most with
      | true =>
        obtain ⟨y1, y2⟩ := h.yes hm
        have hl : seen.length ≤ (seenM q.n seen who).length := by unfold seenM; split <;> simp
        exact ⟨x, false, rfl, Or.inr ⟨rfl, h.slot, (fun h2 => by rw [hm] at h2; cases h2), fun _ => ⟨by omega, y2⟩⟩⟩
      | false =>
        obtain ⟨y1, y2, y3⟩ := h.no hm
        have hin : who ∈ seen := by
          rcases hc with h1 | h1 | h1
          · exact absurd h.slot h1
          · rw [hm] at h1; cases h1
          · rw [← y1]; exact h1
        have e : seenM q.n seen who = seen := by unfold seenM; rw [if_neg (fun h2 => h2.2.2 hin)]
        rw [e]
        exact ⟨x, false, rfl, Or.inr ⟨rfl, h⟩⟩
    · have ea : accL m 1 who [x] = ([⟨x.e, x.who ++ [who], decide (m ≤ (x.who.length : Int) + 1)⟩], decide (m ≤ (x.who.length : Int) + 1)) := by
        unfold accL
        rw [if_neg hc]
      have hm : x.most = false := by
        cases hx : x.most with
        | false => rfl
        | true => exact absurd (Or.inr (Or.inl hx)) hc
      obtain ⟨y1, y2, y3⟩ := h.no hm
      have hn : who ∉ seen := fun h2 => hc (Or.inr (Or.inr (by rw [y1]; exact h2)))
      have e : seenM q.n seen who = seen ++ [who] := by unfold seenM; rw [if_pos ⟨hv'.1, hv'.2, hn⟩]
      rw [ea, e, y1]
      have hl : ((seen ++ [who]).length : Int) = (seen.length : Int) + 1 := by simp
      by_cases hd : m ≤ (seen.length : Int) + 1
      · rw [decide_eq_true hd]
        exact ⟨⟨x.e, seen ++ [who], true⟩, true, rfl, Or.inl ⟨rfl, by omega, h.slot, (fun h2 => by cases h2), fun _ => ⟨by omega, by omega⟩⟩⟩
      · rw [decide_eq_false hd]
        exact ⟨⟨x.e, seen ++ [who], false⟩, false, rfl, Or.inr ⟨rfl, h.slot, (fun _ => ⟨rfl, by omega, y3⟩), fun h2 => by cases h2⟩⟩
def arS (seen : List Int) : Array Value := #[.bool (decide ((0 : Int) ∈ seen)), .bool (decide ((1 : Int) ∈ seen)), .bool (decide ((2 : Int) ∈ seen)), .bool (decide ((3 : Int) ∈ seen)), .bool (decide ((4 : Int) ∈ seen))]
theorem arS_get (seen : List Int) {k : Nat} (hk : k < 5) : (arS seen)[k]? = some (.bool (decide ((k : Int) ∈ seen))) := by
  have : k = 0 ∨ k = 1 ∨ k = 2 ∨ k = 3 ∨ k = 4 := by omega
  rcases this with rfl | rfl | rfl | rfl | rfl <;> rfl
theorem arS_set (seen : List Int) {k : Nat} (hk : k < 5) : (arS seen).setIfInBounds k (.bool true) = arS (seen ++ [(k : Int)]) := by
  have : k = 0 ∨ k = 1 ∨ k = 2 ∨ k = 3 ∨ k = 4 := by omega
  rcases this with rfl | rfl | rfl | rfl | rfl <;> simp [arS]
set_option maxHeartbeats 12800000 in
set_option maxRecDepth 100000 in
theorem maj_walk (w : World) (n : Int) (v : Value) (xs : List Int) (hv : RowAt intC w v xs) (hlo : ∀ x ∈ xs, okI x) :
    Calls Try.prog 5 #[.int .i64 n, v] w fun e w' => e = .returned (.bool true) ∧ Below w.heap.size w w' := by
  obtain ⟨nn, hnn, h1, h5⟩ : ∃ nn : Nat, max 1 (min n 5) = (nn : Int) ∧ 1 ≤ nn ∧ nn ≤ 5 := ⟨(max 1 (min n 5)).toNat, by omega, by omega, by omega⟩
  obtain ⟨a, cap, rfl⟩ := hv.form
  obtain ⟨B, hB⟩ : ∃ B, B = w.heap.size := ⟨_, rfl⟩
  have q0 := pnewX_any w (nn : Int) 9 1
  have HBE : Hid (B = w.heap.size) := hB
  have HA : Hid _ := hv
  have HLO : Hid _ := hlo
  have H15 : Hid (1 ≤ nn ∧ nn ≤ 5) := ⟨h1, h5⟩
  obtain ⟨m, hm⟩ : ∃ m, m = maR (nn : Int) := ⟨_, rfl⟩
  have HM : Hid (m = maR (nn : Int)) := hm
  have HMJ : Hid (∀ y, Calls Try.prog 24 #[.int .i64 (nn : Int)] y fun e w' => e = .returned (.int .i64 m) ∧ y = w') := fun y => by rw [hm]; exact rmaj_any (nn : Int) (by omega) y
  rw [← hB]
  clear hv hlo hB hm h1
  go_enter Try.func5, Try.ntmps5
  go_wp2_with (go_at_call 9; refine q0.mono ?_; rintro r w1 ⟨X, S0, rfl, p1, b1⟩; have P1 : Hid _ := p1; have B1 : Hid _ := b1; rw [← HBE.out] at P1 B1; clear p1 b1)
  clear q0 hnn
  go_loopw [6] (fun i wr => ∃ (k : Nat) (S : Nat → Prop), k ≤ nn ∧ i = .int .i64 k ∧ Hid (PS wr B X S (pqM nn k)) ∧ Hid (Below B w wr)) (fun i _ => nn - (intOf i).toNat)
  case atStart => exact ⟨0, S0, Nat.zero_le _, rfl, P1, B1⟩
  case round =>
    clear P1 B1
    obtain ⟨k, S, hk, rfl, PR, BR⟩ := hrel
    have HBw : Hid (B ≤ wr.heap.size) := by
      have a1 := (PR.out.bd X PR.out.inX).1
      have a2 := (PR.out.bd X PR.out.inX).2
      show B ≤ _
      omega
    by_cases hkl : k < nn
    · have t0 : decide ((k : Int) < (nn : Int)) = true := decide_eq_true (by omega)
      obtain ⟨bb, HP⟩ : ∃ bb, Hid (Calls Try.prog 11 #[.pointer (some ⟨X, 0, none⟩), .int .i64 (k : Int), .slice none 0 0] wr (PPost wr B X S (pqM nn (k + 1)) (.bool bb))) := by
        have a := pq_ok H15.out.1 H15.out.2 (k := k) (by omega)
        have := pprom_any PR.out (pq_lim H15.out.1 H15.out.2 (by omega)) (by rw [a.2.2.2]; omega) (k : Int) ⟨by omega, by omega⟩ [] (.slice none 0 0) (RowAt.nil _) (by decide) (fun e he => by cases he) (fun _ _ _ _ _ e => by cases e)
        rw [a.2.2.2] at this
        exact ⟨_, this⟩
      clear HMJ
      go_wp2_with (go_at_call 11; refine Calls.mono HP.out ?_; rintro r w2 ⟨S2, rfl, p2, k2⟩; have P2 : Hid _ := p2; have B2 : Hid (Below B w w2) := BR.out.trans (k2.low HBw.out (fun b hb => (PR.out.bd b hb).1)); clear p2 k2)
      go_roundw
      case rel => exact ⟨k + 1, S2, hkl, by go_num, P2, B2⟩
      case measure => simp [intOf]; omega
    · have hke : k = nn := by omega
      subst hke
      have t0 : decide ((k : Int) < (k : Int)) = false := decide_eq_false (by omega)
      have t1 : ¬ (k : Int) < (k : Int) := by omega
      obtain ⟨Q, hQ⟩ : ∃ Q, Q = pqM k k := ⟨_, rfl⟩
      have HQ : Hid (Q = pqM k k) := hQ
      have HQn : Hid (Q.n = (k : Int)) := by show Q.n = _; rw [hQ]; exact (pq_ok H15.out.1 H15.out.2 H15.out.2).2.2.2
      obtain ⟨W, hW⟩ : ∃ W, W = wr.alloc (.cells #[.bool false, .bool false, .bool false, .bool false, .bool false] 51) := ⟨_, rfl⟩
      obtain ⟨A, hA⟩ : ∃ A, A = wr.heap.size := ⟨_, rfl⟩
      have bW : Below wr.heap.size wr W := by rw [hW]; exact (Below.refl _ _).alloc (Nat.le_refl _) _
      have PW : Hid (PS W B X S (withL Q [slOf (termE 9 1)])) := by
        have e : withL Q [slOf (termE 9 1)] = pqM k k := by
          rw [← pq_end H15.out.1 H15.out.2, hQ]
          rfl
        show PS W B X S _
        rw [e]
        exact PR.out.fresh bW
      have AW : Hid (W.heap[A]? = some (.cells (arS []) 51 (0, 0))) := by show _ = _; rw [hA, hW]; exact heap_alloc_new wr _
      have NW : Hid (¬ S A) := fun h => by have := (PR.out.bd A h).2; omega
      have BW : Hid (Below B w W) := bmm BR.out HBw.out bW
      have HAB : Hid (B ≤ A) := by show B ≤ A; rw [hA]; exact HBw.out
      have IW : Hid (MjI m [] (slOf (termE 9 1)) 0) := ⟨rfl, (fun _ => ⟨rfl, by rw [HM.out]; have := maR_pos (k : Int); simp; omega, rfl⟩), fun h => by cases h⟩
      have HW : Hid (wr.alloc (.cells #[.bool false, .bool false, .bool false, .bool false, .bool false] 51) = W) := hW.symm
      have HAS : Hid (wr.heap.size = A) := hA.symm
      clear PR BR HBw hW hA bW hQ hkl hk
      go_upto_region 10 with fail
      rw [HW.out, HAS.out]
      clear HW HAS
      go_wp2
      go_loopw [8, 9, 10, 11] (fun c t i _ wr => ∃ (j : Nat) (seen : List Int) (x : Sl) (told : Int) (S : Nat → Prop), j ≤ xs.length ∧ j ≤ 100 ∧ seen.length ≤ j ∧ i = .int .i64 j ∧ c = .int .i64 (seen.length : Int) ∧ t = .int .i64 told ∧ Hid (MjI m seen x told) ∧ Hid (PS wr B X S (withL Q [x])) ∧ Hid (wr.heap[A]? = some (.cells (arS seen) 51 (0, 0))) ∧ Hid (¬ S A) ∧ Hid (Below B w wr)) (fun _ _ i _ _ => xs.length - (intOf i).toNat)
      case atStart => exact ⟨0, [], slOf (termE 9 1), 0, S, Nat.zero_le _, Nat.zero_le _, Nat.le_refl _, rfl, rfl, rfl, IW, PW, AW, NW, BW⟩
      case round =>
        clear IW PW AW NW BW
        obtain ⟨j, seen, x, told, S, hj, hj2, hsl, rfl, rfl, rfl, HI, PR, AR, NA, BR⟩ := hrel
        obtain ⟨tl0, tl1⟩ := HI.out.told01
        have hAz := lt_of_block AR.out
        have HBw : Hid (B ≤ wr.heap.size) := by
          have a1 := (PR.out.bd X PR.out.inX).1
          have a2 := (PR.out.bd X PR.out.inX).2
          show B ≤ _
          omega
        by_cases hgo : j < xs.length ∧ j < 100
        · obtain ⟨hjl, hjm⟩ := hgo
          have q0 : decide ((j : Int) < (xs.length : Int)) = true := decide_eq_true (by omega)
          have q1 : decide ((j : Int) < (100 : Int)) = true := decide_eq_true (by omega)
          obtain ⟨bk, off, cp, e, _, hbk, hx⟩ := HA.out.cells intC_len (by omega)
          simp only [Value.slice.injEq] at e
          obtain ⟨rfl, _, rfl⟩ := e
          rw [← HBE.out] at hbk
          have z0' := (BR.out.cell (p := ⟨bk, off + j * 1, none⟩) (by exact hbk)).trans (hx j hjl 0 _ (by decide) rfl)
          rw [Nat.mul_one] at z0'
          have z0 : wr.cell? ⟨bk, off + j, none⟩ = some (.int .i64 xs[j]) := z0'
          have hok := HLO.out _ (List.getElem_mem hjl)
          clear hx z0'
          generalize xs[j] = y at *
          obtain ⟨x', b, ea, hb⟩ := mj_step HI.out Q y
          have HC : Hid (∀ wX, PS wX B X S (withL Q [x]) → Calls Try.prog 13 #[.pointer (some ⟨X, 0, none⟩), .int .i64 y, .int .i64 1] wX (PPost wX B X S (withL Q [x']) (.bool b))) := fun wX h => by
            have hl : Lim (withL Q [x]) := lim_with (by rw [HQ.out]; exact pq_lim H15.out.1 H15.out.2 H15.out.2) _
            have e1 : (withL Q [x]).n = (k : Int) := HQn.out
            have := pacc_any h hl (by rw [e1]; omega) y 1 hok ⟨by decide, by decide⟩
            rw [e1, ← HM.out, ea] at this
            exact this
          have HE : Hid (∀ w1 w2 S2 sn, w1.heap[A]? = some (.cells (arS sn) 51 (0, 0)) → Below B w w1 → PS w1 B X S (withL Q [x]) → Kept w1 w2 S S2 → w2.heap[A]? = some (.cells (arS sn) 51 (0, 0)) ∧ ¬ S2 A ∧ Below B w w2) := fun w1 w2 S2 sn h1 h2 h3 k => by
            refine ⟨(k.kept A (lt_of_block h1) NA.out).trans h1, fun h4 => ?_, h2.trans (k.low ?_ (fun b hb => (h3.bd b hb).1))⟩
            · rcases k.old A h4 with h5 | h5
              · exact NA.out h5
              · have := lt_of_block h1
                omega
            · have a1 := (h3.bd X h3.inX).1
              have a2 := (h3.bd X h3.inX).2
              omega
          rw [HQn.out] at hb
          have HC1 : Hid _ := HC.out wr PR.out
          by_cases hy0 : 0 ≤ y
          · have p0 : decide (0 ≤ y) = true := decide_eq_true hy0
            by_cases hyn : y < (k : Int)
            · have p1 : decide (y < (k : Int)) = true := decide_eq_true hyn
              obtain ⟨d, rfl⟩ : ∃ d : Nat, y = (d : Int) := ⟨y.toNat, by omega⟩
              have hd5 : d < 5 := by omega
              have pn : d < k := by omega
              have p2 : decide (d < k) = true := decide_eq_true pn
              have i1 : (d : Int) < 5 := by omega
              have i2 : (0 : Int) ≤ (d : Int) := by omega
              have i3 : ((d : Int)).toNat = d := by omega
              have zd : wr.cell? ⟨A, d, none⟩ = some (.bool (decide ((d : Int) ∈ seen))) := by
                have := arS_get seen hd5
                simp only [World.cell?, AR.out]
                simpa using this
              by_cases hin : (d : Int) ∈ seen
              · have e : seenM (k : Int) seen (d : Int) = seen := by unfold seenM; rw [if_neg (fun h2 => h2.2.2 hin)]
                rw [e] at hb
                rw [decide_eq_true hin] at zd
                clear e hin hy0 hyn HC ea
                rcases hb with ⟨rfl, hcm, hI⟩ | ⟨rfl, hI⟩
                · have HI2 : Hid _ := hI
                  have hcm2 : (seen.length : Int) = m := hcm
                  have r1 : ((seen.length : Int) == m) = true := by rw [hcm2]; simp
                  have r2 : decide ((seen.length : Int) = m) = true := decide_eq_true hcm2
                  have r3 : ((seen.length : Int) != m) = false := by rw [hcm2]; simp
                  have HCM : Hid _ := hcm
                  clear hI hcm2 hcm
                  go_wp2_with (first | (go_at_call 24; refine Calls.mono (HMJ.out _) ?_; rintro r w3 ⟨rfl, hw3⟩; rw [← hw3]; clear hw3) | (go_at_call 13; refine Calls.mono HC1.out ?_; rintro r w2 ⟨S2, rfl, p2, k2⟩; have P2 : Hid _ := p2; have E2 : Hid _ := HE.out wr w2 S2 seen AR.out BR.out PR.out k2; clear p2 k2))
                  go_roundw
                  case rel => exact ⟨j + 1, seen, x', told + 1, S2, hjl, by omega, by first | omega | (simp; omega), by go_num, by first | rfl | (simp; done) | go_num, by first | rfl | go_num, HI2, P2, E2.out.1, E2.out.2.1, E2.out.2.2⟩
                  case measure => simp [intOf]; omega
                · have HI2 : Hid _ := hI
                  clear hI
                  go_wp2_with (first | (go_at_call 13; refine Calls.mono HC1.out ?_; rintro r w2 ⟨S2, rfl, p2, k2⟩; have P2 : Hid _ := p2; have E2 : Hid _ := HE.out wr w2 S2 seen AR.out BR.out PR.out k2; clear p2 k2))
                  go_roundw
                  case rel => exact ⟨j + 1, seen, x', told, S2, hjl, by omega, by first | omega | (simp; omega), by go_num, by first | rfl | (simp; done) | go_num, rfl, HI2, P2, E2.out.1, E2.out.2.1, E2.out.2.2⟩
                  case measure => simp [intOf]; omega
              · have e : seenM (k : Int) seen (d : Int) = seen ++ [(d : Int)] := by unfold seenM; rw [if_pos ⟨hy0, hyn, hin⟩]
                rw [e] at hb
                rw [decide_eq_false hin] at zd
                have fz : wr.frozen? ⟨A, d, none⟩ = false := by simp [World.frozen?, AR.out]
                obtain ⟨WS, hWS⟩ : ∃ WS, WS = wr.setCell ⟨A, d, none⟩ (.bool true) := ⟨_, rfl⟩
                have gs : ∀ g, g ≠ A → WS.heap[g]? = wr.heap[g]? := fun g hg => by rw [hWS]; exact heap_setCell_other _ _ _ _ hg
                have ASt : Hid (WS.heap[A]? = some (.cells (arS (seen ++ [(d : Int)])) 51 (0, 0))) := by
                  show _ = _
                  rw [hWS, heap_setCell_same wr A d _ _ _ AR.out, arS_set seen hd5]
                have PSt : Hid (PS WS B X S (withL Q [x])) := PR.out.keep fun g hg => gs g (fun e2 => NA.out (by rw [← e2]; exact hg))
                have BSt : Hid (Below B w WS) := by
                  have k0 : Kept wr WS (fun g => g = A) (fun g => g = A) := ⟨by rw [hWS]; rfl, by rw [hWS]; rfl, by rw [hWS]; rfl, by rw [hWS]; simp, fun _ hg => Or.inl hg, fun g _ hg => gs g hg⟩
                  refine BR.out.trans (k0.low HBw.out (fun b hb => ?_))
                  rw [hb]
                  exact HAB.out
                have HC2 : Hid (Calls Try.prog 13 #[.pointer (some ⟨X, 0, none⟩), .int .i64 (d : Int), .int .i64 1] (wr.setCell ⟨A, d, none⟩ (.bool true)) (PPost WS B X S (withL Q [x']) (.bool b))) := by
                  show Calls _ _ _ _ _
                  rw [← hWS]
                  exact HC.out WS PSt.out
                have hl2 : ((seen ++ [(d : Int)]).length : Int) = (seen.length : Int) + 1 := by simp
                have HL2 : Hid _ := hl2
                clear e hin hy0 hyn HC ea HC1 hWS gs hl2
                rcases hb with ⟨rfl, hcm, hI⟩ | ⟨rfl, hI⟩
                · have HI2 : Hid _ := hI
                  have hcm2 : ((seen.length : Int) + 1) = m := by rw [← HL2.out]; exact hcm
                  have r1 : (((seen.length : Int) + 1) == m) = true := by rw [hcm2]; simp
                  have r2 : decide (((seen.length : Int) + 1) = m) = true := decide_eq_true hcm2
                  have r3 : (((seen.length : Int) + 1) != m) = false := by rw [hcm2]; simp
                  have HCM : Hid _ := hcm
                  clear hI hcm2 hcm
                  go_wp2_with (first | (go_at_call 24; refine Calls.mono (HMJ.out _) ?_; rintro r w3 ⟨rfl, hw3⟩; rw [← hw3]; clear hw3) | (go_at_call 13; refine Calls.mono HC2.out ?_; rintro r w2 ⟨S2, rfl, p2, k2⟩; have P2 : Hid _ := p2; have E2 : Hid _ := HE.out WS w2 S2 (seen ++ [(d : Int)]) ASt.out BSt.out PSt.out k2; clear p2 k2))
                  go_roundw
                  case rel => exact ⟨j + 1, (seen ++ [(d : Int)]), x', told + 1, S2, hjl, by omega, by first | omega | (simp; omega), by go_num, by first | rfl | (simp; done) | go_num, by first | rfl | go_num, HI2, P2, E2.out.1, E2.out.2.1, E2.out.2.2⟩
                  case measure => simp [intOf]; omega
                · have HI2 : Hid _ := hI
                  clear hI
                  go_wp2_with (first | (go_at_call 13; refine Calls.mono HC2.out ?_; rintro r w2 ⟨S2, rfl, p2, k2⟩; have P2 : Hid _ := p2; have E2 : Hid _ := HE.out WS w2 S2 (seen ++ [(d : Int)]) ASt.out BSt.out PSt.out k2; clear p2 k2))
                  go_roundw
                  case rel => exact ⟨j + 1, (seen ++ [(d : Int)]), x', told, S2, hjl, by omega, by first | omega | (simp; omega), by go_num, by first | rfl | (simp; done) | go_num, rfl, HI2, P2, E2.out.1, E2.out.2.1, E2.out.2.2⟩
                  case measure => simp [intOf]; omega
            · have p1 : decide (y < (k : Int)) = false := decide_eq_false hyn
              have e : seenM (k : Int) seen y = seen := by unfold seenM; rw [if_neg (fun h2 => hyn h2.2.1)]
              rw [e] at hb
              clear e hy0 hyn HC ea
              rcases hb with ⟨rfl, hcm, hI⟩ | ⟨rfl, hI⟩
              · have HI2 : Hid _ := hI
                have hcm2 : (seen.length : Int) = m := hcm
                have r1 : ((seen.length : Int) == m) = true := by rw [hcm2]; simp
                have r2 : decide ((seen.length : Int) = m) = true := decide_eq_true hcm2
                have r3 : ((seen.length : Int) != m) = false := by rw [hcm2]; simp
                have HCM : Hid _ := hcm
                clear hI hcm2 hcm
                go_wp2_with (first | (go_at_call 24; refine Calls.mono (HMJ.out _) ?_; rintro r w3 ⟨rfl, hw3⟩; rw [← hw3]; clear hw3) | (go_at_call 13; refine Calls.mono HC1.out ?_; rintro r w2 ⟨S2, rfl, p2, k2⟩; have P2 : Hid _ := p2; have E2 : Hid _ := HE.out wr w2 S2 seen AR.out BR.out PR.out k2; clear p2 k2))
                go_roundw
                case rel => exact ⟨j + 1, seen, x', told + 1, S2, hjl, by omega, by first | omega | (simp; omega), by go_num, by first | rfl | (simp; done) | go_num, by first | rfl | go_num, HI2, P2, E2.out.1, E2.out.2.1, E2.out.2.2⟩
                case measure => simp [intOf]; omega
              · have HI2 : Hid _ := hI
                clear hI
                go_wp2_with (first | (go_at_call 13; refine Calls.mono HC1.out ?_; rintro r w2 ⟨S2, rfl, p2, k2⟩; have P2 : Hid _ := p2; have E2 : Hid _ := HE.out wr w2 S2 seen AR.out BR.out PR.out k2; clear p2 k2))
                go_roundw
                case rel => exact ⟨j + 1, seen, x', told, S2, hjl, by omega, by first | omega | (simp; omega), by go_num, by first | rfl | (simp; done) | go_num, rfl, HI2, P2, E2.out.1, E2.out.2.1, E2.out.2.2⟩
                case measure => simp [intOf]; omega
          · have p0 : decide (0 ≤ y) = false := decide_eq_false hy0
            have e : seenM (k : Int) seen y = seen := by unfold seenM; rw [if_neg (fun h2 => hy0 h2.1)]
            rw [e] at hb
            clear e hy0 HC ea
            rcases hb with ⟨rfl, hcm, hI⟩ | ⟨rfl, hI⟩
            · have HI2 : Hid _ := hI
              have hcm2 : (seen.length : Int) = m := hcm
              have r1 : ((seen.length : Int) == m) = true := by rw [hcm2]; simp
              have r2 : decide ((seen.length : Int) = m) = true := decide_eq_true hcm2
              have r3 : ((seen.length : Int) != m) = false := by rw [hcm2]; simp
              have HCM : Hid _ := hcm
              clear hI hcm2 hcm
              go_wp2_with (first | (go_at_call 24; refine Calls.mono (HMJ.out _) ?_; rintro r w3 ⟨rfl, hw3⟩; rw [← hw3]; clear hw3) | (go_at_call 13; refine Calls.mono HC1.out ?_; rintro r w2 ⟨S2, rfl, p2, k2⟩; have P2 : Hid _ := p2; have E2 : Hid _ := HE.out wr w2 S2 seen AR.out BR.out PR.out k2; clear p2 k2))
              go_roundw
              case rel => exact ⟨j + 1, seen, x', told + 1, S2, hjl, by omega, by first | omega | (simp; omega), by go_num, by first | rfl | (simp; done) | go_num, by first | rfl | go_num, HI2, P2, E2.out.1, E2.out.2.1, E2.out.2.2⟩
              case measure => simp [intOf]; omega
            · have HI2 : Hid _ := hI
              clear hI
              go_wp2_with (first | (go_at_call 13; refine Calls.mono HC1.out ?_; rintro r w2 ⟨S2, rfl, p2, k2⟩; have P2 : Hid _ := p2; have E2 : Hid _ := HE.out wr w2 S2 seen AR.out BR.out PR.out k2; clear p2 k2))
              go_roundw
              case rel => exact ⟨j + 1, seen, x', told, S2, hjl, by omega, by first | omega | (simp; omega), by go_num, by first | rfl | (simp; done) | go_num, rfl, HI2, P2, E2.out.1, E2.out.2.1, E2.out.2.2⟩
              case measure => simp [intOf]; omega
        · have hq : (j < xs.length ∧ decide ((j : Int) < (xs.length : Int)) = true ∧ decide ((j : Int) < (100 : Int)) = false) ∨ (¬ j < xs.length ∧ decide ((j : Int) < (xs.length : Int)) = false) := by
            by_cases h6 : j < xs.length
            · exact Or.inl ⟨h6, decide_eq_true (by omega), decide_eq_false (by omega)⟩
            · exact Or.inr ⟨h6, decide_eq_false (by omega)⟩
          cases hmo : x.most with
          | true =>
            obtain ⟨y1, y2⟩ := HI.out.yes hmo
            subst y2
            have c1 : decide (m ≤ (seen.length : Int)) = true := decide_eq_true y1
            clear y1 hmo hgo
            rcases hq with ⟨hjl, q0, q1⟩ | ⟨hjl, q0⟩
            · go_wp2_with (first | (go_at_call 8; refine (awake_any _).mono ?_; rintro r w9 ⟨rfl, b9⟩) | (go_at_call 24; refine Calls.mono (HMJ.out _) ?_; rintro r w3 ⟨rfl, hw3⟩; rw [← hw3]; clear hw3))
              go_ret
              exact ⟨rfl, bmm BR.out HBw.out b9⟩
            · go_wp2_with (first | (go_at_call 8; refine (awake_any _).mono ?_; rintro r w9 ⟨rfl, b9⟩) | (go_at_call 24; refine Calls.mono (HMJ.out _) ?_; rintro r w3 ⟨rfl, hw3⟩; rw [← hw3]; clear hw3))
              go_ret
              exact ⟨rfl, bmm BR.out HBw.out b9⟩
          | false =>
            obtain ⟨_, y1, y2⟩ := HI.out.no hmo
            subst y2
            have c1 : decide (m ≤ (seen.length : Int)) = false := decide_eq_false (by omega)
            clear y1 hmo hgo
            rcases hq with ⟨hjl, q0, q1⟩ | ⟨hjl, q0⟩
            · go_wp2_with (first | (go_at_call 8; refine (awake_any _).mono ?_; rintro r w9 ⟨rfl, b9⟩) | (go_at_call 24; refine Calls.mono (HMJ.out _) ?_; rintro r w3 ⟨rfl, hw3⟩; rw [← hw3]; clear hw3))
              go_ret
              exact ⟨rfl, bmm BR.out HBw.out b9⟩
            · go_wp2_with (first | (go_at_call 8; refine (awake_any _).mono ?_; rintro r w9 ⟨rfl, b9⟩) | (go_at_call 24; refine Calls.mono (HMJ.out _) ?_; rintro r w3 ⟨rfl, hw3⟩; rw [← hw3]; clear hw3))
              go_ret
              exact ⟨rfl, bmm BR.out HBw.out b9⟩
end Go.Proofs.Ytmlgoecdefeapaa
