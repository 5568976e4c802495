/-
  The slots of a row, gone over by a function: each once, rising. The condition: the row's slots are far from the ends of an int.
-/
import Derived.Test.YtmlgoecdefeapaaPPackI
import Derived.Test.YtmlgoecdefeapaaPPxMem
namespace Go.Proofs.Ytmlgoecdefeapaa
open Go.RowKit Go.Shelf

attribute [local go_sem] Oper.semAt_some

/-- k slots from s on. -/
def slotsF : Nat → Int → List Int
  | 0, _ => []
  | k + 1, s => s :: slotsF k (s + 1)
theorem slotsF_len : ∀ k s, (slotsF k s).length = k
  | 0, _ => rfl
  | k + 1, s => by rw [slotsF, List.length_cons, slotsF_len k]
theorem slotsF_add : ∀ (j k : Nat) (s : Int), slotsF (j + k) s = slotsF j s ++ slotsF k (s + j)
  | 0, k, s => by rw [Nat.zero_add]; simp [slotsF]
  | j + 1, k, s => by
    rw [show j + 1 + k = (j + k) + 1 by omega, slotsF, slotsF_add j k (s + 1), slotsF, List.cons_append]
    rw [show s + 1 + (j : Int) = s + ((j + 1 : Nat) : Int) by omega]
theorem slotsF_mem {x : Int} : ∀ {k : Nat} {s : Int}, x ∈ slotsF k s ↔ s ≤ x ∧ x < s + k
  | 0, s => by simp [slotsF]
  | k + 1, s => by
    rw [slotsF, List.mem_cons, slotsF_mem (k := k)]
    omega
set_option maxRecDepth 100000 in
set_option maxHeartbeats 2000000 in
theorem slots1_iters {w0 : World} {B : Nat} {a z : Int} {k : Nat} (hz : z = a + k) (ha : -4611686018427387904 ≤ a) (hz2 : z ≤ 4611686018427387904) (hB : w0.heap[B]? = some (.cells #[.int .i64 a, .int .i64 z] 59 (0, 0))) :
    Iters Try.prog 45 #[.pointer (some ⟨B, 0, none⟩)] (slotsF (k + 1) a) (fun b => b = B) w0 := by
  intro l J W S hJ hT hY h0
  refine (callsIn_wide (n := 3)).1 ?_
  refine callsIn_of_wp Try.func45 rfl trivial ?_ rfl
  simp only [Try.ntmps45, List.size_toArray, List.length_cons, List.length_nil, Nat.reduceAdd, Nat.reduceSub, Array.replicate_succ, Array.replicate_zero, List.push_toArray, List.append_toArray, List.nil_append, List.cons_append]
  obtain ⟨hB1, hB2, hB3⟩ := hT B rfl
  have bW := hB2.trans hB
  have c0 : W.cell? ⟨B, 0, none⟩ = some (.int .i64 a) := by simp [World.cell?, bW]
  gi_wp2
  gi_loopw [3] (fun i wr => ∃ (j : Nat) (S1 : Nat → Prop), j ≤ k ∧ i = .int .i64 (a + (j : Int)) ∧ J (slotsF j a) wr S1 ∧ Kept W wr S S1 ∧ wr.heap[B]? = some (.cells #[.int .i64 a, .int .i64 z] 59 (0, 0)) ∧ ¬ S1 B) (fun i _ => (z - intOf i).toNat)
  case atStart => exact ⟨0, S, Nat.zero_le _, by simp, h0, Kept.refl _ _, bW, hB3⟩
  case round =>
    obtain ⟨j, S1, hj, rfl, hJ1, hk1, b1, n1⟩ := hrel
    obtain ⟨fn, tmps, assign, body, hy, hR⟩ := hY (slotsF j a) (a + j) (slotsF (k - j) (a + j + 1)) wr S1 (by
      rw [show k + 1 = j + ((k - j) + 1) by omega, slotsF_add j, slotsF]) hJ1 (3 - 1)
    gi_wp2
    refine hR.mono ?_
    rintro e W3 ⟨rfl, S3, hJ3, hk3⟩
    have b3 := (hk3.kept B (lt_of_block b1) n1).trans b1
    have n3 : ¬ S3 B := fun h => by
      rcases hk3.old B h with h | h
      · exact n1 h
      · have := lt_of_block b1
        omega
    have c1 : W3.cell? ⟨B, 1, none⟩ = some (.int .i64 z) := by simp [World.cell?, b3]
    have k3 := hk1.trans hk3
    have e3 : slotsF j a ++ [a + (j : Int)] = slotsF (j + 1) a := by
      rw [slotsF_add j 1]
      rfl
    rw [e3] at hJ3
    have HK : Hid _ := k3
    have HB : Hid _ := b3
    have HJ : Hid _ := hJ3
    have HN : Hid _ := n3
    clear hk1 hk3 b1 b3 n1 n3 hJ1 hJ3 k3 e3 hR hy
    by_cases hj2 : j = k
    · have t1 : decide (a + (j : Int) < z) = false := decide_eq_false (by omega)
      have t2 : ¬ a + (j : Int) < z := by omega
      gi_wp2
      go_end0
      exact ⟨⟨_, rfl⟩, S3, by rw [← hj2]; exact HJ.out, HK.out⟩
    · have t1 : decide (a + (j : Int) < z) = true := decide_eq_true (by omega)
      have t2 : a + (j : Int) < z := by omega
      gi_wp2
      go_roundw
      case rel => exact ⟨j + 1, S3, by omega, by go_num, HJ.out, HK.out, HB.out, HN.out⟩
      case measure =>
        show (z - (a + (j : Int) + 1)).toNat < (z - (a + (j : Int))).toNat
        omega
end Go.Proofs.Ytmlgoecdefeapaa
