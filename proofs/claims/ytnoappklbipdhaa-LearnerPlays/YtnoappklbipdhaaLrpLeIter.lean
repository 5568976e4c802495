/-
  The entries that stand at the places from a slot on, gone over by the program's own generic function. The condition: the row's slots are an int's.
-/
import Derived.Test.YtnoappklbipdhaaLrpGIterS
import Derived.Test.YtnoappklbipdhaaLrpLeMem
import Derived.Test.YtnoappklbipdhaaLrpLePlain
namespace Go.Proofs.Ytnoappklbipdhaa
open Go.RowKit Go.Shelf

attribute [local go_sem] Oper.semAt_some

set_option maxHeartbeats 1000000 in
theorem row_any (w : World) (m : Option Nat) (s : Int) : Calls Try.prog 29 #[.map m, .int .i64 s] w fun e w' => e = .returned (.func (.func 33) #[] #[.pointer (some ⟨w.heap.size + 1, 0, none⟩), .pointer (some ⟨w.heap.size, 0, none⟩)]) ∧ Below w.heap.size w w' ∧
    w'.heap[w.heap.size]? = some (.cells #[.map m] 50 (0, 0)) ∧ w'.heap[w.heap.size + 1]? = some (.cells #[.int .i64 s] 3 (0, 0)) := by
  go_enter Try.func29, Try.ntmps29
  go_wp2
  go_ret
  have h2 := heap_alloc_new (w.alloc (.cells #[.map m] 50)) (.cells #[.int .i64 s] 3)
  rw [World.size_alloc] at h2
  exact ⟨rfl, ((Below.refl _ w).alloc (Nat.le_refl _) _).alloc (by simp) _, (Below.heap_alloc _ _ _ (by simp)).trans (heap_alloc_new w _), h2⟩
theorem got_some {l : List (Int × En)} {s : Int} {e : En} (h : lookM l s = some e) : mKn.got l s = .agg (enA e) := by unfold MapOf.got; rw [h]
theorem got_none {l : List (Int × En)} {s : Int} (h : lookM l s = none) : mKn.got l s = .agg (enA En.zero) := by unfold MapOf.got; rw [h]
set_option maxRecDepth 100000 in
set_option maxHeartbeats 4000000 in
theorem row_iters {w0 : World} {B1 B2 M : Nat} {s : Int} {l : List (Int × En)} {xs : List En} (hx : RowF (lookM l) s xs) (hs : -9223372036854775808 ≤ s ∧ s ≤ MXi) (h1 : w0.heap[B1]? = some (.cells #[.int .i64 s] 3 (0, 0))) (h2 : w0.heap[B2]? = some (.cells #[.map (some M)] 50 (0, 0))) (hM : mKn.At w0 M l) :
    ItersS Try.prog 33 #[.pointer (some ⟨B1, 0, none⟩), .pointer (some ⟨B2, 0, none⟩)] (fun e : En => .agg (enA e)) xs (fun b => b = B1 ∨ b = B2 ∨ b = M) w0 := by
  intro y J Jx W S hJ hJx hT hY h0
  refine (callsIn_wide (n := 3)).1 ?_
  refine callsIn_of_wp Try.func33 rfl trivial ?_ rfl
  simp only [Try.ntmps33, List.size_toArray, List.length_cons, List.length_nil, Nat.reduceAdd, Nat.reduceSub, Array.replicate_succ, Array.replicate_zero, List.push_toArray, List.append_toArray, List.nil_append, List.cons_append]
  obtain ⟨hB1, hB2, hB3⟩ := hT B1 (Or.inl rfl)
  have c1 : W.cell? ⟨B1, 0, none⟩ = some (.int .i64 s) := by simp [World.cell?, hB2.trans h1]
  have HW : Hid (∀ b, b = B1 ∨ b = B2 ∨ b = M → W.heap[b]? = w0.heap[b]? ∧ ¬ S b) := fun b hb => ⟨(hT b hb).2.1, (hT b hb).2.2⟩
  have H2 : Hid (w0.heap[B2]? = some (.cells #[.map (some M)] 50 (0, 0)) ∧ mKn.At w0 M l) := (show Hid _ from (⟨h2, hM⟩ : _ ∧ _))
  have HZ : Hid (∀ b, b = B1 ∨ b = B2 ∨ b = M → b < W.heap.size) := fun b hb => (hT b hb).1
  have HX : Hid _ := hx
  have HS : Hid _ := hs
  have H0 : Hid _ := h0
  clear h1 h2 hM hB1 hB2 hB3 hx hs h0
  gi_wp2
  gi_loopw [4] (fun p wr => ∃ (k : Nat) (S1 : Nat → Prop), p = .int .i64 (s + (k : Int)) ∧ k ≤ xs.length ∧ s + (k : Int) ≤ MXi ∧ Hid (J (xs.take k) wr S1 ∧ Kept W wr S S1 ∧ ∀ b, b = B1 ∨ b = B2 ∨ b = M → wr.heap[b]? = w0.heap[b]? ∧ ¬ S1 b)) (fun p _ => (s + (xs.length : Int) - intOf p).toNat)
  case atStart => exact ⟨0, S, by simp, Nat.zero_le _, by have := HS.out; simp; exact this.2, (show Hid _ from (⟨H0.out, Kept.refl _ _, HW.out⟩ : _ ∧ _ ∧ _))⟩
  case round =>
    obtain ⟨k, S1, rfl, hk, hmx, HI⟩ := hrel
    have hq2 := (HI.out.2.2 B2 (Or.inr (Or.inl rfl))).1.trans H2.out.1
    have c2 : wr.cell? ⟨B2, 0, none⟩ = some (.map (some M)) := by simp [World.cell?, hq2]
    have hin : inI (s + (k : Int)) := by have := HS.out; unfold inI; unfold MXi at *; omega
    have hlk := MapOf.look2 mKn_is (H2.out.2.keep (HI.out.2.2 M (Or.inr (Or.inr rfl))).1) hin
    clear hq2
    obtain ⟨q, hq⟩ : ∃ q, q = s + (k : Int) := ⟨_, rfl⟩
    have HQ : Hid (q = s + (k : Int)) := hq
    rw [← hq] at hlk ⊢
    cases hf : lookM l q with
    | none =>
      rw [hf, got_none hf] at hlk
      have hlk2 : (Instr.lookup 50 (.map (some M)) (.int .i64 q) true).run Try.prog wr = .ok (.tuple #[.agg (enA En.zero), .bool false]) wr := hlk
      have HK : Hid (k = xs.length) := by
        by_cases hkl : k < xs.length
        · have := HX.out.at' k hkl
          rw [← hq, hf] at this
          cases this
        · exact (by omega : k = xs.length)
      clear hlk hf hq hmx hin
      gi_wp2
      refine ⟨fun _ h => (by cases h), ?_⟩
      gi_wp2
      go_returns
      have b2 : Below wr.heap.size wr (wr.alloc (.cells (enA En.zero) 30)) := (Below.refl _ wr).alloc (Nat.le_refl _) _
      refine ⟨⟨_, rfl⟩, S1, HI.out.2.1.trans (Kept.of b2), Or.inl ?_⟩
      have := HI.out.1
      rw [HK.out, List.take_length] at this
      exact hJ.st _ _ _ _ this b2.size (fun b hb => b2.block b (hJ.lt _ _ _ this b hb))
    | some e =>
      rw [hf, got_some hf] at hlk
      have hlk2 : (Instr.lookup 50 (.map (some M)) (.int .i64 q) true).run Try.prog wr = .ok (.tuple #[.agg (enA e), .bool true]) wr := hlk
      have hkl : k < xs.length := by
        by_cases hkl : k < xs.length
        · exact hkl
        · have e1 : k = xs.length := by omega
          rcases HX.out.stop with h | ⟨_, h⟩
          · rw [← e1, ← hq, hf] at h
            cases h
          · rw [← e1] at h
            omega
      have hxe : xs[k] = e := by
        have := HX.out.at' k hkl
        rw [← hq, hf] at this
        exact (Option.some.inj this).symm
      have hsp : xs = xs.take k ++ e :: xs.drop (k + 1) := by
        rw [← hxe, List.getElem_cons_drop]
        exact (List.take_append_drop k xs).symm
      have htk : xs.take k ++ [e] = xs.take (k + 1) := by
        rw [List.take_add_one, List.getElem?_eq_getElem hkl, hxe]
        rfl
      have b2 : Below wr.heap.size wr (wr.alloc (.cells (enA e) 30)) := (Below.refl _ wr).alloc (Nat.le_refl _) _
      have hJ2 : J (xs.take k) (wr.alloc (.cells (enA e) 30)) S1 := hJ.st _ _ _ _ HI.out.1 b2.size (fun b hb => b2.block b (hJ.lt _ _ _ HI.out.1 b hb))
      have hTb : ∀ b, b = B1 ∨ b = B2 ∨ b = M → b < wr.heap.size := fun b hb => Nat.lt_of_lt_of_le (HZ.out b hb) HI.out.2.1.size
      obtain ⟨fn, tmps, assign, body, hy, hR⟩ := hY (xs.take k) e (xs.drop (k + 1)) _ S1 hsp hJ2 (fun b hb => (b2.block b (hTb b hb)).trans (HI.out.2.2 b hb).1) (3 - 1)
      have HTb : Hid _ := hTb
      have HB2 : Hid (Below wr.heap.size wr (wr.alloc (.cells (enA e) 30))) := b2
      have HTK : Hid _ := htk
      have HKL : Hid (k < xs.length) := hkl
      have HMX : Hid (s + (k : Int) ≤ MXi) := hmx
      clear hlk hxe hsp hJ2 htk hkl hmx hin b2 hf hq hTb
      by_cases hqm : q = MXi
      · have t1 : (q == 9223372036854775807) = true := by rw [hqm]; rfl
        have HQM : Hid (q = MXi) := hqm
        clear hqm
        gi_wp2
        refine hR.mono ?_
        clear hR hy
        rintro e' W3 ⟨S3, k3, (⟨rfl, hJ3⟩ | ⟨rfl, hJ3⟩)⟩
        · have HJ3 : Hid _ := hJ3
          have K3 : Hid _ := k3
          clear hJ3 k3
          gi_wp2
          go_returns
          refine ⟨⟨_, rfl⟩, S3, HI.out.2.1.trans ((Kept.of HB2.out).trans K3.out), Or.inl ?_⟩
          have h1 := HJ3.out
          rw [HTK.out] at h1
          have : k + 1 = xs.length := by
            by_cases hk2 : k + 1 < xs.length
            · have := HX.out.mx (k + 1) hk2
              have := HQM.out
              have := HQ.out
              omega
            · have := HKL.out
              omega
          rw [this, List.take_length] at h1
          exact h1
        · have HJ3 : Hid _ := hJ3
          have K3 : Hid _ := k3
          clear hJ3 k3
          gi_wp2
          go_returns
          exact ⟨⟨_, rfl⟩, S3, HI.out.2.1.trans ((Kept.of HB2.out).trans K3.out), Or.inr ⟨_, HJ3.out⟩⟩
      · have t1 : (q == 9223372036854775807) = false := by simp; exact hqm
        have hql : q < MXi := by have := HMX.out; have := HQ.out; omega
        have q1 : IntKind.i64.wrap (q + 1) = q + 1 := by rw [IntKind.wrap_i64]; have := HS.out; have := HQ.out; unfold MXi at *; omega
        have HQL : Hid (q < MXi) := hql
        clear hqm hql
        gi_wp2
        refine hR.mono ?_
        clear hR hy
        rintro e' W3 ⟨S3, k3, (⟨rfl, hJ3⟩ | ⟨rfl, hJ3⟩)⟩
        · have hz2 := HB2.out.size
          have o1 : ∀ b, b = B1 ∨ b = B2 ∨ b = M → W3.heap[b]? = w0.heap[b]? ∧ ¬ S3 b := fun b hb => by
            have hbl := HTb.out b hb
            obtain ⟨q1, q2⟩ := HI.out.2.2 b hb
            refine ⟨((k3.kept b (by omega) q2).trans (HB2.out.block b hbl)).trans q1, fun h => ?_⟩
            rcases k3.old b h with h | h
            · exact q2 h
            · omega
          have HJ3 : Hid (J (xs.take (k + 1)) W3 S3 ∧ Kept W W3 S S3 ∧ ∀ b, b = B1 ∨ b = B2 ∨ b = M → W3.heap[b]? = w0.heap[b]? ∧ ¬ S3 b) := (show Hid _ from (⟨by rw [← HTK.out]; exact hJ3, HI.out.2.1.trans ((Kept.of HB2.out).trans k3), o1⟩ : _ ∧ _ ∧ _))
          clear hJ3 k3 o1 hz2
          gi_wp2
          go_roundw
          case rel => exact ⟨k + 1, S3, by have := HQ.out; congr 1; omega, HKL.out, by have := HQL.out; have := HQ.out; omega, HJ3⟩
          case measure =>
            have := HKL.out
            have := HQ.out
            simp only [intOf]
            omega
        · have HJ3 : Hid _ := hJ3
          have K3 : Hid _ := k3
          clear hJ3 k3
          gi_wp2
          go_returns
          exact ⟨⟨_, rfl⟩, S3, HI.out.2.1.trans ((Kept.of HB2.out).trans K3.out), Or.inr ⟨_, HJ3.out⟩⟩
end Go.Proofs.Ytnoappklbipdhaa
