/-
  Package locks: those that wait, gone over from the front on. No condition.
-/
import Derived.Test.YtmfadmhbkgemmaaQGIterB
import Derived.Test.YtmfadmhbkgemmaaQLcFirst
import Derived.LaidEqlPtr
namespace Go.Proofs.Ytmfadmhbkgemmaa
open Go.RowKit Go.Shelf

attribute [local go_sem] Oper.semAt_some

theorem sizePlc : (Try.prog.info? 87).map (·.size) = some 5 := by kernel_rfl
theorem neq_same (w : World) (a : Addr) : (binOp .neq 85 (.pointer (some a)) (.pointer (some a))).run Try.prog w = .ok (.bool false) w := by
  obtain ⟨j, hj, _⟩ := Option.map_eq_some_iff.1 sizePlc
  have h : ∀ d : Nat, (Op.equalIn (d + 1) 85 (.pointer (some a)) (.pointer (some a))).run Try.prog w = .ok true w := fun d => by
    simp [Op.equalIn, run_underlying Try.underlying85, sizeOf, typeInfo, hj, run_sameAddr_same]
  simp only [binOp]
  simp [Op.equal, Op.maxDepth, h 9999]
theorem neq_other {w : World} {a b : Addr} {ca cb : Array Value} {ta tb : TypeId} (hne : a ≠ b) (ha : w.heap[a.block]? = some (.cells ca ta (0, 0))) (hb : w.heap[b.block]? = some (.cells cb tb (0, 0))) : (binOp .neq 85 (.pointer (some a)) (.pointer (some b))).run Try.prog w = .ok (.bool true) w := by
  obtain ⟨j, hj, hz0⟩ := Option.map_eq_some_iff.1 sizePlc
  have hz : j.size ≠ 0 := by omega
  have h : ∀ d : Nat, (Op.equalIn (d + 1) 85 (.pointer (some a)) (.pointer (some b))).run Try.prog w = .ok false w := fun d => by
    simp [Op.equalIn, run_underlying Try.underlying85, sizeOf, typeInfo, hj, hz, run_sameAddr_other w hne ha hb]
  simp only [binOp]
  simp [Op.equal, Op.maxDepth, h 9999]
/-- Which place of the ring a pointer names. -/
def posV (L : List (Nat × Wq)) : Value → Nat
  | .pointer (some a) => (L.map (·.1)).idxOf a.block
  | _ => 0
theorem posV_at {X : Nat} {L : List (Nat × Wq)} (hn : (L.map (·.1)).Nodup) (hX : X ∉ L.map (·.1)) {k ab ao : Nat} (hk : k ≤ L.length) (e : adL X L (k + 1) = (ab, ao)) : posV L (.pointer (some ⟨ab, ao, none⟩)) = k := by
  show (L.map (·.1)).idxOf ab = k
  by_cases hkl : k < L.length
  · have e1 : ab = (L.map (·.1))[k]'(by simpa using hkl) := by
      rw [List.getElem_map]
      simp only [adL, List.getElem?_eq_getElem hkl, Prod.mk.injEq] at e
      exact e.1.symm
    rw [e1]
    exact hn.idxOf_getElem k (by simpa using hkl)
  · have e2 : k = L.length := by omega
    rw [adL_end X L (by omega)] at e
    simp only [Prod.mk.injEq] at e
    rw [← e.1, List.idxOf_eq_length hX, List.length_map, e2]
set_option maxRecDepth 100000 in
set_option maxHeartbeats 4000000 in
theorem waiting_iters {w0 : World} {X : Nat} {T : Nat → Prop} {h : List Int} {wt : Bool} {q : List Wq} (I : LcAt w0 X T h wt q) :
    ItersB Try.prog 45 #[bPtr X] (fun y : Wq => .agg (lcWA y)) q T w0 := by
  intro y J W S hJ hT hY h0
  obtain ⟨H, P, L, hs, ps, M⟩ := I.ex
  have hql := M.ql
  have hX := hT X M.inX
  have c7 : W.cell? ⟨X, 7, none⟩ = some (pt2 (adL X L 1)) := (World.cell?_of_block (a := ⟨X, 7, none⟩) hX.2.1).trans (M.cell 7 _ rfl)
  have HM : Hid (LcM w0 X T h wt q H P L hs ps) := M
  have HT : Hid (∀ b, T b → W.heap[b]? = w0.heap[b]? ∧ ¬ S b) := fun b hb => (hT b hb).2
  have HZ : Hid (∀ b, T b → b < W.heap.size) := fun b hb => (hT b hb).1
  have H0 : Hid (J [] W S) := h0
  refine (callsIn_wide (n := 3)).1 ?_
  refine callsIn_of_wp Try.func45 rfl trivial ?_ rfl
  simp only [Try.ntmps45, List.size_toArray, List.length_cons, List.length_nil, Nat.reduceAdd, Nat.reduceSub, Array.replicate_succ, Array.replicate_zero, List.push_toArray, List.append_toArray, List.nil_append, List.cons_append]
  obtain ⟨a1, o1, e1⟩ : ∃ a1 o1, adL X L 1 = (a1, o1) := ⟨_, _, rfl⟩
  rw [e1] at c7
  have E1 : Hid (adL X L 1 = (a1, o1)) := e1
  clear M I hT hX h0 e1
  gi_wp2
  gi_loopw [4] (fun p wr => ∃ (k : Nat) (S1 : Nat → Prop) (ab ao : Nat), p = .pointer (some ⟨ab, ao, none⟩) ∧ k ≤ q.length ∧ Hid (adL X L (k + 1) = (ab, ao) ∧ J (q.take k) wr S1 ∧ Kept W wr S S1 ∧ ∀ b, T b → wr.heap[b]? = w0.heap[b]? ∧ ¬ S1 b)) (fun p _ => q.length - posV L p)
  case atStart => exact ⟨0, S, a1, o1, rfl, Nat.zero_le _, (show Hid _ from (⟨E1.out, H0.out, Kept.refl _ _, HT.out⟩ : _ ∧ _ ∧ _ ∧ _))⟩
  case round =>
    obtain ⟨k, S1, ab, ao, rfl, hk, HI⟩ := hrel
    have hkL : k ≤ L.length := by rw [HM.out.len]; exact hk
    by_cases hkl : k < q.length
    · have hkl2 : k < L.length := by rw [HM.out.len]; exact hkl
      obtain ⟨ea, hb, hne⟩ := HM.out.ring.node hkl2
      rw [HI.out.1] at ea
      simp only [Prod.mk.injEq] at ea
      obtain ⟨ea, rfl⟩ := ea
      rw [← ea] at hb hne
      have hSa : T ab := HM.out.inL (by rw [ea]; exact List.mem_map.2 ⟨L[k], List.getElem_mem hkl2, rfl⟩)
      have hb1 := (HI.out.2.2.2 ab hSa).1.trans hb
      have hxe : L[k].2 = q[k] := by
        have : (L.map (·.2))[k]? = q[k]? := by rw [HM.out.ql]
        rw [List.getElem?_map, List.getElem?_eq_getElem hkl2, List.getElem?_eq_getElem hkl] at this
        exact Option.some.inj this
      rw [hxe] at hb1
      obtain ⟨x, hx⟩ : ∃ x, x = q[k] := ⟨_, rfl⟩
      rw [← hx] at hb1
      obtain ⟨a2, o2, e2⟩ : ∃ a2 o2, adL X L (k + 1 + 1) = (a2, o2) := ⟨_, _, rfl⟩
      rw [show pbC X L (k + 1) = adL X L (k + 1 + 1) from rfl, e2] at hb1
      have z0 : wr.cell? ⟨ab, 0, none⟩ = some (.int .i64 x.s) := by simp [World.cell?, hb1]
      have z1 : wr.cell? ⟨ab, 1, none⟩ = some (.int .i64 x.n) := by simp [World.cell?, hb1]
      have z2 : wr.cell? ⟨ab, 2, none⟩ = some (.bool x.rd) := by simp [World.cell?, hb1]
      have hsp : q = q.take k ++ x :: q.drop (k + 1) := by
        rw [hx, List.getElem_cons_drop]
        exact (List.take_append_drop k q).symm
      have htk : q.take k ++ [x] = q.take (k + 1) := by
        rw [List.take_add_one, List.getElem?_eq_getElem hkl, hx]
        rfl
      obtain ⟨fn, tmps, assign, body, hy, hR⟩ := hY (q.take k) x (q.drop (k + 1)) wr S1 hsp HI.out.2.1 (fun b hb => (HI.out.2.2.2 b hb).1) (3 - 1)
      have HTK : Hid _ := htk
      have HKL : Hid (k < q.length ∧ L[k].1 = ab ∧ hkL = hkL) := (show Hid _ from (⟨hkl, ea.symm, rfl⟩ : _ ∧ _ ∧ _))
      have HB1 : Hid (wr.heap[ab]? = some (.cells (lcPA x (paC X L (k + 1)) (a2, o2)) lcPT (0, 0)) ∧ T ab) := (show Hid _ from (⟨hb1, hSa⟩ : _ ∧ _))
      have E2 : Hid (adL X L (k + 1 + 1) = (a2, o2)) := e2
      have HNE : Hid (ab ≠ X) := hne
      have hnq := neq_other (w := wr) (a := ⟨ab, 0, none⟩) (b := ⟨X, 3, none⟩) (fun e => by injection e with _ e; cases e) hb1 ((HI.out.2.2.2 X HM.out.inX).1.trans HM.out.ring.blk)
      clear hb hb1 hxe hx hsp htk e2 ea hSa hkl
      gi_wp2
      refine hR.mono ?_
      clear hR hy
      rintro e' W3 ⟨S3, k3, rfl, hJ3⟩
      have o3 : ∀ b, T b → W3.heap[b]? = w0.heap[b]? ∧ ¬ S3 b := fun b hb => by
        have hbl : b < wr.heap.size := Nat.lt_of_lt_of_le (HZ.out b hb) HI.out.2.2.1.size
        obtain ⟨q1, q2⟩ := HI.out.2.2.2 b hb
        refine ⟨(k3.kept b hbl q2).trans q1, fun h => ?_⟩
        rcases k3.old b h with h | h
        · exact q2 h
        · omega
      have nb3 := (k3.kept ab (lt_of_block HB1.out.1) (HI.out.2.2.2 ab HB1.out.2).2).trans HB1.out.1
      have z4 : W3.cell? ⟨ab, 4, none⟩ = some (.pointer (some ⟨a2, o2, none⟩)) := by simp [World.cell?, nb3]
      have hk3 : Kept W W3 S S3 := HI.out.2.2.1.trans k3
      have HJ3 : Hid (J (q.take (k + 1)) W3 S3 ∧ Kept W W3 S S3 ∧ ∀ b, T b → W3.heap[b]? = w0.heap[b]? ∧ ¬ S3 b) := (show Hid _ from (⟨by rw [← HTK.out]; exact hJ3, hk3, o3⟩ : _ ∧ _ ∧ _))
      have HPV : Hid (posV L (.pointer (some ⟨ab, 0, none⟩)) = k ∧ posV L (.pointer (some ⟨a2, o2, none⟩)) = k + 1) := (show Hid _ from (⟨posV_at HM.out.ring.nd HM.out.ring.nx hkL HI.out.1, posV_at HM.out.ring.nd HM.out.ring.nx (by rw [HM.out.len]; exact HKL.out.1) E2.out⟩ : _ ∧ _))
      clear hJ3 k3 o3 nb3 hk3 z0 z1 z2 hnq
      gi_wp2
      go_roundw
      case rel => exact ⟨k + 1, S3, a2, o2, rfl, HKL.out.1, (show Hid _ from (⟨E2.out, HJ3.out.1, HJ3.out.2.1, HJ3.out.2.2⟩ : _ ∧ _ ∧ _ ∧ _))⟩
      case measure =>
        rw [HPV.out.1, HPV.out.2]
        have := HKL.out.1
        omega
    · have e2 : k = q.length := by omega
      subst e2
      have ea := HI.out.1
      rw [adL_end X L (by have := HM.out.len; omega)] at ea
      simp only [Prod.mk.injEq] at ea
      obtain ⟨rfl, rfl⟩ := ea
      have hnq := neq_same wr ⟨X, 3, none⟩
      gi_wp2
      go_returns
      exact ⟨⟨_, rfl⟩, S1, HI.out.2.2.1, by have := HI.out.2.1; rwa [List.take_length] at this⟩
end Go.Proofs.Ytmfadmhbkgemmaa
