/-
  All files of both disks, byte by byte (latchkeylaw05.same): where both say the same it answers true, and nothing turns. The condition: at most 100 files.
-/
import Derived.Test.YtpbkpaendhpbfaaPlG
namespace Go.Proofs.Ytpbkpaendhpbfaa
open Go.RowKit Go.Sort

def baO (l : List UInt8) : ByteArray := ⟨l.toArray⟩
theorem baO_nB (n : ByteArray) : baO (nB n) = n := by
  unfold baO nB
  exact Lib.mk_data n
/-- The program's names, as a row of texts. -/
theorem fl_strs {w w' : World} {A : List CF} {v : Value} {ns : List ByteArray} (h : FlPost w w' A v) (hn : (A.map (·.name)).Nodup) (hs : ns.Pairwise (fun a b => ltN a b = true)) (hm : ∀ n, n ∈ ns ↔ n ∈ A.map (·.name)) : StrAt w' v ns ∧ Below w.heap.size w w' := by
  obtain ⟨acc, ss, p, cap, rfl, h1, h2, h3, h4⟩ := h
  have hnd : ns.Nodup := by
    rw [List.nodup_iff_pairwise_ne]
    exact hs.imp (fun hlt e => by rw [e, ltN_irr] at hlt; cases hlt)
  have hp : ns.Perm (A.map (·.name)) := (List.perm_ext_iff_of_nodup hnd hn).2 hm
  have hp2 : (ns.map nB).Perm ss := by
    have e1 : (A.map (·.name)).map nB = A.map nmB := by rw [List.map_map]; rfl
    have h5 := hp.map nB
    rw [e1] at h5
    rw [h2]
    exact (h5.trans h1.symm).trans (List.mergeSort_perm _ _).symm
  have e : ss = ns.map nB := by
    refine (List.Perm.eq_of_pairwise (le := fun a b : List UInt8 => a ≤ b) (fun a b _ _ h1 h2 => List.le_antisymm h1 h2) ?_ ?_ hp2).symm
    · rw [List.pairwise_map]
      exact hs.imp (fun hlt => by
        rw [ltN_eq, decide_eq_true_eq] at hlt
        exact List.le_of_lt hlt)
    · rw [h2]
      have h6 := List.pairwise_mergeSort (le := fun x y : List UInt8 => decide (x ≤ y)) (fun a b c h1 h2 => by
        rw [decide_eq_true_eq] at *
        exact List.le_trans h1 h2) (fun a b => by
        rw [Bool.or_eq_true, decide_eq_true_eq, decide_eq_true_eq]
        exact List.le_total a b) acc
      exact h6.imp (fun h => by simpa using h)
  have hl : ss.length = ns.length := by rw [e, List.length_map]
  refine ⟨⟨⟨p, cap, by rw [hl], ?_⟩⟩, h3⟩
  rcases h4 with h4 | ⟨g, rfl, _, h5⟩
  · left
    rw [← hl, h4]
    rfl
  · by_cases h0 : ns.length = 0
    · exact Or.inl h0
    · refine Or.inr ⟨g, 0, rfl, ?_, fun j hj => ?_⟩
      · have := (h5 0 (by simp; omega)).1
        exact World.block_lt_of_cell? w' _ this
      · have h6 := (h5 j (by simp; omega)).1
        rw [h6]
        have h7 : ss.toArray[j]! = nB ns[j] := by
          subst e
          simp [hj]
        rw [h7]
        unfold encStr
        have h8 := baO_nB ns[j]
        unfold baO at h8
        rw [h8]
theorem Bis.fresh {w w' : World} {base Dx Dy : Nat} {A : List CF} {L : Look} {turns clock cnt : Nat} {ro : Nat → Option Nat} {S : Nat → Prop} (h : Bis w base Dx Dy A L turns clock cnt ro S) (k : Below w.heap.size w w') : Bis w' base Dx Dy A L turns clock cnt ro S := ⟨h.x.fresh k, h.y.fresh k, h.dj⟩
/-- What both have under a name, read and counted. -/
theorem both_read {base Dx Dy : Nat} {A : List CF} {L : Look} {turns clock cnt k : Nat} (hO : Ok A L turns clock cnt k) (hk : k ≤ 100) (hok : (∀ f ∈ A, FOk f) ∧ (A.map (·.c)).Nodup ∧ (A.map (·.name)).Nodup) (n : ByteArray) (hn : L n ≠ none) :
    ∃ (t : ByteArray) (c : Nat), ∀ (w : World) (ro : Nat → Option Nat) (S : Nat → Prop), Bis w base Dx Dy A L turns clock cnt ro S →
      (Calls Try.prog 29 #[.pointer (some ⟨Dx, 0, none⟩), .string n] w fun e w' => e = .returned (.tuple #[.string t, .int .i64 0]) ∧ w = w') ∧
      (Calls Try.prog 30 #[.pointer (some ⟨Dy, 0, none⟩), .string n] w fun e w' => e = .returned (.tuple #[.string t, .int .i64 0]) ∧ Below w.heap.size w w') ∧
      (Calls Try.prog 37 #[.pointer (some ⟨Dx, 0, none⟩), .string n] w fun e w' => e = .returned (.int .i64 (c : Int)) ∧ Below w.heap.size w w') ∧
      (Calls Try.prog 38 #[.pointer (some ⟨Dy, 0, none⟩), .string n] w fun e w' => e = .returned (.int .i64 (c : Int)) ∧ w = w') := by
  have hcn := hO.cn
  rcases hO.name n with ⟨_, h2⟩ | ⟨st, f, bs, hc, h1, h2, hM⟩
  · exact absurd h2 hn
  · have hF := hok.1 f (lk_mem h1).1
    have hlen := hM.len
    have hsz : n.size ≤ maxLen := by
      have h3 := hF.sz
      rw [(lk_mem h1).2] at h3
      unfold maxLen
      omega
    refine ⟨textOf f.bs, tot f.ps, fun w ro S hB => ⟨S_read hB.x n hsz f h1, ?_, (S_unsynced hB.x n hsz f h1).mono fun _ _ ⟨g1, g2⟩ => ⟨g1, by rw [g2]; exact ⟨rfl, rfl, rfl, Nat.le_refl _, fun _ _ => rfl⟩⟩, ?_⟩⟩
    · have h3 := rd_read hB.y (by omega) n bs h2 (by have := hF.mx; omega)
      rw [bytesR_eq, ← hM.by_] at h3
      exact h3
    · have h3 := rd_unsynced hB.y (by omega) n bs h2 (by have := hF.mx; omega)
      rw [uns_eq hM] at h3
      exact h3
set_option maxHeartbeats 3200000 in
set_option maxRecDepth 100000 in
theorem same_any (w : World) (base Dx Dy : Nat) (A : List CF) (L : Look) (turns clock cnt k0 : Nat) (ro : Nat → Option Nat) (S : Nat → Prop) (hB : Bis w base Dx Dy A L turns clock cnt ro S) (hO : Ok A L turns clock cnt k0) (hk0 : k0 ≤ 100) :
    Calls Try.prog 10 #[.pointer (some ⟨Dx, 0, none⟩), .pointer (some ⟨Dy, 0, none⟩)] w fun e w' => e = .returned (.bool true) ∧ Below w.heap.size w w' := by
  have hok := hB.x.ok
  have hcn := hO.cn
  have hla := hO.la
  have hfy := rd_files hB.y (by omega)
  have HR : Hid (∀ n, L n ≠ none → _) := fun n hn => both_read (base := base) (Dx := Dx) (Dy := Dy) hO hk0 hok n hn
  have HF : Hid (∀ w1, Below w.heap.size w w1 → Calls Try.prog 40 #[.pointer (some ⟨Dx, 0, none⟩)] w1 fun e w' => ∃ v, e = .returned v ∧ FlPost w1 w' A v) := fun w1 b => S_files (hB.x.fresh b) (by omega)
  have HM : Hid (∀ n, L n ≠ none ↔ n ∈ A.map (·.name)) := fun n => by
    obtain ⟨st, hc⟩ := hO.cp
    constructor
    · intro h1
      have h2 : lk A n ≠ none := fun e => h1 ((hc.no n).1 e)
      obtain ⟨f, hf⟩ := Option.ne_none_iff_exists'.1 h2
      exact List.mem_map.2 ⟨f, (lk_mem hf).1, (lk_mem hf).2⟩
    · intro h1 e
      obtain ⟨f, hf, rfl⟩ := List.mem_map.1 h1
      have := (hc.no f.name).2 e
      rw [lk_of_mem hok.2.2 f hf] at this
      cases this
  have HND : Hid ((A.map (·.name)).Nodup) := hok.2.2
  have HB : Hid _ := hB
  clear hB hO hok hla
  go_enter Try.func10, Try.ntmps10
  go_wp2_with (first
    | (go_at_call 22; refine (texts_any ns ns _ _ _ s2 t2 (by omega) true (by simp)).mono ?_; rintro e w3 ⟨rfl, b3⟩)
    | (go_at_call 40; refine (HF.out _ b1).mono ?_; rintro e w2 ⟨v2, rfl, f2⟩; obtain ⟨s2, b2⟩ := fl_strs f2 HND.out HS1.out (fun n => (HM1.out n).trans (HM.out n)); have t2 := t1.below b2; clear f2)
    | (go_at_call 39; refine hfy.mono ?_; rintro e w1 ⟨u1, ns, rfl, t1, s1, m1, l1, b1⟩; have HS1 : Hid _ := s1; have HM1 : Hid _ := m1; clear s1 m1))
  have t3 := t2.below b3
  obtain ⟨a, cap, rfl, ha⟩ := t3.ex
  have HA : Hid _ := ha
  have B03 : Below w.heap.size w w3 := bmm (bmm b1 b1.size b2) (Nat.le_trans b1.size b2.size) b3
  clear t1 t2 t3 s2 b1 b2 b3 ha HF HM HND HS1 hfy
  go_loopw [6] (fun i wr => ∃ k : Nat, k ≤ ns.length ∧ i = .int .i64 k ∧ Below w3.heap.size w3 wr) (fun i _ => ns.length - (intOf i).toNat)
  case atStart => exact ⟨0, Nat.zero_le _, rfl, Below.refl _ _⟩
  case round =>
    obtain ⟨k, hk, rfl, bel⟩ := hrel
    by_cases hkl : k < ns.length
    · rcases HA.out with h0 | ⟨bk, off, rfl, hbk, hc⟩
      · omega
      have hLn := (HM1.out ns[k]).1 (List.getElem_mem hkl)
      obtain ⟨t, c, hR⟩ := HR.out ns[k] hLn
      have z0 := (bel.cell (p := ⟨bk, off + k, none⟩) (by exact hbk)).trans (hc k hkl)
      obtain ⟨n, hnn⟩ : ∃ n, n = ns[k] := ⟨_, rfl⟩
      rw [← hnn] at hR z0
      have B0 := HB.out.fresh (bmm B03 B03.size bel)
      obtain ⟨w3', hw3⟩ : ∃ w3', w3' = w3 := ⟨_, rfl⟩
      rw [← hw3] at bel B03 hbk
      clear hnn hLn hc HA HR HM1
      go_wp2_with (first
        | (go_at_call 30; refine (hR _ _ _ B1).2.1.mono ?_; rintro e wb ⟨rfl, bb⟩; have B2 := B1.fresh bb; have z2 := (bb.cell (p := ⟨bk, off + k, none⟩) (by exact Nat.lt_of_lt_of_le hbk bel.size)).trans z0; clear B1)
        | (go_at_call 29; refine (hR _ _ _ B0).1.mono ?_; rintro e wa ⟨rfl, rfl⟩; have B1 := B0; clear B0))
      have bel3 : Below w3'.heap.size w3' wb := bmm bel bel.size bb
      have b3s : w3'.heap.size ≤ wb.heap.size := bel3.size
      have B3 := B2
      have z3 := z2
      clear B2 z2 z0 bb bel
      rw [hw3] at bel3 b3s hbk B03
      clear hw3 w3'
      refine wp_region_held_drew (S := (fun w' : World => w'.cell? ⟨bk, off + k, none⟩ = some (.string n))) (by kernel_rfl) ?_ (fun hHeld0 => ?_)
      · try dsimp only
        go_keep
      refine tk0 (.string t) (by kernel_rfl) (by kernel_rfl) (by kernel_rfl) (fun _ _ _ h => h) rfl (fun w hSw => by (try dsimp only at hSw); go_simp) (by assumption) ?_
      try simp only [Act.put, List.setIfInBounds_toArray, List.set_cons_zero, List.set_cons_succ]
      refine tk1 (.string t) (by kernel_rfl) (by kernel_rfl) (by kernel_rfl) (fun _ _ _ h => h) rfl (fun w hSw => by (try dsimp only at hSw); go_simp) (by assumption) ?_
      try simp only [Act.put, List.setIfInBounds_toArray, List.set_cons_zero, List.set_cons_succ]
      refine tk2 (.bool false) (by kernel_rfl) (by kernel_rfl) (by kernel_rfl) (fun _ _ _ h => h) rfl (fun w hSw => by (try dsimp only at hSw); go_simp) (by assumption) ?_
      try simp only [Act.put, List.setIfInBounds_toArray, List.set_cons_zero, List.set_cons_succ]
      refine tk3 (.bool false) (by kernel_rfl) (by kernel_rfl) (by kernel_rfl) (fun _ _ _ h => h) rfl (fun w hSw => by (try dsimp only at hSw); go_simp) (by assumption) ?_
      try simp only [Act.put, List.setIfInBounds_toArray, List.set_cons_zero, List.set_cons_succ]
      refine tk4 (.pointer (some ⟨Dx, 0, none⟩)) (by kernel_rfl) (by kernel_rfl) (by kernel_rfl) (fun _ _ _ h => h) rfl (fun w hSw => by (try dsimp only at hSw); go_simp) (by assumption) ?_
      try simp only [Act.put, List.setIfInBounds_toArray, List.set_cons_zero, List.set_cons_succ]
      refine tk5 (.slice (some ⟨bk, off, none⟩) ns.length cap) (by kernel_rfl) (by kernel_rfl) (by kernel_rfl) (fun _ _ _ h => h) rfl (fun w hSw => by (try dsimp only at hSw); go_simp) (by assumption) ?_
      try simp only [Act.put, List.setIfInBounds_toArray, List.set_cons_zero, List.set_cons_succ]
      refine tk6 (.int .i64 (k : Int)) (by kernel_rfl) (by kernel_rfl) (by kernel_rfl) (fun _ _ _ h => h) rfl (fun w hSw => by (try dsimp only at hSw); go_simp) (by assumption) ?_
      try simp only [Act.put, List.setIfInBounds_toArray, List.set_cons_zero, List.set_cons_succ]
      refine tk7 (.pointer (some ⟨bk, off + k, none⟩)) (by kernel_rfl) (by kernel_rfl) (by kernel_rfl) (fun _ _ _ h => h) rfl (fun w hSw => by (try dsimp only at hSw); go_simp) (by assumption) ?_
      try simp only [Act.put, List.setIfInBounds_toArray, List.set_cons_zero, List.set_cons_succ]
      refine tk8 (.string n) (by kernel_rfl) (by kernel_rfl) (by kernel_rfl) (fun _ _ _ h => h) rfl (fun w hSw => by (try dsimp only at hSw); go_simp) (by assumption) ?_
      try simp only [Act.put, List.setIfInBounds_toArray, List.set_cons_zero, List.set_cons_succ]
      refine tk10 (.pointer (some ⟨Dy, 0, none⟩)) (by kernel_rfl) (by kernel_rfl) (by kernel_rfl) (fun _ _ _ h => h) rfl (fun w hSw => by (try dsimp only at hSw); go_simp) (by assumption) ?_
      try simp only [Act.put, List.setIfInBounds_toArray, List.set_cons_zero, List.set_cons_succ]
      refine tk11 (.slice (some ⟨bk, off, none⟩) ns.length cap) (by kernel_rfl) (by kernel_rfl) (by kernel_rfl) (fun _ _ _ h => h) rfl (fun w hSw => by (try dsimp only at hSw); go_simp) (by assumption) ?_
      try simp only [Act.put, List.setIfInBounds_toArray, List.set_cons_zero, List.set_cons_succ]
      refine tk12 (.int .i64 (k : Int)) (by kernel_rfl) (by kernel_rfl) (by kernel_rfl) (fun _ _ _ h => h) rfl (fun w hSw => by (try dsimp only at hSw); go_simp) (by assumption) ?_
      try simp only [Act.put, List.setIfInBounds_toArray, List.set_cons_zero, List.set_cons_succ]
      refine tk13 (.pointer (some ⟨bk, off + k, none⟩)) (by kernel_rfl) (by kernel_rfl) (by kernel_rfl) (fun _ _ _ h => h) rfl (fun w hSw => by (try dsimp only at hSw); go_simp) (by assumption) ?_
      try simp only [Act.put, List.setIfInBounds_toArray, List.set_cons_zero, List.set_cons_succ]
      refine tk14 (.string n) (by kernel_rfl) (by kernel_rfl) (by kernel_rfl) (fun _ _ _ h => h) rfl (fun w hSw => by (try dsimp only at hSw); go_simp) (by assumption) ?_
      try simp only [Act.put, List.setIfInBounds_toArray, List.set_cons_zero, List.set_cons_succ]
      refine cl9 (by kernel_rfl) rfl (fun K hK => ?_)
      go_simp
      go_at_call 37
      refine (hR _ _ _ (B3.fresh (w' := wb.drew) ⟨rfl, rfl, rfl, Nat.le_refl _, fun _ _ => rfl⟩)).2.2.1.mono ?_
      rintro e w4 ⟨rfl, b4⟩
      have B4 := (B3.fresh (w' := wb.drew) ⟨rfl, rfl, rfl, Nat.le_refl _, fun _ _ => rfl⟩).fresh b4
      have z4 := (b4.cell (p := ⟨bk, off + k, none⟩) (by exact Nat.lt_of_lt_of_le hbk b3s)).trans z3
      refine hK.out _ _ ?_ (fun hHeld => ?_)
      · try dsimp only
        go_keep
      clear hK K
      try simp only [Act.put, List.setIfInBounds_toArray, List.set_cons_zero, List.set_cons_succ]
      refine cl15 (by kernel_rfl) rfl (fun K hK => ?_)
      go_simp
      go_at_call 38
      refine (hR _ _ _ B4).2.2.2.mono ?_
      rintro e w5 ⟨rfl, rfl⟩
      refine hK.out _ _ ?_ (fun hHeld => ?_)
      · try dsimp only
        go_keep
      clear hK K
      try simp only [Act.put, List.setIfInBounds_toArray, List.set_cons_zero, List.set_cons_succ]
      refine tk16 (.bool false) (by kernel_rfl) (by kernel_rfl) (by kernel_rfl) (fun _ _ _ h => h) rfl (fun w hSw => by (try dsimp only at hSw); go_simp) (by assumption) ?_
      try simp only [Act.put, List.setIfInBounds_toArray, List.set_cons_zero, List.set_cons_succ]
      refine tk17 (.bool false) (by kernel_rfl) (by kernel_rfl) (by kernel_rfl) (fun _ _ _ h => h) rfl (fun w hSw => by (try dsimp only at hSw); go_simp) (by assumption) ?_
      try simp only [Act.put, List.setIfInBounds_toArray, List.set_cons_zero, List.set_cons_succ]
      refine wpAnyH_done (by kernel_rfl) ?_ _
      go_wp2
      go_roundw
      case rel => exact ⟨k + 1, hkl, by go_num, (bel3.trans ((undrew b4).mono bel3.size))⟩
      case measure => simp [intOf]; omega
    · have hke : k = ns.length := by omega
      subst hke
      go_wp2
      go_ret
      exact ⟨rfl, bmm B03 B03.size bel⟩
end Go.Proofs.Ytpbkpaendhpbfaa
