/-
  The document's disk (package latchkeyref05): a crash. The conditions: at most 100000 files, each with at most 4194304 bytes.
-/
import Derived.Test.YtkdglkaeglhibaaGreatDoorPRkG
namespace Go.Proofs.YtkdglkaeglhibaaGreatDoor
open Go.RowKit

theorem DkAt.bel {w w' : World} {base D : Nat} {l : List (Fl × Value)} {clock : Nat} {v : Value} (h : DkAt w base D l clock v) (b : Below w.heap.size w w') : DkAt w' base D l clock v :=
  ⟨(b.block D (lt_of_block h.bl)).trans h.bl, own_keep h.row (fun g e => b.block g (h.row.lt g e).2), fun p hp => own_keep (h.each p hp) (fun g e => b.block g ((h.each p hp).lt g e).2), h.lo, h.nD, h.eD, h.sep⟩
/-- While what is not sure is left out, file by file. -/
structure GInv (w wr : World) (base D : Nat) (l l2 : List (Fl × Value)) (clock : Nat) (v : Value) (i : Nat) : Prop where
  d : DkAt wr base D l2 clock v
  ln : l2.length = l.length
  nm : l2.map (·.1.name) = l.map (·.1.name)
  done : ∀ k (h1 : k < l2.length) (h2 : k < l.length), k < i → l2[k].1.bs = filtZ l[k].1.bs
  rest : ∀ k (h1 : k < l2.length) (h2 : k < l.length), i ≤ k → l2[k] = l[k]
  fr : CFr w wr l l2 v
theorem GInv.start {w : World} {base D : Nat} {l : List (Fl × Value)} {clock : Nat} {v : Value} (h : DkAt w base D l clock v) : GInv w w base D l l clock v 0 := ⟨h, rfl, rfl, fun _ _ _ h => by omega, fun _ _ _ _ => rfl, CFr.refl w l v⟩
theorem GInv.step {w wr w4 : World} {base D : Nat} {l l2 : List (Fl × Value)} {clock g cap i : Nat} {u : Value} (I : GInv w wr base D l l2 clock (.slice (some ⟨g, 0, none⟩) l2.length cap) i) (hi : i < l2.length) (b : Below wr.heap.size wr w4) (hr : w4.ownsRow wr.heap.size 70 2 u (filtZ l2[i].1.bs).length (bsL (filtZ l2[i].1.bs))) :
    GInv w (w4.setCell ⟨g, i * 2 + 1, none⟩ u) base D l (l2.set i (⟨l2[i].1.name, filtZ l2[i].1.bs⟩, u)) clock (.slice (some ⟨g, 0, none⟩) l2.length cap) (i + 1) := by
  have hD := lt_of_block I.d.bl
  have hg := (I.d.row.lt g rfl).2
  have hu : ∀ q, u.ownBlock = some q → wr.heap.size ≤ q := fun q e => (hr.lt q e).1
  have hbs : base ≤ wr.heap.size := Nat.le_trans I.d.lo (Nat.le_of_lt hD)
  have hs := (I.d.bel b).setval hi (own_mono hr hbs) (fun e => by have := hu D e; omega) (fun e => by have := hu g e; omega) (fun m hm _ q e1 e2 => by
    have h1 := hu q e1
    have h2 := ((I.d.each _ (List.getElem_mem hm)).lt q e2).2
    omega)
  refine ⟨hs, by rw [List.length_set]; exact I.ln, ?_, fun k h1 h2 h3 => ?_, fun k h1 h2 h3 => ?_, ?_⟩
  · rw [← I.nm, List.map_set]
    exact List.ext_getElem (by simp) (fun j h1 h2 => by
      rw [List.getElem_set]
      by_cases e : i = j
      · subst e
        simp
      · simp [e])
  · rw [List.getElem_set]
    by_cases e : i = k
    · subst e
      rw [if_pos rfl]
      have := I.rest i hi h2 (Nat.le_refl _)
      rw [this]
    · rw [if_neg e]
      exact I.done k (by simpa using h1) h2 (by omega)
  · rw [List.getElem_set, if_neg (by omega)]
    exact I.rest k (by simpa using h1) h2 (by omega)
  · refine ⟨b.os.trans I.fr.os, b.tape.trans I.fr.tape, b.output.trans I.fr.output, by have := I.fr.size; have := b.size; simp; omega, fun k hk hv hp => ?_, fun p hp q e => ?_⟩
    · rw [heap_setCell_other _ _ _ _ (by
        show k ≠ g
        rintro rfl
        exact hv rfl), b.block k (Nat.lt_of_lt_of_le hk I.fr.size)]
      exact I.fr.kept k hk hv hp
    · rcases set_mem hp with rfl | ⟨j, hj, _, rfl⟩
      · exact Or.inr (Nat.le_trans I.fr.size (hu q e))
      · exact I.fr.blk _ (List.getElem_mem hj) q e
theorem GInv.all {w wr : World} {base D : Nat} {l l2 : List (Fl × Value)} {clock : Nat} {v : Value} {i : Nat} (I : GInv w wr base D l l2 clock v i) (hi : l2.length ≤ i) : bsO l2 = (bsO l).map filtZ := by
  unfold bsO
  rw [List.map_map]
  refine List.ext_getElem (by simp [I.ln]) (fun k h1 h2 => ?_)
  simp only [List.getElem_map, Function.comp]
  exact I.done k (by simpa using h1) (by simpa using h2) (by simp at h1; omega)
theorem CFr.two {w w1 w2 : World} {l l1 l2 : List (Fl × Value)} {v : Value} (h : CFr w w1 l l1 v) (k : CFr w1 w2 l1 l2 v) (hv : l1.map (·.2) = l.map (·.2)) : CFr w w2 l l2 v := by
  have hm : ∀ p ∈ l1, ∃ q ∈ l, q.2 = p.2 := fun p hp => by
    have : p.2 ∈ l1.map (·.2) := List.mem_map.2 ⟨p, hp, rfl⟩
    rw [hv] at this
    obtain ⟨q, hq, e⟩ := List.mem_map.1 this
    exact ⟨q, hq, e⟩
  refine ⟨k.os.trans h.os, k.tape.trans h.tape, k.output.trans h.output, Nat.le_trans h.size k.size, fun b hb h1 h2 => ?_, fun p hp g e => ?_⟩
  · rw [k.kept b (Nat.lt_of_lt_of_le hb h.size) h1 (fun p hp e => by
      obtain ⟨q, hq, e2⟩ := hm p hp
      exact h2 q hq (by rw [e2]; exact e))]
    exact h.kept b hb h1 h2
  · rcases k.blk p hp g e with ⟨q, hq, e2⟩ | h1
    · exact h.blk q hq g e2
    · exact Or.inr (Nat.le_trans h.size h1)
theorem ZInv.cut {w w1 w2 : World} {base D : Nat} {l l1 l2 : List (Fl × Value)} {clock : Nat} {v : Value} {K0 i : Nat} (I : ZInv w w1 base D l l1 clock v K0 0) (J : GInv w1 w2 base D l1 l2 clock v i) (hi : l2.length ≤ i) : CPost w w2 base D l clock v K0 :=
  ⟨l2, J.d, J.nm.trans I.nm, I.cr _ (J.all hi), I.fr.two J.fr I.vl⟩
theorem ZInv.no {w w1 : World} {base D : Nat} {l l1 : List (Fl × Value)} {clock : Nat} {v : Value} {K0 K : Nat} (I : ZInv w w1 base D l l1 clock v K0 K) (h : allZ (bsO l1)) : CPost w w1 base D l clock v K0 :=
  ⟨l1, I.d, I.nm, I.cr _ (CR.all h), I.fr⟩
theorem bsO_len (l : List (Fl × Value)) : (bsO l).length = l.length := by unfold bsO; simp
theorem ln_at {l l2 : List (Fl × Value)} (h : (bsO l2).map List.length = (bsO l).map List.length) (hb : ∀ p ∈ l, p.1.bs.length ≤ 4194304) : l2.length = l.length ∧ ∀ p ∈ l2, p.1.bs.length ≤ 4194304 := by
  have h1 := congrArg List.length h
  rw [List.length_map, List.length_map, bsO_len, bsO_len] at h1
  refine ⟨h1, fun p hp => ?_⟩
  have h2 : p.1.bs.length ∈ (bsO l2).map List.length := List.mem_map.2 ⟨p.1.bs, List.mem_map.2 ⟨p, hp, rfl⟩, rfl⟩
  rw [h] at h2
  obtain ⟨bs, h3, h4⟩ := List.mem_map.1 h2
  obtain ⟨q, hq, rfl⟩ := List.mem_map.1 h3
  rw [← h4]
  exact hb q hq
theorem filt_snoc (bs : List BB) (k : Nat) (hk : k < bs.length) : filtZ (bs.take (k + 1)) = filtZ (bs.take k) ++ (if bs[k].2 = 0 then [bs[k]] else []) := by
  unfold filtZ
  rw [take_snoc bs k hk, List.filter_append]
  congr 1
  by_cases h : bs[k].2 = 0
  · simp [h]
  · simp [h]
theorem filt_len (bs : List BB) : (filtZ bs).length ≤ bs.length := List.length_filter_le _ _
theorem bsL_snoc2 (l : List BB) (b : BB) : bsL (l ++ [b]) = bsL l ++ [.int .u8 (b.1.toNat : Int), .int .i64 (b.2 : Int)] := by
  unfold bsL
  rw [List.flatMap_append]
  simp [bL]
/-- The byte found is made sure. -/
theorem ZInv.zero {w wr : World} {base D : Nat} {l l2 : List (Fl × Value)} {clock : Nat} {v : Value} {K0 K F k : Nat} (I : ZInv w wr base D l l2 clock v K0 (K + 1)) (hm : Least (bsO l2) F k) :
    ∃ (hF : F < l2.length) (g cap q cv : Nat) (x : Nat), v = .slice (some ⟨g, 0, none⟩) l2.length cap ∧ wr.cell? ⟨g, F * 2 + 1, none⟩ = some (.slice (some ⟨q, 0, none⟩) l2[F].1.bs.length cv) ∧ k < l2[F].1.bs.length ∧ wr.cell? ⟨q, k * 2 + 1, none⟩ = some (.int .i64 (x : Int)) ∧ wr.frozen? ⟨q, k * 2 + 1, none⟩ = false ∧
      ZInv w (wr.setCell ⟨q, k * 2 + 1, none⟩ (.int .i64 0)) base D l (l2.set F (⟨l2[F].1.name, l2[F].1.bs.set k (l2[F].1.bs[k]!.1, 0)⟩, l2[F].2)) clock v K0 K := by
  have hF : F < l2.length := by have := hm.hF; rw [bsO_len] at this; exact this
  have hk : k < l2[F].1.bs.length := by have := hm.hk; rw [bsO_at hF] at this; exact this
  obtain ⟨g, cap, pv, cv, rfl, ev, A⟩ := I.d.fileAt hF
  obtain ⟨q, rfl, _, hc⟩ := A.byte hk
  have hst := A.row.stored (k * 2 + 1) (.int .i64 0)
  have e2 := bsL_set l2[F].1.bs k hk 0
  have e3 : (Value.int .i64 (((0 : Nat)) : Int)) = .int .i64 0 := rfl
  rw [e3] at e2
  have e4 : l2[F].1.bs[k]! = l2[F].1.bs[k] := by simp [hk]
  refine ⟨hF, g, cap, q, cv, _, rfl, A.c1, hk, hc, A.row.frozenAt _, ?_⟩
  rw [e4]
  refine I.more hF hk hm (by rw [ev]; exact hst.2) ?_
  rw [ev, List.length_set]
  have h1 := hst.1
  rw [e2] at h1
  exact h1
set_option maxHeartbeats 6400000 in
set_option maxRecDepth 100000 in
/-- Crash. -/
theorem rcrash_any (w : World) (base D : Nat) (l : List (Fl × Value)) (clock : Nat) (v : Value) (keep : Int) (hk1 : -9223372036854775808 ≤ keep) (hk2 : keep ≤ 9223372036854775807) (hl : l.length ≤ 100000) (hb : ∀ p ∈ l, p.1.bs.length ≤ 4194304) (h : DkAt w base D l clock v) :
    Calls Tryz.prog 8 #[.pointer (some ⟨D, 0, none⟩), .int .i64 keep] w fun e w' => e = .returned (.tuple #[]) ∧ CPost w w' base D l clock v keep.toNat := by
  obtain ⟨i0, hi, hz0, hz1, hz2⟩ := info_parts infoR
  have HI : Hid (ZInv w w base D l l clock v keep.toNat keep.toNat) := ZInv.start h _
  have HBL : Hid (∀ p ∈ l, p.1.bs.length ≤ 4194304) := hb
  have HLL : Hid (l.length ≤ 100000) := hl
  obtain ⟨K0, hK0⟩ : ∃ K0, K0 = keep.toNat := ⟨_, rfl⟩
  have HK0 : Hid (K0 = keep.toNat) := hK0
  rw [← hK0] at HI ⊢
  clear h hb hl hK0
  go_enter Tryz.func8, Tryz.ntmps8
  go_wp2
  go_loopw [1] (fun ks wr => ∃ (kp : Int) (l2 : List (Fl × Value)), ks = .int .i64 kp ∧ -9223372036854775808 ≤ kp ∧ kp ≤ 9223372036854775807 ∧ ZInv w wr base D l l2 clock v K0 kp.toNat) (fun ks _ => (intOf ks).toNat)
  case atStart => exact ⟨keep, l, rfl, hk1, hk2, by have := HI.out; rw [HK0.out] at this ⊢; exact this⟩
  case round =>
    clear hk1 hk2 HI HK0
    obtain ⟨kp, l2, rfl, hkp1, hkp2, I⟩ := hrel
    obtain ⟨hll, hbb⟩ := ln_at I.ln HBL.out
    have hl2 : l2.length ≤ 100000 := by have := HLL.out; omega
    have HBB : Hid (∀ p ∈ l2, p.1.bs.length ≤ 4194304) := hbb
    obtain ⟨a, cap, rfl, hf⟩ := I.d.files
    have c0 := I.d.cell0
    have GI : Hid (ZInv w wr base D l l2 clock (.slice a l2.length cap) K0 kp.toNat) := I
    clear I hf hbb hll HBL HLL
    go_wp2
    go_loop [4, 5, 6, 7] (fun f t u i => ∃ (fi ti ui : Int) (k : Nat), f = .int .i64 fi ∧ t = .int .i64 ti ∧ u = .int .i64 ui ∧ i = .int .i64 k ∧ k ≤ l2.length ∧ Hid (BestR (bsO l2) k 0 fi ti ui)) (fun _ _ _ i => l2.length - (intOf i).toNat)
    case atStart => exact ⟨-1, -1, 0, 0, rfl, rfl, rfl, rfl, Nat.zero_le _, BestR.start _⟩
    case round =>
      obtain ⟨fi, ti, ui, k, rfl, rfl, rfl, rfl, hk, HBR⟩ := hrel
      by_cases hkl : k < l2.length
      · obtain ⟨g, cp, pv, cv, ea, _, A⟩ := GI.out.d.fileAt hkl
        simp only [Value.slice.injEq, true_and] at ea
        obtain ⟨rfl, rfl⟩ := ea
        have hlen := HBB.out _ (List.getElem_mem hkl)
        have c1 := A.c1
        have HA : Hid _ := A
        obtain ⟨bs, hbs⟩ : ∃ bs, bs = l2[k].1.bs := ⟨_, rfl⟩
        rw [← hbs] at c1 hlen HA
        have HBS : Hid (bs = (bsO l2)[k]'(by rw [bsO_len]; exact hkl)) := by rw [bsO_at hkl]; exact hbs
        clear A hbs
        go_wp2
        go_loop [4, 5, 6, 8] (fun f t u j => ∃ (fi ti ui : Int) (m : Nat), f = .int .i64 fi ∧ t = .int .i64 ti ∧ u = .int .i64 ui ∧ j = .int .i64 m ∧ m ≤ bs.length ∧ Hid (BestR (bsO l2) k m fi ti ui)) (fun _ _ _ j => bs.length - (intOf j).toNat)
        case atStart => exact ⟨fi, ti, ui, 0, rfl, rfl, rfl, rfl, Nat.zero_le _, HBR⟩
        case round =>
          clear HBR
          obtain ⟨fi, ti, ui, m, rfl, rfl, rfl, rfl, hm, HBR⟩ := hrel
          by_cases hml : m < bs.length
          · obtain ⟨q, rfl, _, c2⟩ := HA.out.byte hml
            obtain ⟨W, hW⟩ : ∃ W, W = bs[m].2 := ⟨_, rfl⟩
            rw [← hW] at c2
            have hW2 : W = (((bsO l2)[k]'(by rw [bsO_len]; exact hkl))[m]'(by rw [← HBS.out]; exact hml)).2 := by
              rw [hW]
              congr 1
              exact List.getElem_of_eq HBS.out _
            have HW : Hid _ := hW2
            clear hW hW2
            by_cases w0 : 0 < W
            · by_cases f0 : fi < 0
              · have HN : Hid (BestR (bsO l2) k (m + 1) (k : Int) (m : Int) (W : Int)) := by
                  have h1 := BestR.take HBR.out (by rw [bsO_len]; exact hkl) (by rw [← HBS.out]; exact hml) (by rw [← HW.out]; exact w0) (Or.inl f0)
                  rw [← HW.out] at h1
                  exact h1
                clear HBR HW HBS
                go_wp2
                go_round
                case rel => exact ⟨_, _, _, m + 1, rfl, rfl, rfl, by go_num, hml, HN⟩
                case measure => simp [intOf]; omega
              · by_cases t0 : (W : Int) < ui
                · have HN : Hid (BestR (bsO l2) k (m + 1) (k : Int) (m : Int) (W : Int)) := by
                    have h1 := BestR.take HBR.out (by rw [bsO_len]; exact hkl) (by rw [← HBS.out]; exact hml) (by rw [← HW.out]; exact w0) (Or.inr (by rw [← HW.out]; exact t0))
                    rw [← HW.out] at h1
                    exact h1
                  clear HBR HW HBS
                  go_wp2
                  go_round
                  case rel => exact ⟨_, _, _, m + 1, rfl, rfl, rfl, by go_num, hml, HN⟩
                  case measure => simp [intOf]; omega
                · have HN : Hid (BestR (bsO l2) k (m + 1) fi ti ui) := BestR.skip HBR.out (by rw [bsO_len]; exact hkl) (by rw [← HBS.out]; exact hml) (Or.inr ⟨by omega, by rw [← HW.out]; omega⟩)
                  clear HBR HW HBS
                  go_wp2
                  go_round
                  case rel => exact ⟨fi, ti, ui, m + 1, rfl, rfl, rfl, by go_num, hml, HN⟩
                  case measure => simp [intOf]; omega
            · have HN : Hid (BestR (bsO l2) k (m + 1) fi ti ui) := BestR.skip HBR.out (by rw [bsO_len]; exact hkl) (by rw [← HBS.out]; exact hml) (Or.inl (by rw [← HW.out]; omega))
              clear HBR HW HBS
              go_wp2
              go_round
              case rel => exact ⟨fi, ti, ui, m + 1, rfl, rfl, rfl, by go_num, hml, HN⟩
              case measure => simp [intOf]; omega
          · have hme : m = bs.length := by omega
            subst hme
            have HN : Hid (BestR (bsO l2) (k + 1) 0 fi ti ui) := BestR.next HBR.out (fun hi => by rw [← HBS.out]; exact Nat.le_refl _)
            clear HBR HBS HA
            go_wp2
            go_round
            case rel => exact ⟨fi, ti, ui, k + 1, rfl, rfl, rfl, by go_num, hkl, HN⟩
            case measure => simp [intOf]; omega
      · have hke : k = l2.length := by omega
        subst hke
        rcases BestR.end HBR.out (by rw [bsO_len]; exact Nat.le_refl _) with ⟨rfl, hz⟩ | ⟨F, K, rfl, rfl, hm⟩
        · have HZ : Hid _ := hz
          clear hz HBR
          go_wp2
          go_returns
          exact ⟨rfl, GI.out.no HZ.out⟩
        · clear HBR
          have HM : Hid (Least (bsO l2) F K) := hm
          clear hm
          by_cases kp0 : 0 < kp
          · obtain ⟨KK, hKK⟩ : ∃ KK, kp.toNat = KK + 1 := ⟨kp.toNat - 1, by omega⟩
            have I2 := GI.out
            rw [hKK] at I2
            obtain ⟨hF, g, cp, q, cv, x, ea, z1, hKl, z2, z3, hI⟩ := I2.zero HM.out
            simp only [Value.slice.injEq, true_and] at ea
            obtain ⟨rfl, rfl⟩ := ea
            have HI2 : Hid _ := hI
            have HKK : Hid (kp.toNat = KK + 1) := hKK
            have hlen := HBB.out _ (List.getElem_mem hF)
            generalize l2[F].1.bs.length = BL at *
            clear hI I2 GI HM HBB hKK
            go_wp2
            go_roundw
            case rel => exact ⟨kp - 1, _, by go_num, by omega, by omega, by
              have e : (kp - 1).toNat = KK := by have := HKK.out; omega
              rw [e]
              exact HI2.out⟩
            case measure => simp [intOf]; omega
          · have hk0 : kp.toNat = 0 := by omega
            have I2 := GI.out
            rw [hk0] at I2
            have GZ : Hid _ := I2
            clear I2 GI HM hk0
            go_wp2
            obtain ⟨w1, rfl⟩ : ∃ w1, w1 = wr := ⟨_, rfl⟩
            go_loopw [10] (fun i w2 => ∃ (k : Nat) (l3 : List (Fl × Value)), i = .int .i64 k ∧ k ≤ l2.length ∧ GInv w1 w2 base D l2 l3 clock (.slice a l2.length cap) k) (fun i _ => l2.length - (intOf i).toNat)
            case atStart => exact ⟨0, l2, rfl, Nat.zero_le _, GInv.start GZ.out.d⟩
            case round =>
              obtain ⟨w2, rfl⟩ : ∃ w2, w2 = wr := ⟨_, rfl⟩
              obtain ⟨k, l3, rfl, hk, J⟩ := hrel
              have hln := J.ln
              by_cases hkl : k < l2.length
              · have hk3 : k < l3.length := by omega
                have hsz : l3[k].1.bs.length ≤ 4194304 := by
                  rw [J.rest k hk3 hkl (Nat.le_refl _)]
                  exact HBB.out _ (List.getElem_mem hkl)
                obtain ⟨g, cp, pv, cv, ea, _, A⟩ := J.d.fileAt hk3
                rw [hln] at ea
                simp only [Value.slice.injEq, true_and] at ea
                obtain ⟨rfl, rfl⟩ := ea
                rw [hln] at A
                have HJ : Hid (GInv w1 w2 base D l2 l3 clock (.slice (some ⟨g, 0, none⟩) l3.length cap) k) := by rw [hln]; exact J
                have HLN : Hid (l3.length = l2.length) := hln
                have d0 := A.c0
                have d1 := A.c1
                have HA : Hid _ := A
                have HFZ : Hid (w2.frozen? ⟨g, k * 2 + 1, none⟩ = false) := HJ.out.d.row.frozenAt _
                have hgl := A.lg
                obtain ⟨bs, hbs⟩ : ∃ bs, bs = l3[k].1.bs := ⟨_, rfl⟩
                rw [← hbs] at d1 hsz HA
                have HBS : Hid (bs = l3[k].1.bs) := hbs
                clear A hbs J hln c0
                go_wp2
                go_loopw [11, 12] (fun u j w4 => ∃ m : Nat, j = .int .i64 m ∧ m ≤ bs.length ∧ w4.ownsRow w2.heap.size 70 2 u (filtZ (bs.take m)).length (bsL (filtZ (bs.take m))) ∧ Below w2.heap.size w2 w4) (fun _ j _ => bs.length - (intOf j).toNat)
                case atStart => exact ⟨0, rfl, Nat.zero_le _, World.ownsRow_nil _ _ _ _, Below.refl _ _⟩
                case round =>
                  obtain ⟨w4, rfl⟩ : ∃ w4, w4 = wr := ⟨_, rfl⟩
                  obtain ⟨m, rfl, hm, hown, bel⟩ := hrel
                  have A4 := HA.out.below bel
                  have e0 := A4.c0
                  have e1 := A4.c1
                  by_cases hml : m < bs.length
                  · obtain ⟨q, rfl, y0, y1⟩ := A4.byte hml
                    have hfl := filt_len (bs.take m)
                    rw [List.length_take] at hfl
                    by_cases w0 : bs[m].2 = 0
                    · have hT : filtZ (bs.take (m + 1)) = filtZ (bs.take m) ++ [bs[m]] := by rw [filt_snoc bs m hml, if_pos w0]
                      have HT : Hid (filtZ (bs.take (m + 1)) = filtZ (bs.take m) ++ [bs[m]]) := hT
                      have HBL : Hid (bsL (filtZ (bs.take m) ++ [bs[m]]) = bsL (filtZ (bs.take m)) ++ [.int .u8 (bs[m].1.toNat : Int), .int .i64 0]) := by
                        show _ = _
                        rw [bsL_snoc2, w0]
                        rfl
                      rw [w0] at y1
                      change _ = some (Value.int .i64 0) at y1
                      obtain ⟨C, hC⟩ : ∃ C : Nat, C = bs[m].1.toNat := ⟨_, rfl⟩
                      rw [← hC] at y0 HBL
                      obtain ⟨FB, hFB⟩ : ∃ FB, FB = filtZ (bs.take m) := ⟨_, rfl⟩
                      rw [← hFB] at hown hfl HT HBL
                      have h2 := hown.alloc (.cells #[.int .u8 (C : Int), .int .i64 0] 70)
                      have by1 := bel.alloc bel.size (.cells #[.int .u8 (C : Int), .int .i64 0] 70)
                      clear hT hC hFB w0 A4
                      go_wp2_with (at_builtin; refine wpList_append_own _ rfl (.tmp 113) (.tmp 125) 66 rfl w2.heap.size 70 i0 _ 2 16 Tryz.underlying66 hi hz0 hz1 hz2 rfl (by decide) _ FB.length (bsL FB) rfl (by exact h2) ⟨w4.heap.size, 0, none⟩ 1 1 [.int .u8 (C : Int), .int .i64 0] rfl rfl (World.news_of_block (cs := #[.int .u8 (C : Int), .int .i64 0]) (t := 70) (fr := (0, 0)) (heap_alloc_new w4 _)) (by simp [Value.oneCell']) (by unfold maxLen; omega) (by omega) (by exact by1.size) ?_; intro u7 w7 ho7 hg7 _)
                      go_roundw
                      case rel =>
                        refine ⟨m + 1, by go_num, hml, ?_, by1.grown hg7 by1.size (fun k hk => (h2.lt k hk).1)⟩
                        rw [HT.out, HBL.out, List.length_append]
                        exact ho7
                      case measure => simp [intOf]; omega
                    · have hT : filtZ (bs.take (m + 1)) = filtZ (bs.take m) := by rw [filt_snoc bs m hml, if_neg w0, List.append_nil]
                      rw [← hT] at hown
                      have HO : Hid _ := hown
                      obtain ⟨W, hW⟩ : ∃ W : Nat, W = bs[m].2 := ⟨_, rfl⟩
                      rw [← hW] at y1 w0
                      have w1 : ((W : Int) == 0) = false := by simpa using w0
                      clear hT hW hown A4
                      go_wp2
                      go_roundw
                      case rel => exact ⟨m + 1, by go_num, hml, HO.out, bel⟩
                      case measure => simp [intOf]; omega
                  · have hme : m = bs.length := by omega
                    subst hme
                    rw [List.take_length] at hown
                    obtain ⟨p7, n7, c7, rfl⟩ := own_form hown
                    have f1 := (bel.frozen (p := ⟨g, k * 2 + 1, none⟩) (by exact hgl)).trans HFZ.out
                    have HS : Hid _ := HJ.out.step hk3 bel (by rw [← HBS.out]; exact hown)
                    have hkk : (k : Int) < (l2.length : Int) := by omega
                    clear hown A4
                    go_wp2
                    go_roundw
                    case rel =>
                      have hs := HS.out
                      rw [HLN.out] at hs
                      exact ⟨k + 1, _, by go_num, hkl, hs⟩
                    case measure => simp [intOf]; omega
              · have hke : k = l2.length := by omega
                subst hke
                have e0 := J.d.cell0
                have HC : Hid _ := GZ.out.cut J (by omega)
                clear J
                go_wp2
                go_returns
                exact ⟨rfl, HC.out⟩
end Go.Proofs.YtkdglkaeglhibaaGreatDoor
