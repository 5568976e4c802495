/-
  The program's disk: a crash. The condition: at most 100000 files.
-/
import Derived.Test.YtkdglkaeglhibaaGreatDoorPKCrashA
namespace Go.Proofs.YtkdglkaeglhibaaGreatDoor
open Go.RowKit Go.Sort

/-- While the pieces are gone over: k of them are done. -/
structure C1 (wp wr : World) (l : List CF) (d : List P3) (K k : Nat) : Prop where
  le : k ≤ d.length
  inv : CInv wp wr l (sureN (d.take k) K)
theorem DInv.drew {wq wr : World} {mo : Option Nat} {r : Nat} {l : List CF} {s : CF → Nat} {left : List CF} (I : DInv wq wr mo r l s left) : DInv wq wr.drew mo r l s left :=
  ⟨I.rg.kept (fun _ _ => rfl) rfl, I.mem, I.nd, I.co, I.cu, I.oth, I.os, I.tape, I.output, I.size⟩
theorem DInv.fin {wq wr ws : World} {mo : Option Nat} {r n : Nat} {l : List CF} {s : CF → Nat} {left : List CF} (J : DInv wq ws mo r l s left) (hms : leftN wr mo r = n) (hlt : (nmL left).length < n) : (∃ leftF, DInv wq ws mo r l s leftF) ∧ leftN ws mo r < leftN wr mo r :=
  ⟨⟨left, J⟩, by rw [J.rg.leftN, hms]; exact hlt⟩
theorem C1.step {wp wr : World} {l : List CF} {d : List P3} {K k : Nat} (I : C1 wp wr l d K k) (hn : (l.map (·.c)).Nodup) (hk : k < d.length) {f : CF} (hf : f ∈ l) {t sz : Nat} (hx : d[k] = (t, sz, f.c)) (o : Obj) :
    C1 wp ((wr.setCell ⟨f.c, 1, none⟩ (.int .i64 ((sureN (d.take k) K f : Int) + ((min sz (leftA (d.take k) K) : Nat) : Int)))).alloc o) l d K (k + 1) ∧ leftA (d.take (k + 1)) K = leftA (d.take k) K - min sz (leftA (d.take k) K) := by
  have et : d.take (k + 1) = d.take k ++ [(t, sz, f.c)] := by rw [List.take_succ_eq_append_getElem hk, hx]
  have es : ∀ g ∈ l, g.c ≠ f.c → sureN (d.take (k + 1)) K g = sureN (d.take k) K g := fun g _ hg => by
    unfold sureN
    rw [et, keptA_snoc, if_neg (fun e => hg e.symm)]
    omega
  have ef : sureN (d.take (k + 1)) K f = sureN (d.take k) K f + min sz (leftA (d.take k) K) := by
    unfold sureN
    rw [et, keptA_snoc, if_pos rfl]
    simp only
    omega
  refine ⟨⟨hk, ?_⟩, by rw [et, leftA_snoc]⟩
  have h1 := I.inv.step (s' := sureN (d.take (k + 1)) K) hn hf es o
  rw [ef] at h1
  have e2 : ((sureN (d.take k) K f + min sz (leftA (d.take k) K) : Nat) : Int) = (sureN (d.take k) K f : Int) + ((min sz (leftA (d.take k) K) : Nat) : Int) := by omega
  rw [e2] at h1
  exact h1
/-- A piece in its row. -/
theorem piece_at {w wp wr : World} {l : List CF} {d : List P3} {K k g : Nat} (I : C1 wp wr l d K k) (hlt : ∀ f ∈ l, f.c < w.heap.size) (hg : w.heap.size ≤ g) (hH : HoldsK encP 3 wp g 0 d.toArray) (hk : k < d.length) {t sz c : Nat} (hx : d[k] = (t, sz, c)) :
    wr.cell? ⟨g, k * 3, none⟩ = some (.int .i64 (t : Int)) ∧ wr.cell? ⟨g, k * 3 + 1, none⟩ = some (.int .i64 (sz : Int)) ∧ wr.cell? ⟨g, k * 3 + 2, none⟩ = some (.pointer (some ⟨c, 0, none⟩)) := by
  have hs : k < d.toArray.size := by simpa using hk
  have e : d.toArray[k]! = (t, sz, c) := by simp [hk, hx]
  have a0 := (hH.cell hs (show 0 < 3 by omega)).1
  have a1 := (hH.cell hs (show 1 < 3 by omega)).1
  have a2 := (hH.cell hs (show 2 < 3 by omega)).1
  rw [e] at a0 a1 a2
  simp only [Nat.zero_add, Nat.add_zero] at a0 a1 a2
  have hgl : g < wp.heap.size := World.block_lt_of_cell? wp _ a0
  have hb := I.inv.oth g hgl (fun f hf e => by have := hlt f hf; omega)
  exact ⟨(World.cell?_of_block hb).trans a0, (World.cell?_of_block hb).trans a1, (World.cell?_of_block hb).trans a2⟩
set_option maxHeartbeats 3200000 in
set_option maxRecDepth 100000 in
theorem crash_any (w : World) (base D : Nat) (l : List CF) (turns : Nat) (mo : Option Nat) (ro : Nat → Option Nat) (keep : Int) (hk1 : -9223372036854775808 ≤ keep) (hk2 : keep ≤ 9223372036854775807) (hl : l.length ≤ 100000) (h : CdAt w base D l turns mo ro) :
    Calls Tryz.prog 7 #[.pointer (some ⟨D, 0, none⟩), .int .i64 keep] w fun e w' => e = .returned (.tuple #[]) ∧ ∃ d, d.Perm (allP l) ∧ d.Pairwise (fun x y => x.1 ≤ y.1) ∧ CdAt w' base D (l.map (crashF d keep.toNat)) turns mo ro ∧ Ext w w' ro ro := by
  have hpc := pieces_any w base D l turns mo ro hl h
  have HH : Hid (CdAt w base D l turns mo ro) := h
  have HL : Hid ((allP l).length ≤ 1000000000000) := by
    have := allP_length l (fun f hf => (h.each f hf).pl)
    show _ ≤ _
    omega
  clear h hl
  have hmax : max keep 0 = (keep.toNat : Int) := by omega
  obtain ⟨K, hK⟩ : ∃ K, K = keep.toNat := ⟨_, rfl⟩
  rw [← hK] at hmax ⊢
  have hK2 : K ≤ 9223372036854775807 := by omega
  clear hK
  go_enter Tryz.func7, Tryz.ntmps7
  go_wp2_with (go_at_call 27; refine hpc.mono ?_; rintro e wp ⟨v, rfl, d, p, cap, rfl, hdp, hds, hbel, hdh⟩)
  have HP : Hid (d.Perm (allP l)) := hdp
  have HS : Hid (d.Pairwise (fun x y => x.1 ≤ y.1)) := hds
  have HB : Hid (Below w.heap.size w wp) := hbel
  have HDH : Hid (d = [] ∨ ∃ g, p = some ⟨g, 0, none⟩ ∧ w.heap.size ≤ g ∧ HoldsK encP 3 wp g 0 d.toArray) := hdh
  have HC : Hid (C1 wp wp l d K 0) := ⟨Nat.zero_le _, fun f hf => by
      have hF := HH.out.each f hf
      have e : sureN (d.take 0) K f = f.sure := by simp [sureN, keptA]
      rw [e]
      exact (hbel.block f.c (lt_of_block hF.bl)).trans hF.bl, fun b _ _ => rfl, rfl, rfl, rfl, Nat.le_refl _⟩
  have hdl : d.length ≤ 1000000000000 := by rw [hdp.length_eq]; exact HL.out
  clear hdp hds hbel hdh hpc
  go_loopw [4, 17] (fun lf i wr => ∃ k : Nat, i = .int .i64 k ∧ lf = .int .i64 (leftA (d.take k) K : Nat) ∧ C1 wp wr l d K k) (fun _ i _ => d.length - (intOf i).toNat)
  case atStart => exact ⟨0, rfl, by simp [leftA], HC.out⟩
  case round =>
    obtain ⟨k, rfl, rfl, I⟩ := hrel
    have hkle := I.le
    have hLK := leftA_le (d.take k) K
    by_cases hk : k < d.length
    · rcases HDH.out with e0 | ⟨g, rfl, hg, hH⟩
      · rw [e0] at hk
        simp at hk
      obtain ⟨t, sz, c, hx⟩ : ∃ t sz c, d[k] = (t, sz, c) := ⟨_, _, _, rfl⟩
      obtain ⟨f, hf, hfc, hfp⟩ := p3_size (x := (t, sz, c)) (HP.out.mem_iff.1 (by rw [← hx]; exact List.getElem_mem hk))
      simp only at hfc hfp
      subst hfc
      obtain ⟨z0, z1, z2⟩ := piece_at I (fun f hf => lt_of_block (HH.out.each f hf).bl) hg hH hk hx
      have HST : Hid (∀ o, C1 wp ((wr.setCell ⟨f.c, 1, none⟩ (.int .i64 ((sureN (d.take k) K f : Int) + ((min sz (leftA (d.take k) K) : Nat) : Int)))).alloc o) l d K (k + 1) ∧ leftA (d.take (k + 1)) K = leftA (d.take k) K - min sz (leftA (d.take k) K)) := fun o => I.step HH.out.nd hk hf hx o
      have hco := I.inv.co f hf
      have y1 : wr.cell? ⟨f.c, 1, none⟩ = some (.int .i64 (sureN (d.take k) K f : Int)) := by simp [World.cell?, hco]
      have yz : wr.frozen? ⟨f.c, 1, none⟩ = false := by simp [World.frozen?, hco]
      have ylt := lt_of_block hco
      have hbd : sureN (d.take k) K f + min sz (leftA (d.take k) K) ≤ 4194304 := by
        have hF := HH.out.each f hf
        have h1 := hF.sm
        have h2 := hF.mx
        have et : d.take (k + 1) = d.take k ++ [(t, sz, f.c)] := by rw [List.take_succ_eq_append_getElem hk, hx]
        have h3 := keptA_le f.c (d.take (k + 1)) K
        have h4 := sumC_take f.c (k + 1) d
        rw [sumC_perm f.c HP.out, sumC_all HH.out.nd hf] at h4
        rw [et, keptA_snoc, if_pos rfl] at h3
        simp only at h3
        rw [← et] at h3
        unfold sureN
        omega
      have hszb : sz ≤ 4194304 := by
        have hF := HH.out.each f hf
        have h1 := tot_mem hfp
        have h2 := hF.sm
        have h3 := hF.mx
        simp only at h1
        omega
      generalize sureN (d.take k) K f = S at *
      generalize leftA (d.take k) K = L at *
      have hmin : min (sz : Int) (L : Int) = ((min sz L : Nat) : Int) := by omega
      have hml : min sz L ≤ L := by omega
      have hsub : ((L - min sz L : Nat) : Int) = (L : Int) - ((min sz L : Nat) : Int) := by omega
      have HSB : Hid (((L - min sz L : Nat) : Int) = (L : Int) - ((min sz L : Nat) : Int)) := hsub
      clear hsub
      generalize min sz L = m at *
      have hk0 : (0 : Int) ≤ (k : Int) := by omega
      have hkd : (k : Int) < (d.length : Int) := by omega
      clear hx hfp hco I
      go_wp2
      obtain ⟨r1, r2⟩ := HST.out _
      exact ⟨⟨k + 1, by simp, by rw [r2, HSB.out], r1⟩, by simp [intOf]; omega⟩
    · have hke : k = d.length := by omega
      subst hke
      generalize wr = wq at *
      have J0 := I.inv
      rw [List.take_length] at J0
      have HJ0 : Hid (CInv wp wq l (sureN d K)) := J0
      have hlt : ∀ f ∈ l, f.c < w.heap.size := fun f hf => lt_of_block (HH.out.each f hf).bl
      have ko : ∀ b, b < w.heap.size → (∀ f ∈ l, b ≠ f.c) → wq.heap[b]? = w.heap[b]? := fun b hb hne => (J0.oth b (Nat.lt_of_lt_of_le hb HB.out.size) hne).trans (HB.out.block b hb)
      have HM : Hid (∀ M, mo = some M → M < w.heap.size ∧ ∀ g ∈ l, M ≠ g.c) := fun M e => ⟨(HH.out.bd M (by rw [HH.out.rM M e]; simp)).2, fun f hf e2 => by
        have h1 := (HH.out.each f hf).rc
        rw [← e2, HH.out.rM M e] at h1
        exact HH.out.neD hf (by rw [← e2]; exact (Option.some.inj h1).symm)⟩
      have c0 : wq.cell? ⟨D, 0, none⟩ = some (.map mo) := by
        have hDl := lt_of_block HH.out.bl
        rw [World.cell?_of_block (w := w) (ko D hDl (fun f hf e => HH.out.neD hf e.symm))]
        exact HH.out.cell0
      have hmp : mapO wq mo (nmL l) := by
        have h1 := HH.out.mp
        cases hm : mo with
        | none => rw [hm] at h1; exact h1
        | some M =>
          rw [hm] at h1
          exact MapAt.kept h1 (ko M (HM.out M hm).1 (HM.out M hm).2)
      obtain ⟨w1, hrun1, hR, hg1, hs1⟩ := range_map hmp
      have szr : w.heap.size ≤ wq.heap.size := Nat.le_trans HB.out.size J0.size
      have HD0 : Hid (DInv wq w1 mo wq.heap.size l (sureN d K) l) := ⟨hR, fun f hf => hf, HH.out.nd, fun f hf _ => (hg1.block f.c (lt_of_block (J0.co f hf)) (by simp)).trans (J0.co f hf), fun f hf hm => absurd (List.mem_map.2 ⟨f, hf, rfl⟩) hm, fun b hb _ _ => hg1.block b hb (by simp), hg1.os, hg1.tape, hg1.output, hg1.size⟩
      clear hmp hR hg1 hs1 ko J0 I
      go_wp2
      go_loopw [9] (fun _ ws => ∃ leftF, DInv wq ws mo wq.heap.size l (sureN d K) leftF) (fun _ ws => leftN ws mo wq.heap.size)
      case atStart => exact ⟨l, HD0.out⟩
      case round =>
        obtain ⟨leftF, J⟩ := hrel
        rcases next_map J.rg 0 with ⟨h0, hrun⟩ | ⟨n, c, A, B, w2, hsp, hin, hrun, hrg, hg2, hs2, hen⟩
        · have e0 : leftF = [] := by
            unfold nmL at h0
            exact List.map_eq_nil_iff.1 h0
          subst e0
          go_wp2
          go_returns
          exact ⟨rfl, d, HP.out, HS.out, crash_end HH.out HP.out HB.out HJ0.out rfl J⟩
        · obtain ⟨LA, f, LB, rfl, rfl, rfl, hAB⟩ := split_nm hsp
          have hfl := J.mem f (by simp)
          have hF := HH.out.each f hfl
          rw [← hAB] at hrg
          have J2 := J.step HH.out.nd hrg hg2 hs2 (fun g hg => by have := hlt g hg; omega) (fun M e => ⟨by have := (HM.out M e).1; omega, (HM.out M e).2⟩)
          have HJ2 : Hid _ := J2
          have hms : leftN wr mo wq.heap.size = (nmL (LA ++ f :: LB)).length := J.rg.leftN
          have hbk : w2.heap[f.c]? = some (.cells #[f.bv, .int .i64 (sureN d K f : Int), f.lv] 65 (0, 0)) := by
            have h1 := J.co f hfl (List.mem_map.2 ⟨f, by simp, rfl⟩)
            rw [hg2.block f.c (lt_of_block h1) (by have := hlt f hfl; simp; omega)]
            exact h1
          have hle : sureN d K f ≤ f.bs.length := by
            unfold sureN
            have h1 := keptA_le f.c d K
            rw [sumC_perm f.c HP.out, sumC_all HH.out.nd hfl] at h1
            have h2 := hF.sm
            omega
          have hmx := hF.mx
          have y1 : w2.cell? ⟨f.c, 1, none⟩ = some (.int .i64 (sureN d K f : Int)) := by simp [World.cell?, hbk]
          have f0 : w2.frozen? ⟨f.c, 0, none⟩ = false := by simp [World.frozen?, hbk]
          have f2 : w2.frozen? ⟨f.c, 2, none⟩ = false := by simp [World.frozen?, hbk]
          obtain ⟨lp, ln, lc, hlv⟩ := own_form hF.rl
          have y2 : w2.cell? ⟨f.c, 2, none⟩ = some (.slice lp ln lc) := by simp [World.cell?, hbk, hlv]
          change _ = Result.ok (Value.tuple #[_, _, Value.pointer (some ⟨f.c, 0, none⟩)]) w2 at hrun
          change _ = Result.ok (Value.tuple #[_, Value.pointer (some ⟨f.c, 0, none⟩)]) w2 at hen
          rcases hF.rb.2 with ⟨e1, e2⟩ | ⟨g, cap', cur, e1, _, _, hcap, _, _, _⟩
          · have y0 : w2.cell? ⟨f.c, 0, none⟩ = some (.slice none 0 0) := by simp [World.cell?, hbk, e1]
            have e3 : sureN d K f = 0 := by omega
            rw [e3] at y1
            rw [e1, e3] at HJ2
            clear hF hlv hbk J2 hle e1 e3 J hrg
            go_wp2
            go_region
            all_goals go_wp2
            all_goals (
              have J3 := HJ2.out
              first | exact J3.fin hms (by simp [nmL]) | exact J3.drew.fin hms (by simp [nmL]))
          · have y0 : w2.cell? ⟨f.c, 0, none⟩ = some (.slice (some ⟨g, 0, none⟩) f.bs.length cap') := by simp [World.cell?, hbk, e1]
            rw [e1] at HJ2
            have h1 : (0 : Int) ≤ (sureN d K f : Int) := by omega
            have h2 : (sureN d K f : Int) ≤ (cap' : Int) := by omega
            clear hF hlv hbk J2 e1 J hrg
            generalize sureN d K f = S at *
            go_wp2
            go_region
            all_goals go_wp2
            all_goals (
              have J3 := HJ2.out
              first | exact J3.fin hms (by simp [nmL]) | exact J3.drew.fin hms (by simp [nmL]))
end Go.Proofs.YtkdglkaeglhibaaGreatDoor
