/-
  Package session: the clients written, Encode, as the document's plain bytes. The condition: at most 100000 sessions.
-/
import Derived.Test.YthokbififjhflaaSeWrite
namespace Go.Proofs.Ythokbififjhflaa
open Go.RowKit

theorem Wr.fresh {B : Nat} {w w' : World} {v : Value} {bs : List UInt8} (h : Wr B w B v bs) (k : Below w.heap.size w w') : Wr B w' B v bs :=
  ⟨h.1, (k.block _ h.lt).trans h.2.1, own_keep h.2.2 fun g e => k.block g ((h.2.2.lt g e).2)⟩
theorem seLa_index (L : Nat → Int) (k : Nat) (hk : k < 8) (w : World) : (Instr.index 63 (.agg #[.int .i64 (L 0), .int .i64 (L 1), .int .i64 (L 2), .int .i64 (L 3), .int .i64 (L 4), .int .i64 (L 5), .int .i64 (L 6), .int .i64 (L 7)]) (.int .i64 (k : Int))).run Try.prog w = .ok (.int .i64 (L k)) w := by
  rcases (by omega : k = 0 ∨ k = 1 ∨ k = 2 ∨ k = 3 ∨ k = 4 ∨ k = 5 ∨ k = 6 ∨ k = 7) with rfl | rfl | rfl | rfl | rfl | rfl | rfl | rfl <;> kernel_rfl
set_option maxRecDepth 100000 in
set_option maxHeartbeats 8000000 in
theorem writeClients_any {w : World} {base X B : Nat} {S : Nat → Prop} {l : List SeX} {v : Value} {bs : List UInt8} (h : SeAt w base X S l) (hS : ∀ g, S g → g < B) (hl : l.length ≤ 100000) (hw : Wr B w B v bs) (hb : bs.length ≤ 100000000) :
    Calls Try.prog 34 #[.pointer (some ⟨X, 0, none⟩), .pointer (some ⟨B, 0, none⟩)] w (WrP w B (bs ++ seI (seCnt l 8) ++ seEnds l 8)) := by
  obtain ⟨ma, mo, la, lo, ps, L, hM⟩ := h.ex
  have c2 : w.cell? ⟨X, 2, none⟩ = some (.int .i64 (L 0)) := hM.cell 2 _ rfl
  have c3 : w.cell? ⟨X, 3, none⟩ = some (.int .i64 (L 1)) := hM.cell 3 _ rfl
  have c4 : w.cell? ⟨X, 4, none⟩ = some (.int .i64 (L 2)) := hM.cell 4 _ rfl
  have c5 : w.cell? ⟨X, 5, none⟩ = some (.int .i64 (L 3)) := hM.cell 5 _ rfl
  have c6 : w.cell? ⟨X, 6, none⟩ = some (.int .i64 (L 4)) := hM.cell 6 _ rfl
  have c7 : w.cell? ⟨X, 7, none⟩ = some (.int .i64 (L 5)) := hM.cell 7 _ rfl
  have c8 : w.cell? ⟨X, 8, none⟩ = some (.int .i64 (L 6)) := hM.cell 8 _ rfl
  have c9 : w.cell? ⟨X, 9, none⟩ = some (.int .i64 (L 7)) := hM.cell 9 _ rfl
  have HL : Hid (∀ c : Nat, c < 8 → L c = seLat l c) := hM.lat
  have HA : Hid (SeAt w base X S l) := h
  have HX : Hid (∀ y, Below B w y → SeAt y base X S l) := fun y k => h.keep fun g hg => k.block g (hS g hg)
  have HCl : Hid (∀ y, Below B w y → ∀ (j : Nat) (u : Value), (seA ma mo L)[j]? = some u → y.cell? ⟨X, j, none⟩ = some u) := fun y k j u hu => (hM.keep fun g hg => k.block g (hS g hg)).cell j u hu
  have HLF : Hid (∀ y, Below B w y → ∀ c : Nat, c < 8 → Calls Try.prog 49 #[.pointer (some ⟨X, 0, none⟩), .int .i64 (c : Int)] y fun e w' => e = .returned (.int .i64 (seLif l c)) ∧ Below y.heap.size y w') := fun y k c hc => lifeOf_any (h.keep fun g hg => k.block g (hS g hg)) c hc
  have HLi : Hid ((∀ c, 0 ≤ seLif l c ∧ seLif l c ≤ 1073741824) ∧ (∀ c, seLat l c ≤ l.length) ∧ ∀ n, n ≤ 8 → (seEnds l n).length ≤ 30 * n) := (show Hid _ from (⟨h.ok.lif, seLat_le l, fun n hn => h.ok.ends_len hl n hn⟩ : _ ∧ _ ∧ _))
  have HF : Hid (∀ (c : Bool) (y : World), Calls Try.prog 56 #[.bool c] y fun e w' => e = .returned (.int .i64 (seBit c)) ∧ w' = y) := flag_any
  have HW : Hid (∀ (y : World) (n : Int) (v : Value) (L : List UInt8), okI n → L.length ≤ 100001000 → Wr B y B v L → Calls Try.prog 32 #[.pointer (some ⟨B, 0, none⟩), .int .i64 n] y (WrP y B (L ++ seI n))) := fun y n v L hn hL hv => swint hn (by omega) hv
  have W0 : Hid (Wr B w B v bs) := hw
  have HC : Hid (∀ k, seCnt l k ≤ k) := seCnt_le l
  have HBL : Hid (bs.length ≤ 100000000 ∧ l.length ≤ 100000) := (show Hid _ from (⟨hb, hl⟩ : _ ∧ _))
  clear h hM hS hw hb hl
  go_enter Try.func34, Try.ntmps34
  go_wp2
  go_loopw [4, 13] (fun c i wr => ∃ k : Nat, k ≤ 8 ∧ c = .int .i64 (seCnt l k : Int) ∧ i = .int .i64 k ∧ wr = w) (fun _ i _ => 8 - (intOf i).toNat)
  case atStart => exact ⟨0, by omega, rfl, rfl, rfl⟩
  case round =>
    obtain ⟨k, hk, rfl, rfl, rfl⟩ := hrel
    by_cases hk8 : k < 8
    · have t0 : decide ((k : Int) < 8) = true := decide_eq_true (by omega)
      have hix := seLa_index L k hk8
      have hcl := HC.out k
      have hlk := HL.out k hk8
      rw [hlk] at hix
      obtain ⟨d, hd⟩ : ∃ d : Bool, decide ((0 : Int) < (seLat l k : Int)) = d := ⟨_, rfl⟩
      have hd' : decide (0 < seLat l k) = d := by rw [← hd]; congr 1; simp
      have hq : (seCnt l k : Int) + seBit d = (seCnt l (k + 1) : Nat) := by
        rw [← hd']
        show _ = ((seCnt l k + if 0 < seLat l k then 1 else 0 : Nat) : Int)
        by_cases hz : 0 < seLat l k
        · rw [if_pos hz, decide_eq_true hz]; rfl
        · rw [if_neg hz, decide_eq_false hz]; rfl
      obtain ⟨n, hn⟩ : ∃ n, n = seBit d := ⟨_, rfl⟩
      have hn1 : 0 ≤ n ∧ n ≤ 1 := by rw [hn]; exact seBit_le d
      rw [← hn] at hq
      have HN : Hid (n = seBit d) := hn
      have HQ : Hid ((seCnt l k : Int) + n = (seCnt l (k + 1) : Nat)) := hq
      obtain ⟨m, hm⟩ : ∃ m : Nat, m = seCnt l k := ⟨_, rfl⟩
      rw [← hm] at hcl HQ ⊢
      clear hn hlk hq hm
      go_wp2_with (go_at_call 56; refine Calls.mono (HF.out _ _) ?_; rintro r y ⟨rfl, hy⟩; rw [hy, ← HN.out]; clear hy)
      exact ⟨⟨k + 1, by omega, by rw [HQ.out], by simp, trivial⟩, by simp [intOf]; omega⟩
    · obtain rfl : k = 8 := by omega
      have t0 : decide ((8 : Int) < 8) = false := by decide
      have hcl := HC.out 8
      obtain ⟨m, hm⟩ : ∃ m : Nat, m = seCnt l 8 := ⟨_, rfl⟩
      have HMM : Hid (seCnt l 8 = m) := hm.symm
      rw [← hm] at hcl ⊢
      have HI : Hid (∀ y v, Wr B y B v bs → Calls Try.prog 32 #[.pointer (some ⟨B, 0, none⟩), .int .i64 (m : Int)] y (WrP y B (bs ++ seI m))) := fun y v hv => HW.out y m v bs (okI_of (by omega) (by omega)) (by have := HBL.out.1; omega) hv
      clear hm
      go_upto_region 7 with (go_at_call 32; refine Calls.mono (HI.out _ _ W0.out) ?_; rintro r w1 ⟨⟨rfl, v1, h1, b1⟩⟩; have W1 : Hid (Wr B w1 B v1 (bs ++ seI m)) := h1; have B1 : Hid (Below B wr w1) := b1; clear h1 b1)
      clear c2 c3 c4 c5 c6 c7 c8 c9
      have c2 := HCl.out w1 B1.out 2 (.int .i64 (L 0)) rfl
      have c3 := HCl.out w1 B1.out 3 (.int .i64 (L 1)) rfl
      have c4 := HCl.out w1 B1.out 4 (.int .i64 (L 2)) rfl
      have c5 := HCl.out w1 B1.out 5 (.int .i64 (L 3)) rfl
      have c6 := HCl.out w1 B1.out 6 (.int .i64 (L 4)) rfl
      have c7 := HCl.out w1 B1.out 7 (.int .i64 (L 5)) rfl
      have c8 := HCl.out w1 B1.out 8 (.int .i64 (L 6)) rfl
      have c9 := HCl.out w1 B1.out 9 (.int .i64 (L 7)) rfl
      have HM : Hid (m ≤ 8) := hcl
      obtain ⟨LC, hLC⟩ : ∃ LC, LC = bs ++ seI m := ⟨_, rfl⟩
      have HLC : Hid (LC = bs ++ seI m ∧ LC.length ≤ 100000010) := (show Hid _ from (⟨hLC, by rw [hLC, List.length_append]; have := seI_len (n := (m : Int)) (by omega) (by omega); have := HBL.out.1; omega⟩ : _ ∧ _))
      rw [← hLC] at W1
      clear hLC hcl HI
      go_wp2
      obtain ⟨w0, hw0⟩ : ∃ w0, w0 = wr := ⟨_, rfl⟩
      rw [← hw0] at B1 HX HCl HLF W0 HA
      have HWW : Hid (w0 = wr) := hw0
      clear hw0
      go_loopw [29] (fun i wq => ∃ (k : Nat) (v2 : Value), k ≤ 8 ∧ i = .int .i64 k ∧ Hid (Wr B wq B v2 (LC ++ seEnds l k)) ∧ Hid (Below B w0 wq)) (fun i _ => 8 - (intOf i).toNat)
      case atStart => exact ⟨0, v1, by omega, rfl, by rw [show seEnds l 0 = [] from rfl, List.append_nil]; exact W1, B1⟩
      case round =>
        obtain ⟨k, v2, hk, rfl, W2, B2⟩ := hrel
        by_cases hk8 : k < 8
        · have t1 : decide ((k : Int) < 8) = true := decide_eq_true (by omega)
          have hix := seLa_index L k hk8
          have hlk := HL.out k hk8
          rw [hlk] at hix
          have hel := HLi.out.2.2 k (by omega)
          have h0l := HLC.out.2
          by_cases hz : 0 < seLat l k
          · have t2 : decide ((0 : Int) < (seLat l k : Int)) = true := decide_eq_true (by omega)
            have t3 : decide (0 < seLat l k) = true := decide_eq_true hz
            obtain ⟨M1, hM1⟩ : ∃ M1, M1 = LC ++ seEnds l k := ⟨_, rfl⟩
            obtain ⟨M2, hM2⟩ : ∃ M2, M2 = M1 ++ seI k := ⟨_, rfl⟩
            obtain ⟨M3, hM3⟩ : ∃ M3, M3 = M2 ++ seI (seLif l k) := ⟨_, rfl⟩
            obtain ⟨M4, hM4⟩ : ∃ M4, M4 = M3 ++ seI (seLat l k) := ⟨_, rfl⟩
            have hli := HLi.out.1 k
            have hla := HLi.out.2.1 k
            have hll := HBL.out.2
            have n1 : M1.length ≤ 100000250 := by rw [hM1, List.length_append]; omega
            have n2 : M2.length ≤ 100000260 := by rw [hM2, List.length_append]; have := seI_len (n := (k : Int)) (by omega) (by omega); omega
            have n3 : M3.length ≤ 100000270 := by rw [hM3, List.length_append]; have := seI_len (n := seLif l k) (by omega) (by omega); omega
            have HE : Hid (M4 = LC ++ seEnds l (k + 1)) := by
              show M4 = _
              rw [hM4, hM3, hM2, hM1, seEnds_succ]
              unfold seEndC
              rw [if_pos hz]
              simp
            have D1 : Hid (∀ y v, Wr B y B v M1 → Calls Try.prog 32 #[.pointer (some ⟨B, 0, none⟩), .int .i64 (k : Int)] y (WrP y B M2)) := fun y v hv => by rw [hM2]; exact HW.out y k v M1 (okI_of (by omega) (by omega)) (by omega) hv
            have D2 : Hid (∀ y v, Wr B y B v M2 → Calls Try.prog 32 #[.pointer (some ⟨B, 0, none⟩), .int .i64 (seLif l k)] y (WrP y B M3)) := fun y v hv => by rw [hM3]; exact HW.out y _ v M2 (okI_of (by omega) (by omega)) (by omega) hv
            have D3 : Hid (∀ y v, Wr B y B v M3 → Calls Try.prog 32 #[.pointer (some ⟨B, 0, none⟩), .int .i64 (seLat l k : Int)] y (WrP y B M4)) := fun y v hv => by rw [hM4]; exact HW.out y _ v M3 (okI_of (by omega) (by omega)) (by omega) hv
            rw [← hM1] at W2
            have HK : Hid (k < 8) := hk8
            clear hM1 hM2 hM3 hM4 hli hla hll n1 n2 n3 hlk hz hel h0l c2 c3 c4 c5 c6 c7 c8 c9
            go_upto_region 12 with (go_at_call 32; refine Calls.mono (D1.out _ _ W2.out) ?_; rintro r w3 ⟨⟨rfl, v3, h3, b3⟩⟩; have W3 : Hid (Wr B w3 B v3 M2) := h3; have B3 : Hid (Below B w0 w3) := B2.out.trans b3; clear h3 b3)
            have hwz := W3.out.lt
            go_upto_region 13 with (first
              | (go_at_call 32; refine Calls.mono (D2.out _ _ W4.out) ?_; rintro r w5 ⟨⟨rfl, v5, h5, b5⟩⟩; have W5 : Hid (Wr B w5 B v5 M3) := h5; have B5 : Hid (Below B w0 w5) := B4.out.trans b5; clear h5 b5)
              | (go_at_call 49; refine Calls.mono (HLF.out _ B3.out k HK.out) ?_; rintro r w4 ⟨rfl, b4⟩; have W4 : Hid (Wr B w4 B v3 M2) := W3.out.fresh b4; have B4 : Hid (Below B w0 w4) := B3.out.trans (b4.mono (Nat.le_of_lt hwz)); clear b4))
            go_wp2_with (go_at_call 32; refine Calls.mono (D3.out _ _ W5.out) ?_; rintro r w6 ⟨⟨rfl, v6, h6, b6⟩⟩; have W6 : Hid (Wr B w6 B v6 M4) := h6; have B6 : Hid (Below B w0 w6) := B5.out.trans b6; clear h6 b6)
            exact ⟨⟨k + 1, v6, by omega, by simp, by rw [← HE.out]; exact W6, B6⟩, by simp [intOf]; omega⟩
          · have t2 : decide ((0 : Int) < (seLat l k : Int)) = false := decide_eq_false (by omega)
            have t3 : decide (0 < seLat l k) = false := decide_eq_false hz
            have HE : Hid (seEnds l (k + 1) = seEnds l k) := by
              show seEnds l (k + 1) = _
              rw [seEnds_succ]
              unfold seEndC
              rw [if_neg hz, List.append_nil]
            clear hlk hz hel h0l c2 c3 c4 c5 c6 c7 c8 c9
            go_wp2
            exact ⟨⟨k + 1, v2, by omega, by simp, by rw [HE.out]; exact W2, B2⟩, by simp [intOf]; omega⟩
        · obtain rfl : k = 8 := by omega
          have t1 : decide ((8 : Int) < 8) = false := by decide
          clear c2 c3 c4 c5 c6 c7 c8 c9
          go_wp2
          go_returns
          rw [HMM.out, ← HLC.out.1]
          have hb2 := B2.out
          rw [HWW.out] at hb2
          exact ⟨rfl, v2, W2.out, hb2⟩
set_option maxRecDepth 100000 in
set_option maxHeartbeats 8000000 in
theorem sencode_any {w : World} {base X : Nat} {S : Nat → Prop} {l : List SeX} (h : SeAt w base X S l) (hl : l.length ≤ 100000) :
    Calls Try.prog 15 #[.pointer (some ⟨X, 0, none⟩)] w fun e w' => e = .returned (.string ⟨(seEnc l).toArray⟩) ∧ Below w.heap.size w w' := by
  have HS : Hid (∀ g, S g → g < w.heap.size) := fun g hg => (h.bd g hg).2
  have HX : Hid (∀ y, Below w.heap.size w y → SeAt y base X S l) := fun y k => h.keep fun g hg => k.block g (h.bd g hg).2
  have HR : Hid (∀ n, n ≤ l.length → (seRows l n).length ≤ 90 * n) := fun n hn => h.ok.rows_len hl n hn
  have HL : Hid (l.length ≤ 100000) := hl
  obtain ⟨ma, mo, la, lo, ps, L, hM⟩ := h.ex
  have HC : Hid (∀ y, Below w.heap.size w y → y.cell? ⟨X, 0, none⟩ = some (.map (some ma)) ∧ ∀ ty, (Builtin.len_ #[62] ty #[.map (some ma)]).run Try.prog y = .ok (.int .i64 (l.length : Int)) y) := fun y k => by
    have hM' := hM.keep (w' := y) fun g hg => k.block g (h.bd g hg).2
    refine ⟨hM'.cell 0 _ rfl, fun ty => ?_⟩
    have := MapOf.len mSe_is hM'.all ty
    rw [hM'.lenA] at this
    exact this
  obtain ⟨W, hW⟩ : ∃ W, W = w.alloc (.cells #[.slice none 0 0] 102) := ⟨_, rfl⟩
  have B0 : Hid (Below w.heap.size w W) := by rw [hW]; exact (Below.refl _ w).alloc (Nat.le_refl _) _
  have W0 : Hid (Wr w.heap.size W w.heap.size (.slice none 0 0) []) := by rw [hW]; exact Wr.new w
  have HW : Hid (w.alloc (.cells #[.slice none 0 0] 102) = W) := hW.symm
  obtain ⟨A0, hA0⟩ : ∃ A0, A0 = seI (l.length : Int) := ⟨_, rfl⟩
  have HA : Hid (A0 = seI (l.length : Int) ∧ A0.length ≤ 10) := (show Hid _ from (⟨hA0, by rw [hA0]; exact seI_len (by omega) (by omega)⟩ : _ ∧ _))
  have HI : Hid (Calls Try.prog 32 #[.pointer (some ⟨w.heap.size, 0, none⟩), .int .i64 (l.length : Int)] W (WrP W w.heap.size A0)) := by
    have := swint (n := (l.length : Int)) (okI_of (by omega) (by omega)) (by simp) W0.out
    rw [hA0]
    exact this
  obtain ⟨B, hB⟩ : ∃ B, B = w.heap.size := ⟨_, rfl⟩
  rw [← hB] at HS HX HC B0 W0 HI
  have HBB : Hid (B = w.heap.size) := hB
  have HN : Calls Try.prog 31 #[] w fun e w' => e = .returned (.pointer (some ⟨B, 0, none⟩)) ∧ w' = W := by
    refine (new_any w).mono ?_
    rintro e w' ⟨rfl, rfl⟩
    exact ⟨by rw [hB], hW.symm⟩
  obtain ⟨z0, z1⟩ := HC.out W B0.out
  clear h hM hW hA0 hl hB
  go_enter Try.func15, Try.ntmps15
  go_upto_region 4 with (go_at_call 31; refine Calls.mono HN ?_; rintro r w1 ⟨rfl, hw1⟩; rw [hw1]; clear hw1)
  go_upto_region 5 with (go_at_call 32; refine Calls.mono HI.out ?_; rintro r w2 ⟨⟨rfl, v2, h2, b2⟩⟩; have W2 : Hid (Wr B w2 B v2 A0) := h2; have B2 : Hid (Below B w w2) := B0.out.trans b2; clear h2 b2)
  clear z0 z1
  go_wp2
  go_loopw [4] (fun i wr => ∃ (k : Nat) (v : Value), k ≤ l.length ∧ i = .int .i64 ((k : Int) + 1) ∧ Hid (Wr B wr B v (A0 ++ seRows l k)) ∧ Hid (Below B w wr)) (fun i _ => l.length + 1 - (intOf i).toNat)
  case atStart => exact ⟨0, v2, Nat.zero_le _, rfl, by rw [show seRows l 0 = [] from rfl, List.append_nil]; exact W2, B2⟩
  case round =>
    obtain ⟨k, v, hk, rfl, W3, B3⟩ := hrel
    obtain ⟨z0, z1⟩ := HC.out _ B3.out
    have hln := HL.out
    have hrk := HR.out k hk
    have ha0 := HA.out.2
    by_cases hkl : k < l.length
    · have t1 : decide ((k : Int) + 1 ≤ (l.length : Int)) = true := decide_eq_true (by omega)
      obtain ⟨x, hx⟩ : ∃ x, l[k]? = some x := ⟨l[k], List.getElem?_eq_getElem hkl⟩
      have HWr : Hid (Calls Try.prog 33 #[.pointer (some ⟨X, 0, none⟩), .pointer (some ⟨B, 0, none⟩), .int .i64 ((k : Int) + 1)] wr (WrP wr B (A0 ++ seRows l (k + 1)))) := by
        have := write_any (HX.out _ B3.out) HS.out hx W3.out (by rw [List.length_append]; omega)
        rw [List.append_assoc, ← seRows_one hx] at this
        exact this
      have HK : Hid (k < l.length) := hkl
      clear hx hrk ha0 hkl
      go_wp2_with (go_at_call 33; refine Calls.mono HWr.out ?_; rintro r w4 ⟨⟨rfl, v4, h4, b4⟩⟩; have W4 : Hid (Wr B w4 B v4 (A0 ++ seRows l (k + 1))) := h4; have B4 : Hid (Below B w w4) := B3.out.trans b4; clear h4 b4)
      have hkl := HK.out
      exact ⟨⟨k + 1, v4, by omega, by simp, W4, B4⟩, by simp [intOf]; omega⟩
    · obtain rfl : k = l.length := by omega
      have t1 : decide ((l.length : Int) + 1 ≤ (l.length : Int)) = false := decide_eq_false (by omega)
      obtain ⟨E, hE⟩ : ∃ E, E = A0 ++ seRows l l.length ++ seI (seCnt l 8) ++ seEnds l 8 := ⟨_, rfl⟩
      have HWr : Hid (Calls Try.prog 34 #[.pointer (some ⟨X, 0, none⟩), .pointer (some ⟨B, 0, none⟩)] wr (WrP wr B E)) := by
        rw [hE]
        exact writeClients_any (HX.out _ B3.out) HS.out HL.out W3.out (by rw [List.length_append]; omega)
      have HE : Hid (E = seEnc l) := by
        show E = seEnc l
        rw [hE, HA.out.1]
        rfl
      clear hrk ha0 hkl hE
      go_wp2_with (first
        | (go_at_call 35; refine Calls.mono (wstring_any _ _ _ _ _ W5.out) ?_; rintro r w6 ⟨rfl, hw6⟩; rw [← hw6]; clear hw6)
        | (go_at_call 34; refine Calls.mono HWr.out ?_; rintro r w5 ⟨⟨rfl, v5, h5, b5⟩⟩; have W5 : Hid (Wr B w5 B v5 E) := h5; have B5 : Hid (Below B w w5) := B3.out.trans b5; clear h5 b5))
      go_ret
      rw [← HE.out, ← HBB.out]
      exact ⟨rfl, B5.out⟩
set_option maxRecDepth 100000 in
theorem sencode_nil (w : World) : Calls Try.prog 15 #[.pointer none] w fun e w' => e = .returned (.string ⟨#[]⟩) ∧ w' = w := by
  go_enter Try.func15, Try.ntmps15
  go_wp2
  go_ret
  exact ⟨rfl, rfl⟩
end Go.Proofs.Ythokbififjhflaa
