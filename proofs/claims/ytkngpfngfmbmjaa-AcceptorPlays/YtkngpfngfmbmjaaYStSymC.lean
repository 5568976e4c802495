/-
  Two sorted pieces of a row of entries, one behind the other, made one, those of one slot in the order in which they were: package slices at entries. The condition: fewer than 2^62 entries.
-/
import Derived.Test.YtkngpfngfmbmjaaYPackK
namespace Go.Proofs.Ytkngpfngfmbmjaa
open Go.Shelf Go.RowKit Go.Lib Go.Sort
section
variable {w0 W : World} {blk off cap len : Nat} {d0 d : Array En}

set_option maxHeartbeats 12800000 in
set_option maxRecDepth 1000000 in
theorem st_sym_mid (R : RowK enC 7 w0 blk off d0) (hs0 : d0.size = len) (hs : d.size = len) (S : SWK enC 7 w0 blk off d W) (hsz : len < 4611686018427387904) (n : Nat) (IH0 : ∀ (W : World) (d : Array En) (a m b : Nat), b - a ≤ n → a < m → m < b → b ≤ len → d.size = len → SWK enC 7 w0 blk off d W → Srt (fun x : En => x.slot) (rd d) a m → Srt (fun x : En => x.slot) (rd d) m b → Calls Try.prog 64 #[.slice (some ⟨blk, off, none⟩) len cap, .int .i64 a, .int .i64 m, .int .i64 b, .func (.func 57) #[] #[]] W fun e w' => e = .returned (.tuple #[]) ∧ ∃ d' : Array En, d'.size = len ∧ Mrg (fun x : En => x.slot) (rd d) (rd d') a b ∧ SWK enC 7 w0 blk off d' w') (a m b : Nat) (hn : b - a ≤ n + 1) (h1 : a + 1 < m) (h2 : m + 1 < b) (h3 : b ≤ len) (hA : Srt (fun x : En => x.slot) (rd d) a m) (hB : Srt (fun x : En => x.slot) (rd d) m b) :
    Calls Try.prog 64 #[.slice (some ⟨blk, off, none⟩) len cap, .int .i64 a, .int .i64 m, .int .i64 b, .func (.func 57) #[] #[]] W fun e w' => e = .returned (.tuple #[]) ∧ ∃ d' : Array En, d'.size = len ∧ Mrg (fun x : En => x.slot) (rd d) (rd d') a b ∧ SWK enC 7 w0 blk off d' w' := by
  have HC : Aside (CmpLays Try.prog 57 #[] enC 7 cfE blk off len w0) := cmpLaysE _ _ _ _
  have IH : Aside (∀ (W : World) (d : Array En) (a m b : Nat), b - a ≤ n → a < m → m < b → b ≤ len → d.size = len → SWK enC 7 w0 blk off d W → Srt (fun x : En => x.slot) (rd d) a m → Srt (fun x : En => x.slot) (rd d) m b → Calls Try.prog 64 #[.slice (some ⟨blk, off, none⟩) len cap, .int .i64 a, .int .i64 m, .int .i64 b, .func (.func 57) #[] #[]] W fun e w' => e = .returned (.tuple #[]) ∧ ∃ d' : Array En, d'.size = len ∧ Mrg (fun x : En => x.slot) (rd d) (rd d') a b ∧ SWK enC 7 w0 blk off d' w') := IH0
  have HR : Aside (∀ (W : World) (d : Array En), d.size = len → SWK enC 7 w0 blk off d W → ∀ a m b : Nat, a < m → m < b → b ≤ len → Calls Try.prog 65 #[.slice (some ⟨blk, off, none⟩) len cap, .int .i64 a, .int .i64 m, .int .i64 b, .func (.func 57) #[] #[]] W fun e w' => e = .returned (.tuple #[]) ∧ ∃ d' : Array En, d'.size = len ∧ rd d' = rotF (rd d) a m b ∧ SWK enC 7 w0 blk off d' w') := fun W d hd S a m b c1 c2 c3 => st_rotate R hs0 hd S hsz a m b c1 c2 c3
  have S0 : Aside (SWK enC 7 w0 blk off d W) := S
  clear S IH0
  have mixed : Try.prog.follows Departure.mixedOrders = true := by kernel_rfl
  have FG := Try.func64
  have aE := Try.isAgg36
  have zE := Try.sizeOf36
  have en0 : ∀ args w, (callFunc 57 args).run Try.prog w = .ok (.enter 57 args) w := enters_of Try.func57 (by kernel_rfl) rfl
  have en1 : ∀ args w, (callFunc 65 args).run Try.prog w = .ok (.enter 65 args) w := enters_of Try.func65 (by kernel_rfl) rfl
  have en2 : ∀ args w, (callFunc 64 args).run Try.prog w = .ok (.enter 64 args) w := enters_of Try.func64 (by kernel_rfl) rfl
  have t0 := Try.underlying0; have a0 := Try.isAgg0; have z0 := Try.sizeOf0; have v0 := Try.zeroValue0
  have t3 := Try.underlying3; have a3 := Try.isAgg3; have z3 := Try.sizeOf3; have v3 := Try.zeroValue3
  have t4 := Try.underlying4; have a4 := Try.isAgg4; have z4 := Try.sizeOf4; have v4 := Try.zeroValue4
  have t22 := Try.underlying22; have a22 := Try.isAgg22; have z22 := Try.sizeOf22; have v22 := Try.zeroValue22
  have t5 := Try.underlying97; have a5 := Try.isAgg97; have z5 := Try.sizeOf97; have v5 := Try.zeroValue97
  have t6 := Try.underlying92; have a6 := Try.isAgg92; have z6 := Try.sizeOf92; have v6 := Try.zeroValue92
  have hu22 := run_underlying t22; have hu3 := run_underlying t3; have hu6 := run_underlying t6
  generalize Try.prog = P at *
  obtain ⟨k, hk⟩ : ∃ k, k = 7 := ⟨_, rfl⟩
  rw [← hk] at zE R S0 HC IH HR ⊢
  have HK : Hid (k = 7) := hk
  clear hk
  obtain ⟨z1, hz1⟩ : ∃ z, z + a = m := ⟨m - a, by omega⟩
  have q1 : (m : Int) - (a : Int) = (z1 : Int) := by omega
  have rz1 : IntKind.i64.wrap (z1 : Int) = (z1 : Int) := by rw [IntKind.wrap_i64]; omega
  have q1' : ((z1 : Int) == 1) = false := by rw [beq_eq_false_iff_ne]; omega
  obtain ⟨z2, hz2⟩ : ∃ z, z + m = b := ⟨b - m, by omega⟩
  have q2 : (b : Int) - (m : Int) = (z2 : Int) := by omega
  have rz2 : IntKind.i64.wrap (z2 : Int) = (z2 : Int) := by rw [IntKind.wrap_i64]; omega
  have q2' : ((z2 : Int) == 1) = false := by rw [beq_eq_false_iff_ne]; omega
  obtain ⟨mid, hm1, hm2, qm⟩ : ∃ h, 2 * h ≤ a + b ∧ a + b < 2 * h + 2 ∧ ((a : Int) + (b : Int)) / 2 = (h : Int) := ⟨(a + b) / 2, by omega, by omega, by omega⟩
  have rmid : IntKind.i64.wrap (mid : Int) = (mid : Int) := by rw [IntKind.wrap_i64]; omega
  obtain ⟨nn, hnn⟩ : ∃ z, mid + m = z := ⟨_, rfl⟩
  have qn : (mid : Int) + (m : Int) = (nn : Int) := by omega
  have rnn : IntKind.i64.wrap (nn : Int) = (nn : Int) := by rw [IntKind.wrap_i64]; omega
  obtain ⟨p, hp⟩ : ∃ z, z + 1 = nn := ⟨nn - 1, by omega⟩
  have qp : (nn : Int) - 1 = (p : Int) := by omega
  have rp : IntKind.i64.wrap (p : Int) = (p : Int) := by rw [IntKind.wrap_i64]; omega
  obtain ⟨lo, hi, hlh⟩ : ∃ lo hi : Nat, (mid < m ∧ lo + b = nn ∧ hi = mid) ∨ (m ≤ mid ∧ lo = a ∧ hi = m) := by
    by_cases c : mid < m
    · exact ⟨nn - b, mid, Or.inl ⟨c, by omega, rfl⟩⟩
    · exact ⟨a, m, Or.inr ⟨by omega, rfl, rfl⟩⟩
  have hlo : a ≤ lo ∧ lo < hi ∧ hi ≤ m ∧ hi ≤ mid ∧ nn ≤ lo + b := by omega
  have HLH : Hid ((mid < m ∧ lo + b = nn ∧ hi = mid) ∨ (m ≤ mid ∧ lo = a ∧ hi = m)) := hlh
  have HA : Hid (Srt (fun x : En => x.slot) (rd d) a m) := hA
  have HB : Hid (Srt (fun x : En => x.slot) (rd d) m b) := hB
  have H1 : Hid (a + 1 < m ∧ m + 1 < b ∧ 2 * mid ≤ a + b ∧ a + b < 2 * mid + 2 ∧ mid + m = nn ∧ p + 1 = nn) := ⟨h1, h2, hm1, hm2, hnn, hp⟩
  clear hA hB hlh hz1 hz2
  go_enter FG, Try.ntmps64
  go_upto_if 140 with fail
  go_cut [20, 21] (fun x y wc => x = .int .i64 (lo : Int) ∧ y = .int .i64 (hi : Int) ∧ wc = W)
  case first => as_aux_lemma =>
    rcases HLH.out with ⟨c1, c2, c3⟩ | ⟨c1, c2, c3⟩
    · have cz : (mid : Int) < (m : Int) := by omega
      have ql : (nn : Int) - (b : Int) = (lo : Int) := by omega
      have rlo : IntKind.i64.wrap (lo : Int) = (lo : Int) := by rw [IntKind.wrap_i64]; omega
      have C3 : Hid (hi = mid) := c3
      clear c2 c3
      go_wp2
      go_meet
      case rel => exact ⟨rfl, by rw [C3.out], rfl⟩
    · have cz : ¬ (mid : Int) < (m : Int) := by omega
      have C3 : Hid (lo = a ∧ hi = m) := ⟨c2, c3⟩
      clear c2 c3
      go_wp2
      go_meet
      case rel => exact ⟨by rw [C3.out.1], by rw [C3.out.2], rfl⟩
  case rest => as_aux_lemma =>
    obtain ⟨rfl, rfl, rfl⟩ := hcut
    go_upto_block 8 with fail
    go_cut [20] (fun x wc => ∃ s : Nat, x = .int .i64 s ∧ lo ≤ s ∧ s ≤ hi ∧ Aside (SWK enC k w0 blk off d wc) ∧ Hid ((lo < s → (rd d (s - 1)).slot ≤ (rd d (p - (s - 1))).slot) ∧ (s < hi → (rd d (p - s)).slot < (rd d s).slot)))
    case first => as_aux_lemma =>
      go_wp2_with fail
      go_loopg [20, 21] (hi - lo) (fun kx s10 s11 wr => ∃ s r : Nat, s10 = .int .i64 s ∧ s11 = .int .i64 r ∧ lo ≤ s ∧ s ≤ r ∧ r ≤ hi ∧ r - s ≤ kx ∧ Aside (SWK enC k w0 blk off d wr) ∧ Hid ((lo < s → (rd d (s - 1)).slot ≤ (rd d (p - (s - 1))).slot) ∧ (r < hi → (rd d (p - r)).slot < (rd d r).slot)))
      case atStart => exact ⟨lo, hi, rfl, rfl, Nat.le_refl _, by omega, Nat.le_refl _, Nat.le_refl _, S0, (show Hid _ from (⟨fun c => by omega, fun c => by omega⟩ : _ ∧ _))⟩
      case round =>
        clear S0
        obtain ⟨s, r, rfl, rfl, hls, hsr, hrh, hkx, S1, I⟩ := hrel
        by_cases hlt : s < r
        · have hltz : (s : Int) < (r : Int) := by omega
          obtain ⟨c, hc1, hc2, qc⟩ : ∃ h, s ≤ h ∧ h < r ∧ ((s : Int) + (r : Int)) / 2 = (h : Int) := ⟨(s + r) / 2, by omega, by omega, by omega⟩
          have rc : IntKind.i64.wrap (c : Int) = (c : Int) := by rw [IntKind.wrap_i64]; omega
          obtain ⟨v, hv⟩ : ∃ v, v + c = p := ⟨p - c, by omega⟩
          have qv : (p : Int) - (c : Int) = (v : Int) := by omega
          have rv : IntKind.i64.wrap (v : Int) = (v : Int) := by rw [IntKind.wrap_i64]; omega
          have HV : Hid (v = p - c) := by show v = p - c; omega
          have hvb : v < len ∧ c < len := by omega
          by_cases hc : (rd d v).slot < (rd d c).slot
          · have HCC : Hid ((rd d v).slot < (rd d c).slot) := hc
            clear hc
            have ea1 : ((v : Int)).toNat = v := by omega
            have pa1 : (0 : Int) ≤ (v : Int) := by omega
            have ba1 : (v : Int) < (len : Int) := by omega
            have ra1 : IntKind.i64.wrap ((v : Int)) = (v : Int) := by rw [IntKind.wrap_i64]; omega
            have ec1 : ((c : Int)).toNat = c := by omega
            have pc1 : (0 : Int) ≤ (c : Int) := by omega
            have bc1 : (c : Int) < (len : Int) := by omega
            have rc1 : IntKind.i64.wrap ((c : Int)) = (c : Int) := by rw [IntKind.wrap_i64]; omega
            obtain ⟨x1, hx1⟩ : ∃ z, z = d[v]! := ⟨_, rfl⟩
            obtain ⟨y1, hy1⟩ : ∃ z, z = d[c]! := ⟨_, rfl⟩
            have l1a := S1.out.ld R (by omega) P (v) (by omega)
            have l1b := S1.out.ld R (by omega) P (c) (by omega)
            rw [← hx1] at l1a
            rw [← hy1] at l1b
            have hc1 := S1.out.cmp HC.out (by omega) x1 y1
            have hv1 : cfE x1 y1 < 0 := by rw [hx1, hy1, cfE_neg]; exact HCC.out
            have hd1 : decide (cfE x1 y1 < 0) = true := decide_eq_true hv1
            clear hx1 hy1
            go_wp2_with fail
            go_quiet_grown (first | (go_at_fn 57; refine Calls.grown_of (hc1 _ _)))
            have S2 : Aside (SWK enC k w0 blk off d (grow (wr.drewN nq) osq)) := S1.out.grown nq osq
            clear l1a l1b hc1 S1
            generalize grow (wr.drewN nq) osq = w2 at S2 ⊢
            clear nq osq
            go_wp2
            go_roundg (c - s)
            case rel => exact ⟨s, c, rfl, by first | rfl | go_num, hls, hc1, by omega, Nat.le_refl _, S2, (show Hid _ from (⟨I.out.1, fun _ => by rw [← HV.out]; exact HCC.out⟩ : _ ∧ _))⟩
            case measure => omega
          · have HCC : Hid ((rd d c).slot ≤ (rd d v).slot) := Int.not_lt.1 hc
            obtain ⟨c', hc'⟩ : ∃ c', c + 1 = c' := ⟨_, rfl⟩
            have qc' : (c : Int) + 1 = (c' : Int) := by omega
            clear hc
            have ea2 : ((v : Int)).toNat = v := by omega
            have pa2 : (0 : Int) ≤ (v : Int) := by omega
            have ba2 : (v : Int) < (len : Int) := by omega
            have ra2 : IntKind.i64.wrap ((v : Int)) = (v : Int) := by rw [IntKind.wrap_i64]; omega
            have ec2 : ((c : Int)).toNat = c := by omega
            have pc2 : (0 : Int) ≤ (c : Int) := by omega
            have bc2 : (c : Int) < (len : Int) := by omega
            have rc2 : IntKind.i64.wrap ((c : Int)) = (c : Int) := by rw [IntKind.wrap_i64]; omega
            obtain ⟨x2, hx2⟩ : ∃ z, z = d[v]! := ⟨_, rfl⟩
            obtain ⟨y2, hy2⟩ : ∃ z, z = d[c]! := ⟨_, rfl⟩
            have l2a := S1.out.ld R (by omega) P (v) (by omega)
            have l2b := S1.out.ld R (by omega) P (c) (by omega)
            rw [← hx2] at l2a
            rw [← hy2] at l2b
            have hc2 := S1.out.cmp HC.out (by omega) x2 y2
            have hv2 : ¬ cfE x2 y2 < 0 := by rw [hx2, hy2, cfE_neg]; exact Int.not_lt.2 HCC.out
            have hd2 : decide (cfE x2 y2 < 0) = false := decide_eq_false hv2
            clear hx2 hy2
            go_wp2_with fail
            go_quiet_grown (first | (go_at_fn 57; refine Calls.grown_of (hc2 _ _)))
            have S2 : Aside (SWK enC k w0 blk off d (grow (wr.drewN nq) osq)) := S1.out.grown nq osq
            clear l2a l2b hc2 S1
            generalize grow (wr.drewN nq) osq = w2 at S2 ⊢
            clear nq osq
            go_wp2
            go_roundg (r - c')
            case rel => exact ⟨c', r, by first | rfl | go_num, rfl, by omega, by omega, hrh, Nat.le_refl _, S2, (show Hid _ from (⟨fun _ => by rw [show c' - 1 = c by omega, ← HV.out]; exact HCC.out, I.out.2⟩ : _ ∧ _))⟩
            case measure => omega
        · obtain rfl : s = r := by omega
          have hltz : ¬ (s : Int) < (s : Int) := by omega
          clear hlt hsr
          go_wp2
          go_meet
          case rel => exact ⟨s, rfl, hls, hrh, S1, I⟩
    case rest => as_aux_lemma =>
      clear S0
      obtain ⟨s, rfl, hls, hsh, S1, I⟩ := hcut
      obtain ⟨e, he⟩ : ∃ e, e + s = nn := ⟨nn - s, by omega⟩
      have qe : (nn : Int) - (s : Int) = (e : Int) := by omega
      have re : IntKind.i64.wrap (e : Int) = (e : Int) := by rw [IntKind.wrap_i64]; omega
      have CU : Hid (Cut (fun x : En => x.slot) (rd d) a m b s e mid) := by
        obtain ⟨k1, k2, k3, k4, k5, k6⟩ := H1.out
        have em : (a + b) / 2 = mid := by omega
        have := cut_of (key := fun x : En => x.slot) (f := rd d) (a := a) (m := m) (b := b) (s := s) (lo := lo) (hi := hi) (by omega) (by omega) HA.out HB.out (by rw [em]; have := HLH.out; omega) hls hsh (fun c => by rw [em, show mid + m - 1 = p by omega]; exact I.out.1 c) (fun c => by rw [em, show mid + m - 1 = p by omega]; exact I.out.2 c)
        rw [em, show mid + m - s = e by omega] at this
        exact this
      have hse : s ≤ m ∧ m ≤ e ∧ e ≤ b ∧ s ≤ mid ∧ mid ≤ e := by
        have := CU.out.h2; have := CU.out.h3; have := CU.out.h4; have := CU.out.hm
        omega
      clear I
      go_upto_region 39 with fail
      go_cut [185] (fun x wc => x = .bool (decide (s < m ∧ m < e)) ∧ Aside (SWK enC k w0 blk off d wc))
      case first => as_aux_lemma =>
        by_cases c1 : s < m
        · have c1z : (s : Int) < (m : Int) := by omega
          by_cases c2 : m < e
          · have c2z : (m : Int) < (e : Int) := by omega
            go_wp2
            go_meet
            case rel => exact ⟨by simp [c1, c2], S1⟩
          · have c2z : ¬ (m : Int) < (e : Int) := by omega
            go_wp2
            go_meet
            case rel => exact ⟨by simp [c2], S1⟩
        · have c1z : ¬ (s : Int) < (m : Int) := by omega
          go_wp2
          go_meet
          case rel => exact ⟨by simp [c1], S1⟩
      case rest => as_aux_lemma =>
        clear S1
        obtain ⟨rfl, S1⟩ := hcut
        go_upto_if 185 with fail
        go_cut [20] (fun x wc => x = .int .i64 (s : Int) ∧ ∃ d2 : Array En, d2.size = len ∧ Aside (SWK enC k w0 blk off d2 wc) ∧ Hid (rd d2 = rotF (rd d) s m e))
        case first => as_aux_lemma =>
          by_cases c : s < m ∧ m < e
          · have cz : decide (s < m ∧ m < e) = true := decide_eq_true c
            go_wp2_with (go_at_fn 65; refine (HR.out _ _ hs S1.out s m e c.1 c.2 (by omega)).mono ?_; rintro e w2 ⟨rfl, d2, hs2, hh, ss⟩; have S2 : Aside _ := ss; have HE2 : Hid _ := hh; clear ss hh)
            go_meet
            case rel => exact ⟨rfl, d2, hs2, S2, HE2⟩
          · have cz : decide (s < m ∧ m < e) = false := decide_eq_false c
            go_wp2
            go_meet
            case rel =>
              refine ⟨rfl, d, hs, S1, (show Hid _ from ?_)⟩
              show rd d = _
              by_cases c1 : s = m
              · rw [c1, rotF_right]
              · rw [show e = m by omega, rotF_left]
        case rest => as_aux_lemma =>
          clear S1
          obtain ⟨rfl, d2, hs2, S2, HE2⟩ := hcut
          go_upto_region 41 with fail
          go_cut [199] (fun x wc => x = .bool (decide (a < s ∧ s < mid)) ∧ Aside (SWK enC k w0 blk off d2 wc))
          case first => as_aux_lemma =>
            by_cases c1 : a < s
            · have c1z : (a : Int) < (s : Int) := by omega
              by_cases c2 : s < mid
              · have c2z : (s : Int) < (mid : Int) := by omega
                go_wp2
                go_meet
                case rel => exact ⟨by simp [c1, c2], S2⟩
              · have c2z : ¬ (s : Int) < (mid : Int) := by omega
                go_wp2
                go_meet
                case rel => exact ⟨by simp [c2], S2⟩
            · have c1z : ¬ (a : Int) < (s : Int) := by omega
              go_wp2
              go_meet
              case rel => exact ⟨by simp [c1], S2⟩
          case rest => as_aux_lemma =>
            clear S2
            obtain ⟨rfl, S2⟩ := hcut
            go_upto_if 199 with fail
            go_cut [20] (fun x wc => x = .int .i64 (s : Int) ∧ ∃ d3 : Array En, d3.size = len ∧ Aside (SWK enC k w0 blk off d3 wc) ∧ Hid (Mrg (fun x : En => x.slot) (rd d2) (rd d3) a mid))
            case first => as_aux_lemma =>
              by_cases c : a < s ∧ s < mid
              · have cz : decide (a < s ∧ s < mid) = true := decide_eq_true c
                have k1 : Hid (Srt (fun x : En => x.slot) (rd d2) a s) := by show Srt (fun x : En => x.slot) _ _ _; rw [HE2.out]; exact CU.out.ll HA.out
                have k2 : Hid (Srt (fun x : En => x.slot) (rd d2) s mid) := by show Srt (fun x : En => x.slot) _ _ _; rw [HE2.out]; exact CU.out.lr HB.out
                go_wp2_with (go_at_fn 64; refine (IH.out _ d2 a s mid (by omega) c.1 c.2 (by omega) hs2 S2.out k1.out k2.out).mono ?_; rintro e w2 ⟨rfl, d3, hs3, hh, ss⟩; have S3 : Aside _ := ss; have HE3 : Hid _ := hh; clear ss hh)
                go_meet
                case rel => exact ⟨rfl, d3, hs3, S3, HE3⟩
              · have cz : decide (a < s ∧ s < mid) = false := decide_eq_false c
                go_wp2
                go_meet
                case rel =>
                  refine ⟨rfl, d2, hs2, S2, (show Hid _ from Mrg.same ?_)⟩
                  by_cases c1 : a = s
                  · rw [c1, HE2.out]
                    exact CU.out.lr HB.out
                  · rw [show mid = s by omega, HE2.out]
                    exact CU.out.ll HA.out
            case rest => as_aux_lemma =>
              clear S2
              obtain ⟨rfl, d3, hs3, S3, HE3⟩ := hcut
              have k1 : Hid (Srt (fun x : En => x.slot) (rd d3) mid e) := fun x y c1 c2 c3 => by
                rw [HE3.out.st.out x (by omega), HE3.out.st.out y (by omega), HE2.out]
                exact CU.out.rl HA.out x y c1 c2 c3
              have k2 : Hid (Srt (fun x : En => x.slot) (rd d3) e b) := fun x y c1 c2 c3 => by
                rw [HE3.out.st.out x (by omega), HE3.out.st.out y (by omega), HE2.out]
                exact CU.out.rr HB.out x y c1 c2 c3
              have fin : Hid (∀ d4 : Array En, Mrg (fun x : En => x.slot) (rd d3) (rd d4) mid b → Mrg (fun x : En => x.slot) (rd d) (rd d4) a b) := fun d4 h => CU.out.join HA.out HB.out (by rw [← HE2.out]; exact HE3.out) h
              go_upto_region 43 with fail
              go_cut [213] (fun x wc => x = .bool (decide (mid < e ∧ e < b)) ∧ Aside (SWK enC k w0 blk off d3 wc))
              case first => as_aux_lemma =>
                by_cases c1 : mid < e
                · have c1z : (mid : Int) < (e : Int) := by omega
                  by_cases c2 : e < b
                  · have c2z : (e : Int) < (b : Int) := by omega
                    go_wp2
                    go_meet
                    case rel => exact ⟨by simp [c1, c2], S3⟩
                  · have c2z : ¬ (e : Int) < (b : Int) := by omega
                    go_wp2
                    go_meet
                    case rel => exact ⟨by simp [c2], S3⟩
                · have c1z : ¬ (mid : Int) < (e : Int) := by omega
                  go_wp2
                  go_meet
                  case rel => exact ⟨by simp [c1], S3⟩
              case rest => as_aux_lemma =>
                clear S3
                obtain ⟨rfl, S3⟩ := hcut
                by_cases c : mid < e ∧ e < b
                · have cz : decide (mid < e ∧ e < b) = true := decide_eq_true c
                  go_wp2_with (go_at_fn 64; refine (IH.out _ d3 mid e b (by omega) c.1 c.2 h3 hs3 S3.out k1.out k2.out).mono ?_; rintro e w2 ⟨rfl, d4, hs4, hh, ss⟩)
                  go_end0
                  exact ⟨rfl, d4, hs4, fin.out d4 hh, ss⟩
                · have cz : decide (mid < e ∧ e < b) = false := decide_eq_false c
                  go_wp2
                  go_end0
                  refine ⟨rfl, d3, hs3, fin.out d3 (Mrg.same ?_), S3.out⟩
                  by_cases c1 : mid = e
                  · rw [c1]
                    exact k2.out
                  · rw [show b = e by omega]
                    exact k1.out
theorem st_sym (R : RowK enC 7 w0 blk off d0) (hs0 : d0.size = len) (hsz : len < 4611686018427387904) : ∀ (n : Nat), ∀ (W : World) (d : Array En) (a m b : Nat), b - a ≤ n → a < m → m < b → b ≤ len → d.size = len → SWK enC 7 w0 blk off d W → Srt (fun x : En => x.slot) (rd d) a m → Srt (fun x : En => x.slot) (rd d) m b → Calls Try.prog 64 #[.slice (some ⟨blk, off, none⟩) len cap, .int .i64 a, .int .i64 m, .int .i64 b, .func (.func 57) #[] #[]] W fun e w' => e = .returned (.tuple #[]) ∧ ∃ d' : Array En, d'.size = len ∧ Mrg (fun x : En => x.slot) (rd d) (rd d') a b ∧ SWK enC 7 w0 blk off d' w'
  | 0 => fun W d a m b hn h1 h2 => by omega
  | n + 1 => fun W d a m b hn h1 h2 h3 hs S hA hB => by
    by_cases c1 : a + 1 = m
    · exact st_sym_left R hs0 hs S hsz a m b c1 h2 h3 hB
    by_cases c2 : m + 1 = b
    · exact st_sym_right R hs0 hs S hsz a m b (by omega) c2 h3 hA
    · exact st_sym_mid R hs0 hs S hsz n (st_sym R hs0 hsz n) a m b hn (by omega) (by omega) h3 hA hB
end
end Go.Proofs.Ytkngpfngfmbmjaa
