/-
  ProposerAdopts: what any majority has at a slot with the greatest ballot is what is proposed there; slots follow one another; the last is the term. The condition: texts have at most 2^48 bytes, as the form's own reach says.
-/
import Derived.Test.YtmlgoecdefeapaaAPxAdA
import Derived.Deep.CutBlock
import Derived.Deep.DeepCutAuto
import Derived.Deep.LoopGhost
namespace Go.Proofs.Ytmlgoecdefeapaa
open Go.RowKit

theorem maj_le {n : Nat} (h1 : 1 ≤ n) : maR (n : Int) ≤ n := by
  unfold maR
  rw [if_neg (by omega)]
  omega
theorem cmd_neq_same (c : Cm) (w : World) : (binOp .neq 32 (.agg #[.int .i64 c.kind, .int .i64 c.session, .int .i64 c.seq, .string c.name, .int .i64 c.n]) (.agg #[.int .i64 c.kind, .int .i64 c.session, .int .i64 c.seq, .string c.name, .int .i64 c.n])).run Try.prog w = .ok (.bool false) w := by
  simp [go_sem]
/-- Behind the promises of k servers. -/
structure AdI (w wr : World) (B X : Nat) (S : Nat → Prop) (m n f : Int) (k : Nat) (L : List En) (b : Bool) (g : Value) : Prop where
  own : OwnEn wr B g L
  st : PS wr B X S (if b = true then readyP (paE n f k L) else paE n f k L)
  no : b = false → (k : Int) < m
  slots : ∀ e ∈ L, e.slot ≤ f + 1000
  len : L.length ≤ 1000 * k
  below : Below B w wr
theorem AdI.base {w wr : World} {B X : Nat} {S : Nat → Prop} {m n f : Int} {k : Nat} {L : List En} {b : Bool} {g : Value} (h : AdI w wr B X S m n f k L b g) : B ≤ wr.heap.size := by
  have a1 := (h.st.bd X h.st.inX).1
  have a2 := (h.st.bd X h.st.inX).2
  omega
/-- A row that came in is there yet. -/
theorem row_in {α : Type} {enc : α → List Value} {w wr : World} {B : Nat} {u : Value} {es : List α} (h : RowAt enc w u es) (hB : B = w.heap.size) (b : Below B w wr) : RowAt enc wr u es := h.fresh (by rw [← hB]; exact b)
theorem own_n {w : World} {base n k p : Nat} {e : TypeId} {a : Option Addr} {c : Nat} {xs : List Value} (h : w.ownsRow base e k (.slice a p c) n xs) : n = p := by
  rcases h.2 with ⟨e, h0⟩ | ⟨g, cap, cur, e, _⟩
  · injection e with _ e _
    omega
  · injection e with _ e _
    exact e.symm
/-- One promise more. -/
theorem AdI.step {w w5 w6 w7 : World} {B X : Nat} {S S7 : Nat → Prop} {m n f : Int} {k : Nat} {L es : List En} {g u6 : Value} (h : AdI w w5 B X S m n f k L false g) (hes : ∀ e ∈ es, e.slot ≤ f + 1000) (hl : es.length ≤ 1000) (o6 : w6.ownsRow B 38 7 u6 (L.length + es.length) (rowL enC L ++ rowL enC es)) (a6 : Appended B w5 w6 g u6) {b : Bool} (hb : b = false → (k : Int) + 1 < m) (p7 : PS w7 B X S7 (if b = true then readyP (paE n f (k + 1) (L ++ es)) else paE n f (k + 1) (L ++ es))) (k7 : Kept w6 w7 S S7) : AdI w w7 B X S7 m n f (k + 1) (L ++ es) b u6 := by
  have st : PS w5 B X S (paE n f k L) := h.st
  have p6 : PS w6 B X S (paE n f k L) := st.keep fun g' hg => a6.rest g' (st.bd g' hg).2 (fun e => st.apartO h.own g' e.symm hg)
  have o6' : OwnEn w6 B u6 (L ++ es) := by
    show w6.ownsRow B _ 7 u6 (L ++ es).length (rowL enC (L ++ es))
    rw [List.length_append, rowL_append]
    exact o6
  have b6 : Below B w w6 := h.below.trans a6.below
  refine ⟨own_keep o6' fun g' e => k7.kept g' (o6'.lt g' e).2 (p6.apartO o6' g' e), p7, fun e => ?_, fun e he => ?_, ?_, b6.trans (k7.low ?_ (fun g' hg => (p6.bd g' hg).1))⟩
  · have := hb e
    omega
  · rcases List.mem_append.1 he with he | he
    · exact h.slots e he
    · exact hes e he
  · have := h.len
    rw [List.length_append]
    omega
  · have a1 := (p6.bd X p6.inX).1
    have a2 := (p6.bd X p6.inX).2
    omega
set_option maxHeartbeats 12800000 in
set_option maxRecDepth 100000 in
theorem adopts_walk (w : World) (n : Int) (v : Value) (f : Int) (P : List (Value × List En)) (hv : RowAt prC w v P) (hP : ∀ q ∈ P, EsOk w q.1 q.2 True) (hlen : P.length ≤ 9223372036854775807) :
    Calls Try.prog 4 #[.int .i64 n, v, .int .i64 f] w fun e w' => e = .returned (.bool true) ∧ Below w.heap.size w w' := by
  obtain ⟨nn, hnn, h1, h5⟩ : ∃ nn : Nat, max 1 (min n 5) = (nn : Int) ∧ 1 ≤ nn ∧ nn ≤ 5 := ⟨(max 1 (min n 5)).toNat, by omega, by omega, by omega⟩
  obtain ⟨a, cap, rfl⟩ := hv.form
  by_cases hf : 1 ≤ f ∧ f ≤ 1099511627776
  · obtain ⟨hf1, hf2⟩ := hf
    have u1 : decide (f < 1) = false := decide_eq_false (by omega)
    have u2 : decide (1099511627776 < f) = false := decide_eq_false (by omega)
    obtain ⟨B, hB⟩ : ∃ B, B = w.heap.size := ⟨_, rfl⟩
    have q0 := pnewX_any w (nn : Int) 17 f
    have HBE : Hid (B = w.heap.size) := hB
    have HV : Hid _ := hv
    have HP : Hid _ := hP
    have H15 : Hid (1 ≤ nn ∧ nn ≤ 5) := ⟨h1, h5⟩
    obtain ⟨m, hm⟩ : ∃ m, m = maR (nn : Int) := ⟨_, rfl⟩
    have HM : Hid (m = maR (nn : Int)) := hm
    have HMn : Hid (1 ≤ m ∧ m ≤ (nn : Int)) := ⟨by rw [hm]; exact maR_pos _, by rw [hm]; exact maj_le h1⟩
    have HMJ : Hid (∀ y, Calls Try.prog 24 #[.int .i64 (nn : Int)] y fun e w' => e = .returned (.int .i64 m) ∧ y = w') := fun y => by rw [hm]; exact rmaj_any (nn : Int) (by omega) y
    obtain ⟨i0, hi, hz0, hz1, hz2⟩ := info_parts infoEn
    rw [← hB]
    clear hv hP hB hm h1
    go_enter Try.func4, Try.ntmps4
    go_upto_block 0 with (go_at_call 9; refine q0.mono ?_; rintro r w1 ⟨X, S0, rfl, p1, b1⟩; have P1 : Hid _ := p1; have B1 : Hid _ := b1; rw [← HBE.out] at P1 B1; clear p1 b1)
    clear q0 hnn
    go_cut [8, 9] (fun g r wc => ∃ (k : Nat) (L : List En) (b : Bool) (S : Nat → Prop) (ga : Option Addr) (gc : Nat), g = .slice ga L.length gc ∧ r = .bool b ∧ k ≤ 5 ∧ Hid (AdI w wc B X S m nn f k L b (.slice ga L.length gc)))
    case first =>
      go_wp2_with fail
      go_loopg [8, 9, 10, 11] nn (fun gh g r i _ wr => ∃ (k : Nat) (L : List En) (b : Bool) (S : Nat → Prop) (ga : Option Addr) (gc : Nat), k ≤ nn ∧ gh = nn - k ∧ i = .int .i64 k ∧ g = .slice ga L.length gc ∧ r = .bool b ∧ Hid (AdI w wr B X S m nn f k L b (.slice ga L.length gc)))
      case atStart => exact ⟨0, [], false, S0, none, 0, Nat.zero_le _, rfl, rfl, rfl, rfl, World.ownsRow_nil _ _ _ _, P1.out, (fun _ => by have := HMn.out.1; omega), (fun e he => by cases he), Nat.zero_le _, B1.out⟩
      case round =>
        clear P1 B1
        obtain ⟨k, L, b, S, ga, gc, hk, rfl, rfl, rfl, rfl, HI⟩ := hrel
        by_cases hk1 : k < nn
        · have c1 : decide ((k : Int) < (nn : Int)) = true := decide_eq_true (by omega)
          have c1' : decide (k < nn) = true := decide_eq_true hk1
          by_cases hk2 : k < P.length
          · have c2 : decide ((k : Int) < (P.length : Int)) = true := decide_eq_true (by omega)
            have c2' : decide (k < P.length) = true := decide_eq_true hk2
            cases b with
            | true =>
              go_wp2
              go_meet
              case rel => exact ⟨k, L, true, S, ga, gc, rfl, rfl, by omega, HI⟩
            | false =>
              obtain ⟨bk, off, cp, e, _, hbk, hx⟩ := (row_in HV.out HBE.out HI.out.below).cells prC_len (by omega)
              simp only [Value.slice.injEq] at e
              obtain ⟨rfl, _, rfl⟩ := e
              have hbk2 : bk < B := by rw [HBE.out]; exact HV.out.lt (by omega) rfl
              obtain ⟨q, hq⟩ : ∃ q, q = P[k] := ⟨_, rfl⟩
              have HQ : Hid (EsOk w q.1 q.2 True) := by show EsOk _ _ _ _; rw [hq]; exact HP.out _ (List.getElem_mem hk2)
              have z0' := hx k hk2 0 _ (by decide) rfl
              rw [← hq, Nat.mul_one] at z0'
              obtain ⟨u, es⟩ := q
              obtain ⟨ua, uc, eu⟩ := HQ.out.row.form
              have eu' : u = .slice ua es.length uc := eu
              subst eu'
              have z0 : wr.cell? ⟨bk, off + k, none⟩ = some (.slice ua es.length uc) := z0'
              have ZK : Hid (∀ y, Below B wr y → y.cell? ⟨bk, off + k, none⟩ = some (.slice ua es.length uc)) := fun y b => (b.cell (p := ⟨bk, off + k, none⟩) (by exact hbk2)).trans z0
              clear hx z0' hq eu
              by_cases hL : 1000 < es.length
              · have c3 : decide ((1000 : Int) < (es.length : Int)) = true := decide_eq_true (by omega)
                have c3' : decide (1000 < es.length) = true := decide_eq_true hL
                go_wp2_with (go_at_call 8; refine (awake_any _).mono ?_; rintro r w9 ⟨rfl, b9⟩)
                go_ret
                exact ⟨rfl, bmm HI.out.below HI.out.base b9⟩
              · have c3 : decide ((1000 : Int) < (es.length : Int)) = false := decide_eq_false (by omega)
                have c3' : decide (1000 < es.length) = false := decide_eq_false hL
                obtain ⟨w5, rfl⟩ : ∃ w5, w5 = wr := ⟨_, rfl⟩
                go_wp2
                go_loopg [11] es.length (fun gh j wx => ∃ jj : Nat, jj ≤ es.length ∧ gh = es.length - jj ∧ j = .int .i64 jj ∧ wx = w5 ∧ Hid (∀ i (hi : i < es.length), i < jj → es[i].slot ≤ f + 1000))
                case atStart => exact ⟨0, Nat.zero_le _, rfl, rfl, rfl, fun i hi h => by omega⟩
                case round =>
                  obtain ⟨jj, hjj, rfl, rfl, rfl, HS⟩ := hrel
                  by_cases hj : jj < es.length
                  · have c4 : decide ((jj : Int) < (es.length : Int)) = true := decide_eq_true (by omega)
                    have c4' : decide (jj < es.length) = true := decide_eq_true hj
                    obtain ⟨bk2, off2, cp2, e2, _, hbk3, hx2⟩ := (row_in HQ.out.row HBE.out HI.out.below).cells enC_len (by show 0 < es.length; omega)
                    simp only [Value.slice.injEq] at e2
                    obtain ⟨rfl, _, rfl⟩ := e2
                    have z1' := hx2 jj hj 0 (.int .i64 es[jj].slot) (by decide) rfl
                    rw [Nat.add_zero] at z1'
                    have HS2 : Hid (es[jj].slot ≤ f + 1000 → ∀ i (hi : i < es.length), i < jj + 1 → es[i].slot ≤ f + 1000) := fun h i hi h2 => by
                      by_cases h3 : i = jj
                      · subst h3
                        exact h
                      · exact HS.out i hi (by omega)
                    clear hx2
                    generalize es[jj].slot = x at z1' HS2
                    have z1 := z1'
                    clear z1'
                    by_cases hxf : f + 1000 < x
                    · have c5 : decide (f + 1000 < x) = true := decide_eq_true hxf
                      go_wp2_with (go_at_call 8; refine (awake_any _).mono ?_; rintro r w9 ⟨rfl, b9⟩)
                      go_ret
                      exact ⟨rfl, bmm HI.out.below HI.out.base b9⟩
                    · have c5 : decide (f + 1000 < x) = false := decide_eq_false hxf
                      go_wp2
                      go_roundg (es.length - (jj + 1))
                      case measure => omega
                      case rel => exact ⟨jj + 1, hj, rfl, by go_num, rfl, HS2.out (by omega)⟩
                  · have c4 : decide ((jj : Int) < (es.length : Int)) = false := decide_eq_false (by omega)
                    have c4' : decide (jj < es.length) = false := decide_eq_false hj
                    have HES : Hid (∀ e ∈ es, e.slot ≤ f + 1000) := fun e he => by
                      obtain ⟨i, hi, rfl⟩ := List.mem_iff_getElem.1 he
                      exact HS.out i hi (by omega)
                    have HLL : Hid (L.length + es.length ≤ 6000) := by show _ ≤ _; have := HI.out.len; omega
                    have HL3 : Hid (es.length ≤ 1000) := by show _ ≤ _; omega
                    have HR5 : Hid _ := row_in HQ.out.row HBE.out HI.out.below
                    have HPP : Hid (∀ y u6, y.ownsRow B 38 7 u6 (L.length + es.length) (rowL enC L ++ rowL enC es) → Appended B wr y (.slice ga L.length gc) u6 → Calls Try.prog 11 #[.pointer (some ⟨X, 0, none⟩), .int .i64 (k : Int), .slice ua es.length uc] y (PPost y B X S (promP m (paE nn f k L) k es).1 (.bool (promP m (paE nn f k L) k es).2))) := fun y u6 o6 a6 => by
                      have st : PS wr B X S (paE nn f k L) := HI.out.st
                      have p6 : PS y B X S (paE nn f k L) := st.keep fun g' hg => a6.rest g' (st.bd g' hg).2 (fun e => st.apartO HI.out.own g' e.symm hg)
                      have r6 : RowAt enC y (.slice ua es.length uc) es := row_in HQ.out.row HBE.out (HI.out.below.trans a6.below)
                      have := pprom_any p6 (pa_lim (by omega) (by omega) HI.out.slots) (by show (nn : Int) ≤ _; omega) (k : Int) ⟨by omega, by omega⟩ es (.slice ua es.length uc) r6 (by omega) (fun e he => ⟨Nat.le_trans (HQ.out.names trivial e he) (by decide), HES.out e he⟩) (fun bk3 off3 n3 cap3 h0 e3 hs => by
                        have l1 := HQ.out.row.lt h0 e3
                        have l2 := (p6.bd bk3 hs).1
                        have := HBE.out
                        omega)
                      have e1 : (paE nn f k L).n = (nn : Int) := rfl
                      rw [e1, ← HM.out] at this
                      exact this
                    have hkm : (k : Int) < m := HI.out.no rfl
                    by_cases hlt : (k : Int) + 1 < m
                    · have ep : promP m (paE nn f k L) k es = (paE nn f (k + 1) (L ++ es), false) := by rw [pa_step (by omega), if_pos hlt]
                      have HP2 : Hid (∀ y u6, y.ownsRow B 38 7 u6 (L.length + es.length) (rowL enC L ++ rowL enC es) → Appended B wr y (.slice ga L.length gc) u6 → Calls Try.prog 11 #[.pointer (some ⟨X, 0, none⟩), .int .i64 (k : Int), .slice ua es.length uc] y (PPost y B X S (if false = true then readyP (paE nn f (k + 1) (L ++ es)) else paE nn f (k + 1) (L ++ es)) (.bool false))) := fun y u6 o6 a6 => by
                        have := HPP.out y u6 o6 a6
                        rw [ep] at this
                        exact this
                      have r1 : ((k : Int) + 1 == m) = false := by simp; omega
                      have r2 : decide ((k : Int) + 1 = m) = false := decide_eq_false (by omega)
                      clear ep HS c3 c3' hL HPP
                      go_wp2_with (first
                        | (go_at_call 24; refine Calls.mono (HMJ.out _) ?_; rintro r w8 ⟨rfl, hw8⟩; rw [← hw8]; clear hw8)
                        | (go_at_call 11; refine Calls.mono (HP2.out _ _ O6.out A6.out) ?_; rintro r w7 ⟨S7, rfl, p7, k7⟩; have I7 : Hid ((false = false → (k : Int) + 1 < m) → AdI w w7 B X S7 m nn f (k + 1) (L ++ es) false (.slice p6 n6 q6)) := (fun hb => HI.out.step HES.out HL3.out O6.out A6.out hb p7 k7); clear p7 k7)
                        | (at_builtin; refine wpList_app_row (k := 7) (enc := enC) (l := es) rfl (.tmp 75) (.tmp 79) 30 38 rfl i0 _ 64 Try.underlying30 hi hz0 hz1 hz2 rfl (by decide) enC_len enC_one (base := B) rfl rfl HI.out.own HR5.out HI.out.base (by have := HLL.out; omega) (by have := HLL.out; omega) ?_; intro u6 w6 o6 a6; obtain ⟨p6, n6, q6, rfl⟩ := own_form o6; have NS6 : Hid (L.length + es.length = n6) := own_n o6; have O6 : Hid _ := o6; have A6 : Hid _ := a6; have z6 := ZK.out w6 a6.below; clear o6 a6))
                      go_roundg (nn - (k + 1))
                      case measure => omega
                      case rel => exact ⟨k + 1, L ++ es, false, S7, p6, q6, by omega, rfl, by go_num, by rw [List.length_append, NS6.out], rfl, by rw [List.length_append, NS6.out]; exact I7.out (fun _ => hlt)⟩
                    · have ep : promP m (paE nn f k L) k es = (readyP (paE nn f (k + 1) (L ++ es)), true) := by rw [pa_step (by omega), if_neg hlt]
                      have HP2 : Hid (∀ y u6, y.ownsRow B 38 7 u6 (L.length + es.length) (rowL enC L ++ rowL enC es) → Appended B wr y (.slice ga L.length gc) u6 → Calls Try.prog 11 #[.pointer (some ⟨X, 0, none⟩), .int .i64 (k : Int), .slice ua es.length uc] y (PPost y B X S (if true = true then readyP (paE nn f (k + 1) (L ++ es)) else paE nn f (k + 1) (L ++ es)) (.bool true))) := fun y u6 o6 a6 => by
                        have := HPP.out y u6 o6 a6
                        rw [ep] at this
                        exact this
                      have r1 : ((k : Int) + 1 == m) = true := by simp; omega
                      have r2 : decide ((k : Int) + 1 = m) = true := decide_eq_true (by omega)
                      clear ep HS c3 c3' hL HPP
                      go_wp2_with (first
                        | (go_at_call 24; refine Calls.mono (HMJ.out _) ?_; rintro r w8 ⟨rfl, hw8⟩; rw [← hw8]; clear hw8)
                        | (go_at_call 11; refine Calls.mono (HP2.out _ _ O6.out A6.out) ?_; rintro r w7 ⟨S7, rfl, p7, k7⟩; have I7 : Hid ((true = false → (k : Int) + 1 < m) → AdI w w7 B X S7 m nn f (k + 1) (L ++ es) true (.slice p6 n6 q6)) := (fun hb => HI.out.step HES.out HL3.out O6.out A6.out hb p7 k7); clear p7 k7)
                        | (at_builtin; refine wpList_app_row (k := 7) (enc := enC) (l := es) rfl (.tmp 75) (.tmp 79) 30 38 rfl i0 _ 64 Try.underlying30 hi hz0 hz1 hz2 rfl (by decide) enC_len enC_one (base := B) rfl rfl HI.out.own HR5.out HI.out.base (by have := HLL.out; omega) (by have := HLL.out; omega) ?_; intro u6 w6 o6 a6; obtain ⟨p6, n6, q6, rfl⟩ := own_form o6; have NS6 : Hid (L.length + es.length = n6) := own_n o6; have O6 : Hid _ := o6; have A6 : Hid _ := a6; have z6 := ZK.out w6 a6.below; clear o6 a6))
                      go_roundg (nn - (k + 1))
                      case measure => omega
                      case rel => exact ⟨k + 1, L ++ es, true, S7, p6, q6, by omega, rfl, by go_num, by rw [List.length_append, NS6.out], rfl, by rw [List.length_append, NS6.out]; exact I7.out (fun h => by cases h)⟩
          · have c2 : decide ((k : Int) < (P.length : Int)) = false := decide_eq_false (by omega)
            have c2' : decide (k < P.length) = false := decide_eq_false hk2
            go_wp2
            go_meet
            case rel => exact ⟨k, L, b, S, ga, gc, rfl, rfl, by omega, HI⟩
        · have c1 : decide ((k : Int) < (nn : Int)) = false := decide_eq_false (by omega)
          have c1' : decide (k < nn) = false := decide_eq_false hk1
          go_wp2
          go_meet
          case rel => exact ⟨k, L, b, S, ga, gc, rfl, rfl, by omega, HI⟩
    case rest =>
      clear P1 B1
      obtain ⟨k, L, b, S, ga, gc, rfl, rfl, hk, HI⟩ := hcut
      cases b with
      | false =>
        have st : PS wc B X S (paE nn f k L) := HI.out.st
        have QV : Hid _ := pvals_any st (pa_lim hf1 hf2 HI.out.slots)
        have QR : Hid (∀ y, Below wc.heap.size wc y → Calls Try.prog 19 #[.pointer (some ⟨X, 0, none⟩)] y fun e w' => e = .returned (.bool false) ∧ w' = y) := fun y b => pready_any (st.fresh b)
        clear st
        go_wp2_with (first
          | (go_at_call 8; refine (awake_any _).mono ?_; rintro r w9 ⟨rfl, b9⟩)
          | (go_at_call 19; refine Calls.mono (QR.out _ b2) ?_; rintro r w3 ⟨rfl, hw3⟩; rw [hw3]; clear hw3)
          | (go_at_call 21; refine Calls.mono QV.out ?_; rintro r w2 ⟨u2, rfl, o2, b2⟩; obtain ⟨p2, c2, hu2⟩ := (OwnEn.row o2).form; have hu2' : u2 = .slice p2 0 c2 := hu2; subst hu2'; clear o2 hu2))
        go_ret
        exact ⟨rfl, bmm (bmm HI.out.below HI.out.base b2) (Nat.le_trans HI.out.base b2.size) b9⟩
      | true =>
        have st : PS wc B X S (readyP (paE nn f k L)) := HI.out.st
        obtain ⟨V, hV⟩ : ∃ V, V = valsR 17 f (insA f [] L) := ⟨_, rfl⟩
        obtain ⟨K, hK⟩ : ∃ K, K = spanK f L := ⟨_, rfl⟩
        obtain ⟨N, hN⟩ : ∃ N, N = K + 1 := ⟨_, rfl⟩
        have hVl : V.length = N := by rw [hV, hN, hK, vals_len]
        have hK1 : K ≤ 1001 := by rw [hK]; exact spanK_le HI.out.slots
        have HVA : Hid (∀ i, i < K → V[i]? = some ⟨f + i, 17, cmdOf (scanE (f + i) L)⟩) := fun i hi => by rw [hV]; exact vals_at (by rw [← hK]; exact hi)
        have HVE : Hid (V[K]? = some (termE 17 (f + K)) ∧ scanE (f + K) L = none) := by rw [hV, hK]; exact vals_end f L
        have QV : Hid (Calls Try.prog 21 #[.pointer (some ⟨X, 0, none⟩)] wc (AskPost wc V)) := by
          rw [hV]
          exact pvals_any st (pa_limR hf1 hf2 HI.out.slots)
        have dN : (N : Int) - 1 = (K : Int) := by omega
        have hN1 : N ≤ 1002 := by omega
        have hN0 : 0 < N := by omega
        have HN : Hid (N = K + 1 ∧ V.length = N) := ⟨hN, hVl⟩
        have hLL : L.length ≤ 5000 := by have := HI.out.len; omega
        clear st hV hK hN hVl
        go_wp2_with (go_at_call 21; refine Calls.mono QV.out ?_; rintro r w2 ⟨u2, rfl, o2, b2⟩; obtain ⟨p2, c2, hu2⟩ := (OwnEn.row o2).form; rw [HN.out.2] at hu2; subst hu2; have O2 : Hid _ := OwnEn.row o2; have L2 : Hid (RowAt enC w2 (.slice ga L.length gc) L) := (OwnEn.row HI.out.own).fresh b2; have B2 : Hid (Below B w w2) := bmm HI.out.below HI.out.base b2; have BB : Hid (B ≤ w2.heap.size) := (Nat.le_trans HI.out.base b2.size); clear o2 b2)
        clear QV
        go_loopg [13, 14, 15, 16] N (fun gh i _ _ _ wr => ∃ j : Nat, j ≤ N ∧ gh = N - j ∧ i = .int .i64 j ∧ Hid (Below w2.heap.size w2 wr))
        case atStart => exact ⟨0, Nat.zero_le _, rfl, rfl, Below.refl _ _⟩
        case round =>
          obtain ⟨j, hj, rfl, rfl, BR⟩ := hrel
          obtain ⟨bk, off, cp, e, _, _, hc⟩ := O2.out.cells enC_len (by rw [HN.out.2]; omega)
          simp only [Value.slice.injEq] at e
          obtain ⟨rfl, hNV, rfl⟩ := e
          clear hNV
          have VC : Hid (∀ (y : World) (i : Nat) (x : En) (c : Nat) (u : Value), Below w2.heap.size w2 y → V[i]? = some x → c < 7 → (enC x)[c]? = some u → y.cell? ⟨bk, off + i * 7 + c, none⟩ = some u) := fun y i x c u b hx hc7 hu => by
            obtain ⟨hi, ex⟩ := List.getElem?_eq_some_iff.1 hx
            obtain ⟨bk', off', cp', e', _, hbk', hc'⟩ := O2.out.cells enC_len (by omega)
            simp only [Value.slice.injEq, Option.some.injEq, Addr.mk.injEq] at e'
            obtain ⟨⟨rfl, rfl, _⟩, _⟩ := e'
            exact (b.cell (p := ⟨bk, off + i * 7 + c, none⟩) (by exact hbk')).trans (hc' i hi c u hc7 (by rw [ex]; exact hu))
          clear hc
          by_cases hjN : j < N
          · have d1 : decide ((j : Int) < (N : Int)) = true := decide_eq_true (by omega)
            have d1' : decide (j < N) = true := decide_eq_true hjN
            have i1 : (j : Int) < (N : Int) := by omega
            have i2 : (0 : Int) ≤ (j : Int) := by omega
            have i3 : ((j : Int)).toNat = j := by omega
            obtain ⟨x, hx, hxs, hxb, hxc⟩ : ∃ x : En, V[j]? = some x ∧ x.slot = f + j ∧ x.ballot = 17 ∧ ((j < K ∧ x.cmd = cmdOf (scanE (f + j) L)) ∨ (j = K ∧ scanE (f + j) L = none)) := by
              by_cases h : j < K
              · exact ⟨_, HVA.out j h, rfl, rfl, Or.inl ⟨h, rfl⟩⟩
              · have ej : j = K := by have := HN.out.1; omega
                subst ej
                exact ⟨_, HVE.out.1, rfl, rfl, Or.inr ⟨rfl, HVE.out.2⟩⟩
            have Y0 : Hid (∀ y, Below w2.heap.size w2 y → y.cell? ⟨bk, off + j * 7, none⟩ = some (.int .i64 (f + (j : Int)))) := fun y b => by
              have := VC.out y j x 0 (.int .i64 x.slot) b hx (by decide) rfl
              rw [hxs, Nat.add_zero] at this
              exact this
            have Y1 : Hid (∀ y, Below w2.heap.size w2 y → y.cell? ⟨bk, off + j * 7 + 1, none⟩ = some (.int .i64 17)) := fun y b => by
              have := VC.out y j x 1 (.int .i64 x.ballot) b hx (by decide) rfl
              rw [hxb] at this
              exact this
            have YC : Hid (∀ (y : World) c u, Below w2.heap.size w2 y → c < 7 → (enC x)[c]? = some u → y.cell? ⟨bk, off + j * 7 + c, none⟩ = some u) := fun y c u b h1 h2 => VC.out y j x c u b hx h1 h2
            have HXC : Hid _ := hxc
            have y0 := Y0.out _ BR.out
            have y1 := Y1.out _ BR.out
            obtain ⟨w8, hw8⟩ : ∃ w8, w8 = wr.alloc (.cells #[.int .i64 0, .int .i64 0, .int .i64 0, .int .i64 0, .int .i64 0, .string ⟨#[]⟩, .int .i64 0] 38) := ⟨_, rfl⟩
            obtain ⟨A, hA⟩ : ∃ A, A = wr.heap.size := ⟨_, rfl⟩
            have A8 : Hid (w8.heap[A]? = some (.cells (enA En.zero) 38 (0, 0))) := by show _ = _; rw [hA, hw8]; exact heap_alloc_new wr _
            have B8 : Hid (Below w2.heap.size w2 w8) := by show Below _ _ _; rw [hw8]; exact BR.out.alloc BR.out.size _
            have HAge : Hid (w2.heap.size ≤ A) := by show _ ≤ _; rw [hA]; exact BR.out.size
            have HW8 : Hid (wr.alloc (.cells #[.int .i64 0, .int .i64 0, .int .i64 0, .int .i64 0, .int .i64 0, .string ⟨#[]⟩, .int .i64 0] 38) = w8) := hw8.symm
            have HA8 : Hid (wr.heap.size = A) := hA.symm
            clear hx hxs hxb hxc hw8 hA VC
            go_upto_region 32 with fail
            rw [HW8.out, HA8.out]
            clear HW8 HA8 y0 y1
            go_wp2
            go_loopg [15, 16] L.length (fun gh sm i wx => ∃ kk : Nat, kk ≤ L.length ∧ gh = L.length - kk ∧ i = .int .i64 kk ∧ sm = .bool (scanE (f + j) (L.take kk)).isSome ∧ Hid (wx.heap[A]? = some (.cells (enA ((scanE (f + j) (L.take kk)).getD En.zero)) 38 (0, 0))) ∧ Hid (Below w2.heap.size w2 wx))
            case atStart => exact ⟨0, Nat.zero_le _, rfl, rfl, rfl, A8, B8⟩
            case round =>
              clear A8 B8 BR
              obtain ⟨kk, hkk, rfl, rfl, rfl, HAx, BX⟩ := hrel
              have BXd : Hid (Below w2.heap.size w2 wr.drew) := ⟨BX.out.os, BX.out.tape, BX.out.output, BX.out.size, BX.out.block⟩
              have y0 := Y0.out _ BX.out
              have y0d := Y0.out _ BXd.out
              by_cases hkl : kk < L.length
              · have d2 : decide ((kk : Int) < (L.length : Int)) = true := decide_eq_true (by omega)
                have d2' : decide (kk < L.length) = true := decide_eq_true hkl
                have j1 : (kk : Int) < (L.length : Int) := by omega
                have j2 : (0 : Int) ≤ (kk : Int) := by omega
                have j3 : ((kk : Int)).toNat = kk := by omega
                obtain ⟨x3, hx3⟩ : ∃ x3, x3 = L[kk] := ⟨_, rfl⟩
                have hst : scanE (f + j) (L.take (kk + 1)) = moreE (f + j) (scanE (f + j) (L.take kk)) x3 := by
                  rw [List.take_succ_eq_append_getElem hkl, ← hx3]
                  unfold scanE
                  rw [List.foldl_append]
                  rfl
                obtain ⟨bk3, off3, cp3, e3, _, _, hc3⟩ := (L2.out.fresh BX.out).cells enC_len (by omega)
                have hc3d := ((L2.out.fresh BXd.out).cells enC_len (by omega))
                simp only [Value.slice.injEq] at e3
                obtain ⟨rfl, _, rfl⟩ := e3
                obtain ⟨bk4, off4, cp4, e4, _, _, hc4⟩ := hc3d
                simp only [Value.slice.injEq, Option.some.injEq, Addr.mk.injEq] at e4
                obtain ⟨⟨rfl, rfl, _⟩, _, rfl⟩ := e4
                have z0 := hc3 kk hkl 0 (.int .i64 x3.slot) (by decide) (by rw [← hx3]; rfl)
                have zd0 := hc4 kk hkl 0 (.int .i64 x3.slot) (by decide) (by rw [← hx3]; rfl)
                have z1 := hc3 kk hkl 1 (.int .i64 x3.ballot) (by decide) (by rw [← hx3]; rfl)
                have zd1 := hc4 kk hkl 1 (.int .i64 x3.ballot) (by decide) (by rw [← hx3]; rfl)
                have z2 := hc3 kk hkl 2 (.int .i64 x3.cmd.kind) (by decide) (by rw [← hx3]; rfl)
                have zd2 := hc4 kk hkl 2 (.int .i64 x3.cmd.kind) (by decide) (by rw [← hx3]; rfl)
                have z3 := hc3 kk hkl 3 (.int .i64 x3.cmd.session) (by decide) (by rw [← hx3]; rfl)
                have zd3 := hc4 kk hkl 3 (.int .i64 x3.cmd.session) (by decide) (by rw [← hx3]; rfl)
                have z4 := hc3 kk hkl 4 (.int .i64 x3.cmd.seq) (by decide) (by rw [← hx3]; rfl)
                have zd4 := hc4 kk hkl 4 (.int .i64 x3.cmd.seq) (by decide) (by rw [← hx3]; rfl)
                have z5 := hc3 kk hkl 5 (.string x3.cmd.name) (by decide) (by rw [← hx3]; rfl)
                have zd5 := hc4 kk hkl 5 (.string x3.cmd.name) (by decide) (by rw [← hx3]; rfl)
                have z6 := hc3 kk hkl 6 (.int .i64 x3.cmd.n) (by decide) (by rw [← hx3]; rfl)
                have zd6 := hc4 kk hkl 6 (.int .i64 x3.cmd.n) (by decide) (by rw [← hx3]; rfl)
                rw [Nat.add_zero] at z0 zd0
                clear hc3 hc4 hx3
                obtain ⟨o, ho⟩ : ∃ o, o = scanE (f + j) (L.take kk) := ⟨_, rfl⟩
                rw [← ho] at HAx hst ⊢
                clear ho
                have HAd : Hid (wr.drew.heap[A]? = some (.cells (enA (o.getD En.zero)) 38 (0, 0))) := HAx
                obtain ⟨yb, hyb⟩ : ∃ yb, yb = (o.getD En.zero).ballot := ⟨_, rfl⟩
                have b1 := boxE HAx.out 1 (.int .i64 yb) (by rw [hyb]; rfl)
                by_cases hs : x3.slot = f + j
                · have s1 : (x3.slot == f + (j : Int)) = true := by simp [hs]
                  have s2 : decide (x3.slot = f + (j : Int)) = true := decide_eq_true hs
                  cases o with
                  | none =>
                    have HST : Hid (scanE (f + j) (L.take (kk + 1)) = some x3) := by show _ = _; rw [hst]; unfold moreE; rw [if_pos hs]
                    clear hst hs hyb
                    go_upto_region 35 with fail
                    refine wp_region_held_drew (S := (fun y : World => y.cell? ⟨bk3, off3 + kk * 7, none⟩ = some (.int .i64 x3.slot) ∧ y.cell? ⟨bk, off + j * 7, none⟩ = some (.int .i64 (f + (j : Int))) ∧ y.cell? ⟨bk3, off3 + kk * 7 + 1, none⟩ = some (.int .i64 x3.ballot) ∧ y.cell? ⟨A, 1, none⟩ = some (.int .i64 yb))) (by kernel_rfl) ?_ (fun hHeld0 => ?_)
                    · try dsimp only
                      exact ⟨by assumption, by assumption, by assumption, by assumption⟩
                    refine tk0 (.slice (some ⟨bk3, off3, none⟩) L.length gc) (by kernel_rfl) (by kernel_rfl) (by kernel_rfl) (fun _ _ _ h => h) rfl (fun w hSw => by (try dsimp only at hSw); obtain ⟨s0, s1, s2, s3⟩ := hSw; go_simp) (by assumption) ?_
                    try simp only [Act.put, List.setIfInBounds_toArray, List.set_cons_zero, List.set_cons_succ]
                    refine tk1 (.int .i64 (kk : Int)) (by kernel_rfl) (by kernel_rfl) (by kernel_rfl) (fun _ _ _ h => h) rfl (fun w hSw => by (try dsimp only at hSw); obtain ⟨s0, s1, s2, s3⟩ := hSw; go_simp) (by assumption) ?_
                    try simp only [Act.put, List.setIfInBounds_toArray, List.set_cons_zero, List.set_cons_succ]
                    refine tk2 (.pointer (some ⟨bk3, off3 + kk * 7, none⟩)) (by kernel_rfl) (by kernel_rfl) (by kernel_rfl) (fun _ _ _ h => h) rfl (fun w hSw => by (try dsimp only at hSw); obtain ⟨s0, s1, s2, s3⟩ := hSw; go_simp) (by assumption) ?_
                    try simp only [Act.put, List.setIfInBounds_toArray, List.set_cons_zero, List.set_cons_succ]
                    refine tk3 (.pointer (some ⟨bk3, off3 + kk * 7, none⟩)) (by kernel_rfl) (by kernel_rfl) (by kernel_rfl) (fun _ _ _ h => h) rfl (fun w hSw => by (try dsimp only at hSw); obtain ⟨s0, s1, s2, s3⟩ := hSw; go_simp) (by assumption) ?_
                    try simp only [Act.put, List.setIfInBounds_toArray, List.set_cons_zero, List.set_cons_succ]
                    refine tk4 (.int .i64 x3.slot) (by kernel_rfl) (by kernel_rfl) (by kernel_rfl) (fun _ _ _ h => h) rfl (fun w hSw => by (try dsimp only at hSw); obtain ⟨s0, s1, s2, s3⟩ := hSw; go_simp) (by assumption) ?_
                    try simp only [Act.put, List.setIfInBounds_toArray, List.set_cons_zero, List.set_cons_succ]
                    refine tk5 (.slice (some ⟨bk, off, none⟩) N c2) (by kernel_rfl) (by kernel_rfl) (by kernel_rfl) (fun _ _ _ h => h) rfl (fun w hSw => by (try dsimp only at hSw); obtain ⟨s0, s1, s2, s3⟩ := hSw; go_simp) (by assumption) ?_
                    try simp only [Act.put, List.setIfInBounds_toArray, List.set_cons_zero, List.set_cons_succ]
                    refine tk6 (.int .i64 (j : Int)) (by kernel_rfl) (by kernel_rfl) (by kernel_rfl) (fun _ _ _ h => h) rfl (fun w hSw => by (try dsimp only at hSw); obtain ⟨s0, s1, s2, s3⟩ := hSw; go_simp) (by assumption) ?_
                    try simp only [Act.put, List.setIfInBounds_toArray, List.set_cons_zero, List.set_cons_succ]
                    refine tk7 (.pointer (some ⟨bk, off + j * 7, none⟩)) (by kernel_rfl) (by kernel_rfl) (by kernel_rfl) (fun _ _ _ h => h) rfl (fun w hSw => by (try dsimp only at hSw); obtain ⟨s0, s1, s2, s3⟩ := hSw; go_simp) (by assumption) ?_
                    try simp only [Act.put, List.setIfInBounds_toArray, List.set_cons_zero, List.set_cons_succ]
                    refine tk8 (.pointer (some ⟨bk, off + j * 7, none⟩)) (by kernel_rfl) (by kernel_rfl) (by kernel_rfl) (fun _ _ _ h => h) rfl (fun w hSw => by (try dsimp only at hSw); obtain ⟨s0, s1, s2, s3⟩ := hSw; go_simp) (by assumption) ?_
                    try simp only [Act.put, List.setIfInBounds_toArray, List.set_cons_zero, List.set_cons_succ]
                    refine tk9 (.int .i64 (f + (j : Int))) (by kernel_rfl) (by kernel_rfl) (by kernel_rfl) (fun _ _ _ h => h) rfl (fun w hSw => by (try dsimp only at hSw); obtain ⟨s0, s1, s2, s3⟩ := hSw; go_simp) (by assumption) ?_
                    try simp only [Act.put, List.setIfInBounds_toArray, List.set_cons_zero, List.set_cons_succ]
                    refine tk10 (.bool true) (by kernel_rfl) (by kernel_rfl) (by kernel_rfl) (fun _ _ _ h => h) rfl (fun w hSw => by (try dsimp only at hSw); obtain ⟨s0, s1, s2, s3⟩ := hSw; go_simp) (by assumption) ?_
                    try simp only [Act.put, List.setIfInBounds_toArray, List.set_cons_zero, List.set_cons_succ]
                    refine tk11 (.bool true) (by kernel_rfl) (by kernel_rfl) (by kernel_rfl) (fun _ _ _ h => h) rfl (fun w hSw => by (try dsimp only at hSw); obtain ⟨s0, s1, s2, s3⟩ := hSw; go_simp) (by assumption) ?_
                    try simp only [Act.put, List.setIfInBounds_toArray, List.set_cons_zero, List.set_cons_succ]
                    refine tk12 (.bool false) (by kernel_rfl) (by kernel_rfl) (by kernel_rfl) (fun _ _ _ h => h) rfl (fun w hSw => by (try dsimp only at hSw); obtain ⟨s0, s1, s2, s3⟩ := hSw; go_simp) (by assumption) ?_
                    try simp only [Act.put, List.setIfInBounds_toArray, List.set_cons_zero, List.set_cons_succ]
                    refine tk13 (.bool true) (by kernel_rfl) (by kernel_rfl) (by kernel_rfl) (fun _ _ _ h => h) rfl (fun w hSw => by (try dsimp only at hSw); obtain ⟨s0, s1, s2, s3⟩ := hSw; go_simp) (by assumption) ?_
                    try simp only [Act.put, List.setIfInBounds_toArray, List.set_cons_zero, List.set_cons_succ]
                    refine tk14 (.bool true) (by kernel_rfl) (by kernel_rfl) (by kernel_rfl) (fun _ _ _ h => h) rfl (fun w hSw => by (try dsimp only at hSw); obtain ⟨s0, s1, s2, s3⟩ := hSw; go_simp) (by assumption) ?_
                    try simp only [Act.put, List.setIfInBounds_toArray, List.set_cons_zero, List.set_cons_succ]
                    refine sk15 (by kernel_rfl) (by kernel_rfl) (by kernel_rfl) (fun _ _ _ h => h) rfl (by assumption) ?_
                    try simp only [Act.put, List.setIfInBounds_toArray, List.set_cons_zero, List.set_cons_succ]
                    refine sk16 (by kernel_rfl) (by kernel_rfl) (by kernel_rfl) (fun _ _ _ h => h) rfl (by assumption) ?_
                    try simp only [Act.put, List.setIfInBounds_toArray, List.set_cons_zero, List.set_cons_succ]
                    refine sk17 (by kernel_rfl) (by kernel_rfl) (by kernel_rfl) (fun _ _ _ h => h) rfl (by assumption) ?_
                    try simp only [Act.put, List.setIfInBounds_toArray, List.set_cons_zero, List.set_cons_succ]
                    refine sk18 (by kernel_rfl) (by kernel_rfl) (by kernel_rfl) (fun _ _ _ h => h) rfl (by assumption) ?_
                    try simp only [Act.put, List.setIfInBounds_toArray, List.set_cons_zero, List.set_cons_succ]
                    refine sk19 (by kernel_rfl) (by kernel_rfl) (by kernel_rfl) (fun _ _ _ h => h) rfl (by assumption) ?_
                    try simp only [Act.put, List.setIfInBounds_toArray, List.set_cons_zero, List.set_cons_succ]
                    refine sk20 (by kernel_rfl) (by kernel_rfl) (by kernel_rfl) (fun _ _ _ h => h) rfl (by assumption) ?_
                    try simp only [Act.put, List.setIfInBounds_toArray, List.set_cons_zero, List.set_cons_succ]
                    refine sk21 (by kernel_rfl) (by kernel_rfl) (by kernel_rfl) (fun _ _ _ h => h) rfl (by assumption) ?_
                    try simp only [Act.put, List.setIfInBounds_toArray, List.set_cons_zero, List.set_cons_succ]
                    refine sk22 (by kernel_rfl) (by kernel_rfl) (by kernel_rfl) (fun _ _ _ h => h) rfl (by assumption) ?_
                    try simp only [Act.put, List.setIfInBounds_toArray, List.set_cons_zero, List.set_cons_succ]
                    refine tk23 (.bool true) (by kernel_rfl) (by kernel_rfl) (by kernel_rfl) (fun _ _ _ h => h) rfl (fun w hSw => by (try dsimp only at hSw); obtain ⟨s0, s1, s2, s3⟩ := hSw; go_simp) (by assumption) ?_
                    try simp only [Act.put, List.setIfInBounds_toArray, List.set_cons_zero, List.set_cons_succ]
                    refine tk24 (.bool true) (by kernel_rfl) (by kernel_rfl) (by kernel_rfl) (fun _ _ _ h => h) rfl (fun w hSw => by (try dsimp only at hSw); obtain ⟨s0, s1, s2, s3⟩ := hSw; go_simp) (by assumption) ?_
                    try simp only [Act.put, List.setIfInBounds_toArray, List.set_cons_zero, List.set_cons_succ]
                    refine wpAnyH_done (by kernel_rfl) ?_ _
                    go_wp2_with (show wpList _ _ _ (⟨_, Op.store 38 _ _, _, _, _, _⟩ :: _) _ _; refine store_row_g rfl 38 _ _ rfl A (enA x3) rfl rfl 38 _ HAd.out sizeEnP rfl (by simp [Value.oneCell']) ?_; intro w6 h6 g6; have H6 : Hid _ := h6; have B6 : Hid (Below w2.heap.size w2 w6) := BXd.out.grown g6 BXd.out.size (fun k hk => by have := Option.some.inj hk; have := HAge.out; omega); clear h6 g6)
                    go_roundg (L.length - (kk + 1))
                    case measure => omega
                    case rel => exact ⟨kk + 1, hkl, rfl, by go_num, by first | (rw [HST.out]; done) | (rw [HST.out]; rfl), by rw [HST.out]; exact H6.out, B6.out⟩
                  | some yy =>
                    by_cases hb : yy.ballot < x3.ballot
                    · have HST : Hid (scanE (f + j) (L.take (kk + 1)) = some x3) := by show _ = _; rw [hst]; unfold moreE; rw [if_pos hs]; show (if yy.ballot < x3.ballot then some x3 else some yy) = _; rw [if_pos hb]
                      have t1 : decide (yb < x3.ballot) = true := decide_eq_true (by rw [hyb]; exact hb)
                      clear hst hs hyb hb
                      go_upto_region 35 with fail
                      refine wp_region_held_drew (S := (fun y : World => y.cell? ⟨bk3, off3 + kk * 7, none⟩ = some (.int .i64 x3.slot) ∧ y.cell? ⟨bk, off + j * 7, none⟩ = some (.int .i64 (f + (j : Int))) ∧ y.cell? ⟨bk3, off3 + kk * 7 + 1, none⟩ = some (.int .i64 x3.ballot) ∧ y.cell? ⟨A, 1, none⟩ = some (.int .i64 yb))) (by kernel_rfl) ?_ (fun hHeld0 => ?_)
                      · try dsimp only
                        exact ⟨by assumption, by assumption, by assumption, by assumption⟩
                      refine tk0 (.slice (some ⟨bk3, off3, none⟩) L.length gc) (by kernel_rfl) (by kernel_rfl) (by kernel_rfl) (fun _ _ _ h => h) rfl (fun w hSw => by (try dsimp only at hSw); obtain ⟨s0, s1, s2, s3⟩ := hSw; go_simp) (by assumption) ?_
                      try simp only [Act.put, List.setIfInBounds_toArray, List.set_cons_zero, List.set_cons_succ]
                      refine tk1 (.int .i64 (kk : Int)) (by kernel_rfl) (by kernel_rfl) (by kernel_rfl) (fun _ _ _ h => h) rfl (fun w hSw => by (try dsimp only at hSw); obtain ⟨s0, s1, s2, s3⟩ := hSw; go_simp) (by assumption) ?_
                      try simp only [Act.put, List.setIfInBounds_toArray, List.set_cons_zero, List.set_cons_succ]
                      refine tk2 (.pointer (some ⟨bk3, off3 + kk * 7, none⟩)) (by kernel_rfl) (by kernel_rfl) (by kernel_rfl) (fun _ _ _ h => h) rfl (fun w hSw => by (try dsimp only at hSw); obtain ⟨s0, s1, s2, s3⟩ := hSw; go_simp) (by assumption) ?_
                      try simp only [Act.put, List.setIfInBounds_toArray, List.set_cons_zero, List.set_cons_succ]
                      refine tk3 (.pointer (some ⟨bk3, off3 + kk * 7, none⟩)) (by kernel_rfl) (by kernel_rfl) (by kernel_rfl) (fun _ _ _ h => h) rfl (fun w hSw => by (try dsimp only at hSw); obtain ⟨s0, s1, s2, s3⟩ := hSw; go_simp) (by assumption) ?_
                      try simp only [Act.put, List.setIfInBounds_toArray, List.set_cons_zero, List.set_cons_succ]
                      refine tk4 (.int .i64 x3.slot) (by kernel_rfl) (by kernel_rfl) (by kernel_rfl) (fun _ _ _ h => h) rfl (fun w hSw => by (try dsimp only at hSw); obtain ⟨s0, s1, s2, s3⟩ := hSw; go_simp) (by assumption) ?_
                      try simp only [Act.put, List.setIfInBounds_toArray, List.set_cons_zero, List.set_cons_succ]
                      refine tk5 (.slice (some ⟨bk, off, none⟩) N c2) (by kernel_rfl) (by kernel_rfl) (by kernel_rfl) (fun _ _ _ h => h) rfl (fun w hSw => by (try dsimp only at hSw); obtain ⟨s0, s1, s2, s3⟩ := hSw; go_simp) (by assumption) ?_
                      try simp only [Act.put, List.setIfInBounds_toArray, List.set_cons_zero, List.set_cons_succ]
                      refine tk6 (.int .i64 (j : Int)) (by kernel_rfl) (by kernel_rfl) (by kernel_rfl) (fun _ _ _ h => h) rfl (fun w hSw => by (try dsimp only at hSw); obtain ⟨s0, s1, s2, s3⟩ := hSw; go_simp) (by assumption) ?_
                      try simp only [Act.put, List.setIfInBounds_toArray, List.set_cons_zero, List.set_cons_succ]
                      refine tk7 (.pointer (some ⟨bk, off + j * 7, none⟩)) (by kernel_rfl) (by kernel_rfl) (by kernel_rfl) (fun _ _ _ h => h) rfl (fun w hSw => by (try dsimp only at hSw); obtain ⟨s0, s1, s2, s3⟩ := hSw; go_simp) (by assumption) ?_
                      try simp only [Act.put, List.setIfInBounds_toArray, List.set_cons_zero, List.set_cons_succ]
                      refine tk8 (.pointer (some ⟨bk, off + j * 7, none⟩)) (by kernel_rfl) (by kernel_rfl) (by kernel_rfl) (fun _ _ _ h => h) rfl (fun w hSw => by (try dsimp only at hSw); obtain ⟨s0, s1, s2, s3⟩ := hSw; go_simp) (by assumption) ?_
                      try simp only [Act.put, List.setIfInBounds_toArray, List.set_cons_zero, List.set_cons_succ]
                      refine tk9 (.int .i64 (f + (j : Int))) (by kernel_rfl) (by kernel_rfl) (by kernel_rfl) (fun _ _ _ h => h) rfl (fun w hSw => by (try dsimp only at hSw); obtain ⟨s0, s1, s2, s3⟩ := hSw; go_simp) (by assumption) ?_
                      try simp only [Act.put, List.setIfInBounds_toArray, List.set_cons_zero, List.set_cons_succ]
                      refine tk10 (.bool true) (by kernel_rfl) (by kernel_rfl) (by kernel_rfl) (fun _ _ _ h => h) rfl (fun w hSw => by (try dsimp only at hSw); obtain ⟨s0, s1, s2, s3⟩ := hSw; go_simp) (by assumption) ?_
                      try simp only [Act.put, List.setIfInBounds_toArray, List.set_cons_zero, List.set_cons_succ]
                      refine tk11 (.bool true) (by kernel_rfl) (by kernel_rfl) (by kernel_rfl) (fun _ _ _ h => h) rfl (fun w hSw => by (try dsimp only at hSw); obtain ⟨s0, s1, s2, s3⟩ := hSw; go_simp) (by assumption) ?_
                      try simp only [Act.put, List.setIfInBounds_toArray, List.set_cons_zero, List.set_cons_succ]
                      refine tk12 (.bool true) (by kernel_rfl) (by kernel_rfl) (by kernel_rfl) (fun _ _ _ h => h) rfl (fun w hSw => by (try dsimp only at hSw); obtain ⟨s0, s1, s2, s3⟩ := hSw; go_simp) (by assumption) ?_
                      try simp only [Act.put, List.setIfInBounds_toArray, List.set_cons_zero, List.set_cons_succ]
                      refine tk13 (.bool false) (by kernel_rfl) (by kernel_rfl) (by kernel_rfl) (fun _ _ _ h => h) rfl (fun w hSw => by (try dsimp only at hSw); obtain ⟨s0, s1, s2, s3⟩ := hSw; go_simp) (by assumption) ?_
                      try simp only [Act.put, List.setIfInBounds_toArray, List.set_cons_zero, List.set_cons_succ]
                      refine tk14 (.bool false) (by kernel_rfl) (by kernel_rfl) (by kernel_rfl) (fun _ _ _ h => h) rfl (fun w hSw => by (try dsimp only at hSw); obtain ⟨s0, s1, s2, s3⟩ := hSw; go_simp) (by assumption) ?_
                      try simp only [Act.put, List.setIfInBounds_toArray, List.set_cons_zero, List.set_cons_succ]
                      refine tk15 (.slice (some ⟨bk3, off3, none⟩) L.length gc) (by kernel_rfl) (by kernel_rfl) (by kernel_rfl) (fun _ _ _ h => h) rfl (fun w hSw => by (try dsimp only at hSw); obtain ⟨s0, s1, s2, s3⟩ := hSw; go_simp) (by assumption) ?_
                      try simp only [Act.put, List.setIfInBounds_toArray, List.set_cons_zero, List.set_cons_succ]
                      refine tk16 (.int .i64 (kk : Int)) (by kernel_rfl) (by kernel_rfl) (by kernel_rfl) (fun _ _ _ h => h) rfl (fun w hSw => by (try dsimp only at hSw); obtain ⟨s0, s1, s2, s3⟩ := hSw; go_simp) (by assumption) ?_
                      try simp only [Act.put, List.setIfInBounds_toArray, List.set_cons_zero, List.set_cons_succ]
                      refine tk17 (.pointer (some ⟨bk3, off3 + kk * 7, none⟩)) (by kernel_rfl) (by kernel_rfl) (by kernel_rfl) (fun _ _ _ h => h) rfl (fun w hSw => by (try dsimp only at hSw); obtain ⟨s0, s1, s2, s3⟩ := hSw; go_simp) (by assumption) ?_
                      try simp only [Act.put, List.setIfInBounds_toArray, List.set_cons_zero, List.set_cons_succ]
                      refine tk18 (.pointer (some ⟨bk3, off3 + kk * 7 + 1, none⟩)) (by kernel_rfl) (by kernel_rfl) (by kernel_rfl) (fun _ _ _ h => h) rfl (fun w hSw => by (try dsimp only at hSw); obtain ⟨s0, s1, s2, s3⟩ := hSw; go_simp) (by assumption) ?_
                      try simp only [Act.put, List.setIfInBounds_toArray, List.set_cons_zero, List.set_cons_succ]
                      refine tk19 (.int .i64 x3.ballot) (by kernel_rfl) (by kernel_rfl) (by kernel_rfl) (fun _ _ _ h => h) rfl (fun w hSw => by (try dsimp only at hSw); obtain ⟨s0, s1, s2, s3⟩ := hSw; go_simp) (by assumption) ?_
                      try simp only [Act.put, List.setIfInBounds_toArray, List.set_cons_zero, List.set_cons_succ]
                      refine tk20 (.pointer (some ⟨A, 1, none⟩)) (by kernel_rfl) (by kernel_rfl) (by kernel_rfl) (fun _ _ _ h => h) rfl (fun w hSw => by (try dsimp only at hSw); obtain ⟨s0, s1, s2, s3⟩ := hSw; go_simp) (by assumption) ?_
                      try simp only [Act.put, List.setIfInBounds_toArray, List.set_cons_zero, List.set_cons_succ]
                      refine tk21 (.int .i64 yb) (by kernel_rfl) (by kernel_rfl) (by kernel_rfl) (fun _ _ _ h => h) rfl (fun w hSw => by (try dsimp only at hSw); obtain ⟨s0, s1, s2, s3⟩ := hSw; go_simp) (by assumption) ?_
                      try simp only [Act.put, List.setIfInBounds_toArray, List.set_cons_zero, List.set_cons_succ]
                      refine tk22 (.bool true) (by kernel_rfl) (by kernel_rfl) (by kernel_rfl) (fun _ _ _ h => h) rfl (fun w hSw => by (try dsimp only at hSw); obtain ⟨s0, s1, s2, s3⟩ := hSw; go_simp) (by assumption) ?_
                      try simp only [Act.put, List.setIfInBounds_toArray, List.set_cons_zero, List.set_cons_succ]
                      refine tk23 (.bool true) (by kernel_rfl) (by kernel_rfl) (by kernel_rfl) (fun _ _ _ h => h) rfl (fun w hSw => by (try dsimp only at hSw); obtain ⟨s0, s1, s2, s3⟩ := hSw; go_simp) (by assumption) ?_
                      try simp only [Act.put, List.setIfInBounds_toArray, List.set_cons_zero, List.set_cons_succ]
                      refine tk24 (.bool true) (by kernel_rfl) (by kernel_rfl) (by kernel_rfl) (fun _ _ _ h => h) rfl (fun w hSw => by (try dsimp only at hSw); obtain ⟨s0, s1, s2, s3⟩ := hSw; go_simp) (by assumption) ?_
                      try simp only [Act.put, List.setIfInBounds_toArray, List.set_cons_zero, List.set_cons_succ]
                      refine wpAnyH_done (by kernel_rfl) ?_ _
                      go_wp2_with (show wpList _ _ _ (⟨_, Op.store 38 _ _, _, _, _, _⟩ :: _) _ _; refine store_row_g rfl 38 _ _ rfl A (enA x3) rfl rfl 38 _ HAd.out sizeEnP rfl (by simp [Value.oneCell']) ?_; intro w6 h6 g6; have H6 : Hid _ := h6; have B6 : Hid (Below w2.heap.size w2 w6) := BXd.out.grown g6 BXd.out.size (fun k hk => by have := Option.some.inj hk; have := HAge.out; omega); clear h6 g6)
                      go_roundg (L.length - (kk + 1))
                      case measure => omega
                      case rel => exact ⟨kk + 1, hkl, rfl, by go_num, by first | (rw [HST.out]; done) | (rw [HST.out]; rfl), by rw [HST.out]; exact H6.out, B6.out⟩
                    · have HST : Hid (scanE (f + j) (L.take (kk + 1)) = some yy) := by show _ = _; rw [hst]; unfold moreE; rw [if_pos hs]; show (if yy.ballot < x3.ballot then some x3 else some yy) = _; rw [if_neg hb]
                      have t1 : decide (yb < x3.ballot) = false := decide_eq_false (by rw [hyb]; exact hb)
                      clear hst hs hyb hb
                      go_upto_region 35 with fail
                      refine wp_region_held_drew (S := (fun y : World => y.cell? ⟨bk3, off3 + kk * 7, none⟩ = some (.int .i64 x3.slot) ∧ y.cell? ⟨bk, off + j * 7, none⟩ = some (.int .i64 (f + (j : Int))) ∧ y.cell? ⟨bk3, off3 + kk * 7 + 1, none⟩ = some (.int .i64 x3.ballot) ∧ y.cell? ⟨A, 1, none⟩ = some (.int .i64 yb))) (by kernel_rfl) ?_ (fun hHeld0 => ?_)
                      · try dsimp only
                        exact ⟨by assumption, by assumption, by assumption, by assumption⟩
                      refine tk0 (.slice (some ⟨bk3, off3, none⟩) L.length gc) (by kernel_rfl) (by kernel_rfl) (by kernel_rfl) (fun _ _ _ h => h) rfl (fun w hSw => by (try dsimp only at hSw); obtain ⟨s0, s1, s2, s3⟩ := hSw; go_simp) (by assumption) ?_
                      try simp only [Act.put, List.setIfInBounds_toArray, List.set_cons_zero, List.set_cons_succ]
                      refine tk1 (.int .i64 (kk : Int)) (by kernel_rfl) (by kernel_rfl) (by kernel_rfl) (fun _ _ _ h => h) rfl (fun w hSw => by (try dsimp only at hSw); obtain ⟨s0, s1, s2, s3⟩ := hSw; go_simp) (by assumption) ?_
                      try simp only [Act.put, List.setIfInBounds_toArray, List.set_cons_zero, List.set_cons_succ]
                      refine tk2 (.pointer (some ⟨bk3, off3 + kk * 7, none⟩)) (by kernel_rfl) (by kernel_rfl) (by kernel_rfl) (fun _ _ _ h => h) rfl (fun w hSw => by (try dsimp only at hSw); obtain ⟨s0, s1, s2, s3⟩ := hSw; go_simp) (by assumption) ?_
                      try simp only [Act.put, List.setIfInBounds_toArray, List.set_cons_zero, List.set_cons_succ]
                      refine tk3 (.pointer (some ⟨bk3, off3 + kk * 7, none⟩)) (by kernel_rfl) (by kernel_rfl) (by kernel_rfl) (fun _ _ _ h => h) rfl (fun w hSw => by (try dsimp only at hSw); obtain ⟨s0, s1, s2, s3⟩ := hSw; go_simp) (by assumption) ?_
                      try simp only [Act.put, List.setIfInBounds_toArray, List.set_cons_zero, List.set_cons_succ]
                      refine tk4 (.int .i64 x3.slot) (by kernel_rfl) (by kernel_rfl) (by kernel_rfl) (fun _ _ _ h => h) rfl (fun w hSw => by (try dsimp only at hSw); obtain ⟨s0, s1, s2, s3⟩ := hSw; go_simp) (by assumption) ?_
                      try simp only [Act.put, List.setIfInBounds_toArray, List.set_cons_zero, List.set_cons_succ]
                      refine tk5 (.slice (some ⟨bk, off, none⟩) N c2) (by kernel_rfl) (by kernel_rfl) (by kernel_rfl) (fun _ _ _ h => h) rfl (fun w hSw => by (try dsimp only at hSw); obtain ⟨s0, s1, s2, s3⟩ := hSw; go_simp) (by assumption) ?_
                      try simp only [Act.put, List.setIfInBounds_toArray, List.set_cons_zero, List.set_cons_succ]
                      refine tk6 (.int .i64 (j : Int)) (by kernel_rfl) (by kernel_rfl) (by kernel_rfl) (fun _ _ _ h => h) rfl (fun w hSw => by (try dsimp only at hSw); obtain ⟨s0, s1, s2, s3⟩ := hSw; go_simp) (by assumption) ?_
                      try simp only [Act.put, List.setIfInBounds_toArray, List.set_cons_zero, List.set_cons_succ]
                      refine tk7 (.pointer (some ⟨bk, off + j * 7, none⟩)) (by kernel_rfl) (by kernel_rfl) (by kernel_rfl) (fun _ _ _ h => h) rfl (fun w hSw => by (try dsimp only at hSw); obtain ⟨s0, s1, s2, s3⟩ := hSw; go_simp) (by assumption) ?_
                      try simp only [Act.put, List.setIfInBounds_toArray, List.set_cons_zero, List.set_cons_succ]
                      refine tk8 (.pointer (some ⟨bk, off + j * 7, none⟩)) (by kernel_rfl) (by kernel_rfl) (by kernel_rfl) (fun _ _ _ h => h) rfl (fun w hSw => by (try dsimp only at hSw); obtain ⟨s0, s1, s2, s3⟩ := hSw; go_simp) (by assumption) ?_
                      try simp only [Act.put, List.setIfInBounds_toArray, List.set_cons_zero, List.set_cons_succ]
                      refine tk9 (.int .i64 (f + (j : Int))) (by kernel_rfl) (by kernel_rfl) (by kernel_rfl) (fun _ _ _ h => h) rfl (fun w hSw => by (try dsimp only at hSw); obtain ⟨s0, s1, s2, s3⟩ := hSw; go_simp) (by assumption) ?_
                      try simp only [Act.put, List.setIfInBounds_toArray, List.set_cons_zero, List.set_cons_succ]
                      refine tk10 (.bool true) (by kernel_rfl) (by kernel_rfl) (by kernel_rfl) (fun _ _ _ h => h) rfl (fun w hSw => by (try dsimp only at hSw); obtain ⟨s0, s1, s2, s3⟩ := hSw; go_simp) (by assumption) ?_
                      try simp only [Act.put, List.setIfInBounds_toArray, List.set_cons_zero, List.set_cons_succ]
                      refine tk11 (.bool true) (by kernel_rfl) (by kernel_rfl) (by kernel_rfl) (fun _ _ _ h => h) rfl (fun w hSw => by (try dsimp only at hSw); obtain ⟨s0, s1, s2, s3⟩ := hSw; go_simp) (by assumption) ?_
                      try simp only [Act.put, List.setIfInBounds_toArray, List.set_cons_zero, List.set_cons_succ]
                      refine tk12 (.bool true) (by kernel_rfl) (by kernel_rfl) (by kernel_rfl) (fun _ _ _ h => h) rfl (fun w hSw => by (try dsimp only at hSw); obtain ⟨s0, s1, s2, s3⟩ := hSw; go_simp) (by assumption) ?_
                      try simp only [Act.put, List.setIfInBounds_toArray, List.set_cons_zero, List.set_cons_succ]
                      refine tk13 (.bool false) (by kernel_rfl) (by kernel_rfl) (by kernel_rfl) (fun _ _ _ h => h) rfl (fun w hSw => by (try dsimp only at hSw); obtain ⟨s0, s1, s2, s3⟩ := hSw; go_simp) (by assumption) ?_
                      try simp only [Act.put, List.setIfInBounds_toArray, List.set_cons_zero, List.set_cons_succ]
                      refine tk14 (.bool false) (by kernel_rfl) (by kernel_rfl) (by kernel_rfl) (fun _ _ _ h => h) rfl (fun w hSw => by (try dsimp only at hSw); obtain ⟨s0, s1, s2, s3⟩ := hSw; go_simp) (by assumption) ?_
                      try simp only [Act.put, List.setIfInBounds_toArray, List.set_cons_zero, List.set_cons_succ]
                      refine tk15 (.slice (some ⟨bk3, off3, none⟩) L.length gc) (by kernel_rfl) (by kernel_rfl) (by kernel_rfl) (fun _ _ _ h => h) rfl (fun w hSw => by (try dsimp only at hSw); obtain ⟨s0, s1, s2, s3⟩ := hSw; go_simp) (by assumption) ?_
                      try simp only [Act.put, List.setIfInBounds_toArray, List.set_cons_zero, List.set_cons_succ]
                      refine tk16 (.int .i64 (kk : Int)) (by kernel_rfl) (by kernel_rfl) (by kernel_rfl) (fun _ _ _ h => h) rfl (fun w hSw => by (try dsimp only at hSw); obtain ⟨s0, s1, s2, s3⟩ := hSw; go_simp) (by assumption) ?_
                      try simp only [Act.put, List.setIfInBounds_toArray, List.set_cons_zero, List.set_cons_succ]
                      refine tk17 (.pointer (some ⟨bk3, off3 + kk * 7, none⟩)) (by kernel_rfl) (by kernel_rfl) (by kernel_rfl) (fun _ _ _ h => h) rfl (fun w hSw => by (try dsimp only at hSw); obtain ⟨s0, s1, s2, s3⟩ := hSw; go_simp) (by assumption) ?_
                      try simp only [Act.put, List.setIfInBounds_toArray, List.set_cons_zero, List.set_cons_succ]
                      refine tk18 (.pointer (some ⟨bk3, off3 + kk * 7 + 1, none⟩)) (by kernel_rfl) (by kernel_rfl) (by kernel_rfl) (fun _ _ _ h => h) rfl (fun w hSw => by (try dsimp only at hSw); obtain ⟨s0, s1, s2, s3⟩ := hSw; go_simp) (by assumption) ?_
                      try simp only [Act.put, List.setIfInBounds_toArray, List.set_cons_zero, List.set_cons_succ]
                      refine tk19 (.int .i64 x3.ballot) (by kernel_rfl) (by kernel_rfl) (by kernel_rfl) (fun _ _ _ h => h) rfl (fun w hSw => by (try dsimp only at hSw); obtain ⟨s0, s1, s2, s3⟩ := hSw; go_simp) (by assumption) ?_
                      try simp only [Act.put, List.setIfInBounds_toArray, List.set_cons_zero, List.set_cons_succ]
                      refine tk20 (.pointer (some ⟨A, 1, none⟩)) (by kernel_rfl) (by kernel_rfl) (by kernel_rfl) (fun _ _ _ h => h) rfl (fun w hSw => by (try dsimp only at hSw); obtain ⟨s0, s1, s2, s3⟩ := hSw; go_simp) (by assumption) ?_
                      try simp only [Act.put, List.setIfInBounds_toArray, List.set_cons_zero, List.set_cons_succ]
                      refine tk21 (.int .i64 yb) (by kernel_rfl) (by kernel_rfl) (by kernel_rfl) (fun _ _ _ h => h) rfl (fun w hSw => by (try dsimp only at hSw); obtain ⟨s0, s1, s2, s3⟩ := hSw; go_simp) (by assumption) ?_
                      try simp only [Act.put, List.setIfInBounds_toArray, List.set_cons_zero, List.set_cons_succ]
                      refine tk22 (.bool false) (by kernel_rfl) (by kernel_rfl) (by kernel_rfl) (fun _ _ _ h => h) rfl (fun w hSw => by (try dsimp only at hSw); obtain ⟨s0, s1, s2, s3⟩ := hSw; go_simp) (by assumption) ?_
                      try simp only [Act.put, List.setIfInBounds_toArray, List.set_cons_zero, List.set_cons_succ]
                      refine tk23 (.bool false) (by kernel_rfl) (by kernel_rfl) (by kernel_rfl) (fun _ _ _ h => h) rfl (fun w hSw => by (try dsimp only at hSw); obtain ⟨s0, s1, s2, s3⟩ := hSw; go_simp) (by assumption) ?_
                      try simp only [Act.put, List.setIfInBounds_toArray, List.set_cons_zero, List.set_cons_succ]
                      refine tk24 (.bool false) (by kernel_rfl) (by kernel_rfl) (by kernel_rfl) (fun _ _ _ h => h) rfl (fun w hSw => by (try dsimp only at hSw); obtain ⟨s0, s1, s2, s3⟩ := hSw; go_simp) (by assumption) ?_
                      try simp only [Act.put, List.setIfInBounds_toArray, List.set_cons_zero, List.set_cons_succ]
                      refine wpAnyH_done (by kernel_rfl) ?_ _
                      go_wp2
                      go_roundg (L.length - (kk + 1))
                      case measure => omega
                      case rel => exact ⟨kk + 1, hkl, rfl, by go_num, by first | (rw [HST.out]; done) | (rw [HST.out]; rfl), by rw [HST.out]; exact HAd.out, BXd.out⟩
                · have s1 : (x3.slot == f + (j : Int)) = false := by simp [hs]
                  have s2 : decide (x3.slot = f + (j : Int)) = false := decide_eq_false hs
                  have HST : Hid (scanE (f + j) (L.take (kk + 1)) = o) := by show _ = _; rw [hst]; unfold moreE; rw [if_neg hs]
                  obtain ⟨sm, hsm⟩ : ∃ sm, sm = o.isSome := ⟨_, rfl⟩
                  rw [← hsm]
                  have HSM : Hid _ := hsm
                  clear hst hs hyb hsm
                  go_upto_region 35 with fail
                  refine wp_region_held_drew (S := (fun y : World => y.cell? ⟨bk3, off3 + kk * 7, none⟩ = some (.int .i64 x3.slot) ∧ y.cell? ⟨bk, off + j * 7, none⟩ = some (.int .i64 (f + (j : Int))) ∧ y.cell? ⟨bk3, off3 + kk * 7 + 1, none⟩ = some (.int .i64 x3.ballot) ∧ y.cell? ⟨A, 1, none⟩ = some (.int .i64 yb))) (by kernel_rfl) ?_ (fun hHeld0 => ?_)
                  · try dsimp only
                    exact ⟨by assumption, by assumption, by assumption, by assumption⟩
                  refine tk0 (.slice (some ⟨bk3, off3, none⟩) L.length gc) (by kernel_rfl) (by kernel_rfl) (by kernel_rfl) (fun _ _ _ h => h) rfl (fun w hSw => by (try dsimp only at hSw); obtain ⟨s0, s1, s2, s3⟩ := hSw; go_simp) (by assumption) ?_
                  try simp only [Act.put, List.setIfInBounds_toArray, List.set_cons_zero, List.set_cons_succ]
                  refine tk1 (.int .i64 (kk : Int)) (by kernel_rfl) (by kernel_rfl) (by kernel_rfl) (fun _ _ _ h => h) rfl (fun w hSw => by (try dsimp only at hSw); obtain ⟨s0, s1, s2, s3⟩ := hSw; go_simp) (by assumption) ?_
                  try simp only [Act.put, List.setIfInBounds_toArray, List.set_cons_zero, List.set_cons_succ]
                  refine tk2 (.pointer (some ⟨bk3, off3 + kk * 7, none⟩)) (by kernel_rfl) (by kernel_rfl) (by kernel_rfl) (fun _ _ _ h => h) rfl (fun w hSw => by (try dsimp only at hSw); obtain ⟨s0, s1, s2, s3⟩ := hSw; go_simp) (by assumption) ?_
                  try simp only [Act.put, List.setIfInBounds_toArray, List.set_cons_zero, List.set_cons_succ]
                  refine tk3 (.pointer (some ⟨bk3, off3 + kk * 7, none⟩)) (by kernel_rfl) (by kernel_rfl) (by kernel_rfl) (fun _ _ _ h => h) rfl (fun w hSw => by (try dsimp only at hSw); obtain ⟨s0, s1, s2, s3⟩ := hSw; go_simp) (by assumption) ?_
                  try simp only [Act.put, List.setIfInBounds_toArray, List.set_cons_zero, List.set_cons_succ]
                  refine tk4 (.int .i64 x3.slot) (by kernel_rfl) (by kernel_rfl) (by kernel_rfl) (fun _ _ _ h => h) rfl (fun w hSw => by (try dsimp only at hSw); obtain ⟨s0, s1, s2, s3⟩ := hSw; go_simp) (by assumption) ?_
                  try simp only [Act.put, List.setIfInBounds_toArray, List.set_cons_zero, List.set_cons_succ]
                  refine tk5 (.slice (some ⟨bk, off, none⟩) N c2) (by kernel_rfl) (by kernel_rfl) (by kernel_rfl) (fun _ _ _ h => h) rfl (fun w hSw => by (try dsimp only at hSw); obtain ⟨s0, s1, s2, s3⟩ := hSw; go_simp) (by assumption) ?_
                  try simp only [Act.put, List.setIfInBounds_toArray, List.set_cons_zero, List.set_cons_succ]
                  refine tk6 (.int .i64 (j : Int)) (by kernel_rfl) (by kernel_rfl) (by kernel_rfl) (fun _ _ _ h => h) rfl (fun w hSw => by (try dsimp only at hSw); obtain ⟨s0, s1, s2, s3⟩ := hSw; go_simp) (by assumption) ?_
                  try simp only [Act.put, List.setIfInBounds_toArray, List.set_cons_zero, List.set_cons_succ]
                  refine tk7 (.pointer (some ⟨bk, off + j * 7, none⟩)) (by kernel_rfl) (by kernel_rfl) (by kernel_rfl) (fun _ _ _ h => h) rfl (fun w hSw => by (try dsimp only at hSw); obtain ⟨s0, s1, s2, s3⟩ := hSw; go_simp) (by assumption) ?_
                  try simp only [Act.put, List.setIfInBounds_toArray, List.set_cons_zero, List.set_cons_succ]
                  refine tk8 (.pointer (some ⟨bk, off + j * 7, none⟩)) (by kernel_rfl) (by kernel_rfl) (by kernel_rfl) (fun _ _ _ h => h) rfl (fun w hSw => by (try dsimp only at hSw); obtain ⟨s0, s1, s2, s3⟩ := hSw; go_simp) (by assumption) ?_
                  try simp only [Act.put, List.setIfInBounds_toArray, List.set_cons_zero, List.set_cons_succ]
                  refine tk9 (.int .i64 (f + (j : Int))) (by kernel_rfl) (by kernel_rfl) (by kernel_rfl) (fun _ _ _ h => h) rfl (fun w hSw => by (try dsimp only at hSw); obtain ⟨s0, s1, s2, s3⟩ := hSw; go_simp) (by assumption) ?_
                  try simp only [Act.put, List.setIfInBounds_toArray, List.set_cons_zero, List.set_cons_succ]
                  refine tk10 (.bool false) (by kernel_rfl) (by kernel_rfl) (by kernel_rfl) (fun _ _ _ h => h) rfl (fun w hSw => by (try dsimp only at hSw); obtain ⟨s0, s1, s2, s3⟩ := hSw; go_simp) (by assumption) ?_
                  try simp only [Act.put, List.setIfInBounds_toArray, List.set_cons_zero, List.set_cons_succ]
                  refine tk11 (.bool false) (by kernel_rfl) (by kernel_rfl) (by kernel_rfl) (fun _ _ _ h => h) rfl (fun w hSw => by (try dsimp only at hSw); obtain ⟨s0, s1, s2, s3⟩ := hSw; go_simp) (by assumption) ?_
                  try simp only [Act.put, List.setIfInBounds_toArray, List.set_cons_zero, List.set_cons_succ]
                  refine sk12 (by kernel_rfl) (by kernel_rfl) (by kernel_rfl) (fun _ _ _ h => h) rfl (by assumption) ?_
                  try simp only [Act.put, List.setIfInBounds_toArray, List.set_cons_zero, List.set_cons_succ]
                  refine sk13 (by kernel_rfl) (by kernel_rfl) (by kernel_rfl) (fun _ _ _ h => h) rfl (by assumption) ?_
                  try simp only [Act.put, List.setIfInBounds_toArray, List.set_cons_zero, List.set_cons_succ]
                  refine sk14 (by kernel_rfl) (by kernel_rfl) (by kernel_rfl) (fun _ _ _ h => h) rfl (by assumption) ?_
                  try simp only [Act.put, List.setIfInBounds_toArray, List.set_cons_zero, List.set_cons_succ]
                  refine sk15 (by kernel_rfl) (by kernel_rfl) (by kernel_rfl) (fun _ _ _ h => h) rfl (by assumption) ?_
                  try simp only [Act.put, List.setIfInBounds_toArray, List.set_cons_zero, List.set_cons_succ]
                  refine sk16 (by kernel_rfl) (by kernel_rfl) (by kernel_rfl) (fun _ _ _ h => h) rfl (by assumption) ?_
                  try simp only [Act.put, List.setIfInBounds_toArray, List.set_cons_zero, List.set_cons_succ]
                  refine sk17 (by kernel_rfl) (by kernel_rfl) (by kernel_rfl) (fun _ _ _ h => h) rfl (by assumption) ?_
                  try simp only [Act.put, List.setIfInBounds_toArray, List.set_cons_zero, List.set_cons_succ]
                  refine sk18 (by kernel_rfl) (by kernel_rfl) (by kernel_rfl) (fun _ _ _ h => h) rfl (by assumption) ?_
                  try simp only [Act.put, List.setIfInBounds_toArray, List.set_cons_zero, List.set_cons_succ]
                  refine sk19 (by kernel_rfl) (by kernel_rfl) (by kernel_rfl) (fun _ _ _ h => h) rfl (by assumption) ?_
                  try simp only [Act.put, List.setIfInBounds_toArray, List.set_cons_zero, List.set_cons_succ]
                  refine sk20 (by kernel_rfl) (by kernel_rfl) (by kernel_rfl) (fun _ _ _ h => h) rfl (by assumption) ?_
                  try simp only [Act.put, List.setIfInBounds_toArray, List.set_cons_zero, List.set_cons_succ]
                  refine sk21 (by kernel_rfl) (by kernel_rfl) (by kernel_rfl) (fun _ _ _ h => h) rfl (by assumption) ?_
                  try simp only [Act.put, List.setIfInBounds_toArray, List.set_cons_zero, List.set_cons_succ]
                  refine sk22 (by kernel_rfl) (by kernel_rfl) (by kernel_rfl) (fun _ _ _ h => h) rfl (by assumption) ?_
                  try simp only [Act.put, List.setIfInBounds_toArray, List.set_cons_zero, List.set_cons_succ]
                  refine sk23 (by kernel_rfl) (by kernel_rfl) (by kernel_rfl) (fun _ _ _ h => h) rfl (by assumption) ?_
                  try simp only [Act.put, List.setIfInBounds_toArray, List.set_cons_zero, List.set_cons_succ]
                  refine tk24 (.bool false) (by kernel_rfl) (by kernel_rfl) (by kernel_rfl) (fun _ _ _ h => h) rfl (fun w hSw => by (try dsimp only at hSw); obtain ⟨s0, s1, s2, s3⟩ := hSw; go_simp) (by assumption) ?_
                  try simp only [Act.put, List.setIfInBounds_toArray, List.set_cons_zero, List.set_cons_succ]
                  refine wpAnyH_done (by kernel_rfl) ?_ _
                  go_wp2
                  go_roundg (L.length - (kk + 1))
                  case measure => omega
                  case rel => exact ⟨kk + 1, hkl, rfl, by go_num, by rw [HST.out, HSM.out], by rw [HST.out]; exact HAd.out, BXd.out⟩
              · have d2 : decide ((kk : Int) < (L.length : Int)) = false := decide_eq_false (by omega)
                have d2' : decide (kk < L.length) = false := decide_eq_false hkl
                have ek : kk = L.length := by omega
                subst ek
                rw [List.take_length] at HAx ⊢
                rcases HXC.out with ⟨hjK, hcm⟩ | ⟨hjK, hno⟩
                · have d3 : decide ((j : Int) < (K : Int)) = true := decide_eq_true (by omega)
                  have d3' : decide (j < K) = true := decide_eq_true hjK
                  have d4 : ((j : Int) == (K : Int)) = false := by simp; omega
                  have d4' : decide ((j : Int) = (K : Int)) = false := decide_eq_false (by omega)
                  have d4'' : (j == K) = false := by simp; omega
                  obtain ⟨o, ho⟩ : ∃ o, o = scanE (f + j) L := ⟨_, rfl⟩
                  rw [← ho] at HAx hcm ⊢
                  obtain ⟨cc, hcc⟩ : ∃ cc, cc = cmdOf o := ⟨_, rfl⟩
                  have hgc : (o.getD En.zero).cmd = cc := by rw [hcc]; cases o <;> rfl
                  rw [← hcc] at hcm
                  have nq := cmd_neq_same cc
                  have wK : IntKind.i64.wrap (K : Int) = (K : Int) := by rw [IntKind.wrap_i64]; omega
                  have v0 := YC.out _ 2 (.int .i64 cc.kind) BX.out (by decide) (by rw [← hcm]; rfl)
                  have a0 := boxE HAx.out 2 (.int .i64 cc.kind) (by rw [← hgc]; rfl)
                  have v1 := YC.out _ 3 (.int .i64 cc.session) BX.out (by decide) (by rw [← hcm]; rfl)
                  have a1 := boxE HAx.out 3 (.int .i64 cc.session) (by rw [← hgc]; rfl)
                  have v2 := YC.out _ 4 (.int .i64 cc.seq) BX.out (by decide) (by rw [← hcm]; rfl)
                  have a2 := boxE HAx.out 4 (.int .i64 cc.seq) (by rw [← hgc]; rfl)
                  have v3 := YC.out _ 5 (.string cc.name) BX.out (by decide) (by rw [← hcm]; rfl)
                  have a3 := boxE HAx.out 5 (.string cc.name) (by rw [← hgc]; rfl)
                  have v4 := YC.out _ 6 (.int .i64 cc.n) BX.out (by decide) (by rw [← hcm]; rfl)
                  have a4 := boxE HAx.out 6 (.int .i64 cc.n) (by rw [← hgc]; rfl)
                  obtain ⟨sm, hsm⟩ : ∃ sm, sm = o.isSome := ⟨_, rfl⟩
                  rw [← hsm]
                  clear ho hcc hgc hcm hsm hjK
                  go_upto_region 37 with fail
                  refine wp_region_held_drew (S := (fun y : World => y.cell? ⟨bk, off + j * 7 + 2, none⟩ = some (.int .i64 cc.kind) ∧ y.cell? ⟨bk, off + j * 7 + 3, none⟩ = some (.int .i64 cc.session) ∧ y.cell? ⟨bk, off + j * 7 + 4, none⟩ = some (.int .i64 cc.seq) ∧ y.cell? ⟨bk, off + j * 7 + 5, none⟩ = some (.string cc.name) ∧ y.cell? ⟨bk, off + j * 7 + 6, none⟩ = some (.int .i64 cc.n) ∧ y.cell? ⟨A, 2, none⟩ = some (.int .i64 cc.kind) ∧ y.cell? ⟨A, 3, none⟩ = some (.int .i64 cc.session) ∧ y.cell? ⟨A, 4, none⟩ = some (.int .i64 cc.seq) ∧ y.cell? ⟨A, 5, none⟩ = some (.string cc.name) ∧ y.cell? ⟨A, 6, none⟩ = some (.int .i64 cc.n))) (by kernel_rfl) ?_ (fun hHeld0 => ?_)
                  · try dsimp only
                    exact ⟨by assumption, by assumption, by assumption, by assumption, by assumption, by assumption, by assumption, by assumption, by assumption, by assumption⟩
                  refine tk0 (.int .i64 (j : Int)) (by kernel_rfl) (by kernel_rfl) (by kernel_rfl) (fun _ _ _ h => h) rfl (fun w hSw => by (try dsimp only at hSw); obtain ⟨s0, s1, s2, s3, s4, s5, s6, s7, s8, s9⟩ := hSw; go_simp) (by assumption) ?_
                  try simp only [Act.put, List.setIfInBounds_toArray, List.set_cons_zero, List.set_cons_succ]
                  refine tk1 (.slice (some ⟨bk, off, none⟩) N c2) (by kernel_rfl) (by kernel_rfl) (by kernel_rfl) (fun _ _ _ h => h) rfl (fun w hSw => by (try dsimp only at hSw); obtain ⟨s0, s1, s2, s3, s4, s5, s6, s7, s8, s9⟩ := hSw; go_simp) (by assumption) ?_
                  try simp only [Act.put, List.setIfInBounds_toArray, List.set_cons_zero, List.set_cons_succ]
                  refine tk2 (.int .i64 (N : Int)) (by kernel_rfl) (by kernel_rfl) (by kernel_rfl) (fun _ _ _ h => h) rfl (fun w hSw => by (try dsimp only at hSw); obtain ⟨s0, s1, s2, s3, s4, s5, s6, s7, s8, s9⟩ := hSw; go_simp) (by assumption) ?_
                  try simp only [Act.put, List.setIfInBounds_toArray, List.set_cons_zero, List.set_cons_succ]
                  refine tk3 (.int .i64 (K : Int)) (by kernel_rfl) (by kernel_rfl) (by kernel_rfl) (fun _ _ _ h => h) rfl (fun w hSw => by (try dsimp only at hSw); obtain ⟨s0, s1, s2, s3, s4, s5, s6, s7, s8, s9⟩ := hSw; go_simp) (by assumption) ?_
                  try simp only [Act.put, List.setIfInBounds_toArray, List.set_cons_zero, List.set_cons_succ]
                  refine tk4 (.bool true) (by kernel_rfl) (by kernel_rfl) (by kernel_rfl) (fun _ _ _ h => h) rfl (fun w hSw => by (try dsimp only at hSw); obtain ⟨s0, s1, s2, s3, s4, s5, s6, s7, s8, s9⟩ := hSw; go_simp) (by assumption) ?_
                  try simp only [Act.put, List.setIfInBounds_toArray, List.set_cons_zero, List.set_cons_succ]
                  refine tk5 (.bool true) (by kernel_rfl) (by kernel_rfl) (by kernel_rfl) (fun _ _ _ h => h) rfl (fun w hSw => by (try dsimp only at hSw); obtain ⟨s0, s1, s2, s3, s4, s5, s6, s7, s8, s9⟩ := hSw; go_simp) (by assumption) ?_
                  try simp only [Act.put, List.setIfInBounds_toArray, List.set_cons_zero, List.set_cons_succ]
                  refine tk6 (.slice (some ⟨bk, off, none⟩) N c2) (by kernel_rfl) (by kernel_rfl) (by kernel_rfl) (fun _ _ _ h => h) rfl (fun w hSw => by (try dsimp only at hSw); obtain ⟨s0, s1, s2, s3, s4, s5, s6, s7, s8, s9⟩ := hSw; go_simp) (by assumption) ?_
                  try simp only [Act.put, List.setIfInBounds_toArray, List.set_cons_zero, List.set_cons_succ]
                  refine tk7 (.int .i64 (j : Int)) (by kernel_rfl) (by kernel_rfl) (by kernel_rfl) (fun _ _ _ h => h) rfl (fun w hSw => by (try dsimp only at hSw); obtain ⟨s0, s1, s2, s3, s4, s5, s6, s7, s8, s9⟩ := hSw; go_simp) (by assumption) ?_
                  try simp only [Act.put, List.setIfInBounds_toArray, List.set_cons_zero, List.set_cons_succ]
                  refine tk8 (.pointer (some ⟨bk, off + j * 7, none⟩)) (by kernel_rfl) (by kernel_rfl) (by kernel_rfl) (fun _ _ _ h => h) rfl (fun w hSw => by (try dsimp only at hSw); obtain ⟨s0, s1, s2, s3, s4, s5, s6, s7, s8, s9⟩ := hSw; go_simp) (by assumption) ?_
                  try simp only [Act.put, List.setIfInBounds_toArray, List.set_cons_zero, List.set_cons_succ]
                  refine tk9 (.pointer (some ⟨bk, off + j * 7 + 2, none⟩)) (by kernel_rfl) (by kernel_rfl) (by kernel_rfl) (fun _ _ _ h => h) rfl (fun w hSw => by (try dsimp only at hSw); obtain ⟨s0, s1, s2, s3, s4, s5, s6, s7, s8, s9⟩ := hSw; go_simp) (by assumption) ?_
                  try simp only [Act.put, List.setIfInBounds_toArray, List.set_cons_zero, List.set_cons_succ]
                  refine tk10 (.agg #[.int .i64 cc.kind, .int .i64 cc.session, .int .i64 cc.seq, .string cc.name, .int .i64 cc.n]) (by kernel_rfl) (by kernel_rfl) (by kernel_rfl) (fun _ _ _ h => h) rfl (fun w hSw => by (try dsimp only at hSw); obtain ⟨s0, s1, s2, s3, s4, s5, s6, s7, s8, s9⟩ := hSw; go_simp) (by assumption) ?_
                  try simp only [Act.put, List.setIfInBounds_toArray, List.set_cons_zero, List.set_cons_succ]
                  refine tk11 (.pointer (some ⟨A, 2, none⟩)) (by kernel_rfl) (by kernel_rfl) (by kernel_rfl) (fun _ _ _ h => h) rfl (fun w hSw => by (try dsimp only at hSw); obtain ⟨s0, s1, s2, s3, s4, s5, s6, s7, s8, s9⟩ := hSw; go_simp) (by assumption) ?_
                  try simp only [Act.put, List.setIfInBounds_toArray, List.set_cons_zero, List.set_cons_succ]
                  refine tk12 (.agg #[.int .i64 cc.kind, .int .i64 cc.session, .int .i64 cc.seq, .string cc.name, .int .i64 cc.n]) (by kernel_rfl) (by kernel_rfl) (by kernel_rfl) (fun _ _ _ h => h) rfl (fun w hSw => by (try dsimp only at hSw); obtain ⟨s0, s1, s2, s3, s4, s5, s6, s7, s8, s9⟩ := hSw; go_simp) (by assumption) ?_
                  try simp only [Act.put, List.setIfInBounds_toArray, List.set_cons_zero, List.set_cons_succ]
                  refine tk13 (.bool false) (by kernel_rfl) (by kernel_rfl) (by kernel_rfl) (fun _ _ _ h => h) rfl (fun w hSw => by (try dsimp only at hSw); obtain ⟨s0, s1, s2, s3, s4, s5, s6, s7, s8, s9⟩ := hSw; go_simp) (by assumption) ?_
                  try simp only [Act.put, List.setIfInBounds_toArray, List.set_cons_zero, List.set_cons_succ]
                  refine tk14 (.bool false) (by kernel_rfl) (by kernel_rfl) (by kernel_rfl) (fun _ _ _ h => h) rfl (fun w hSw => by (try dsimp only at hSw); obtain ⟨s0, s1, s2, s3, s4, s5, s6, s7, s8, s9⟩ := hSw; go_simp) (by assumption) ?_
                  try simp only [Act.put, List.setIfInBounds_toArray, List.set_cons_zero, List.set_cons_succ]
                  refine tk15 (.bool false) (by kernel_rfl) (by kernel_rfl) (by kernel_rfl) (fun _ _ _ h => h) rfl (fun w hSw => by (try dsimp only at hSw); obtain ⟨s0, s1, s2, s3, s4, s5, s6, s7, s8, s9⟩ := hSw; go_simp) (by assumption) ?_
                  try simp only [Act.put, List.setIfInBounds_toArray, List.set_cons_zero, List.set_cons_succ]
                  refine tk16 (.int .i64 (j : Int)) (by kernel_rfl) (by kernel_rfl) (by kernel_rfl) (fun _ _ _ h => h) rfl (fun w hSw => by (try dsimp only at hSw); obtain ⟨s0, s1, s2, s3, s4, s5, s6, s7, s8, s9⟩ := hSw; go_simp) (by assumption) ?_
                  try simp only [Act.put, List.setIfInBounds_toArray, List.set_cons_zero, List.set_cons_succ]
                  refine tk17 (.slice (some ⟨bk, off, none⟩) N c2) (by kernel_rfl) (by kernel_rfl) (by kernel_rfl) (fun _ _ _ h => h) rfl (fun w hSw => by (try dsimp only at hSw); obtain ⟨s0, s1, s2, s3, s4, s5, s6, s7, s8, s9⟩ := hSw; go_simp) (by assumption) ?_
                  try simp only [Act.put, List.setIfInBounds_toArray, List.set_cons_zero, List.set_cons_succ]
                  refine tk18 (.int .i64 (N : Int)) (by kernel_rfl) (by kernel_rfl) (by kernel_rfl) (fun _ _ _ h => h) rfl (fun w hSw => by (try dsimp only at hSw); obtain ⟨s0, s1, s2, s3, s4, s5, s6, s7, s8, s9⟩ := hSw; go_simp) (by assumption) ?_
                  try simp only [Act.put, List.setIfInBounds_toArray, List.set_cons_zero, List.set_cons_succ]
                  refine tk19 (.int .i64 (K : Int)) (by kernel_rfl) (by kernel_rfl) (by kernel_rfl) (fun _ _ _ h => h) rfl (fun w hSw => by (try dsimp only at hSw); obtain ⟨s0, s1, s2, s3, s4, s5, s6, s7, s8, s9⟩ := hSw; go_simp) (by assumption) ?_
                  try simp only [Act.put, List.setIfInBounds_toArray, List.set_cons_zero, List.set_cons_succ]
                  refine tk20 (.bool false) (by kernel_rfl) (by kernel_rfl) (by kernel_rfl) (fun _ _ _ h => h) rfl (fun w hSw => by (try dsimp only at hSw); obtain ⟨s0, s1, s2, s3, s4, s5, s6, s7, s8, s9⟩ := hSw; go_simp) (by assumption) ?_
                  try simp only [Act.put, List.setIfInBounds_toArray, List.set_cons_zero, List.set_cons_succ]
                  refine tk21 (.bool false) (by kernel_rfl) (by kernel_rfl) (by kernel_rfl) (fun _ _ _ h => h) rfl (fun w hSw => by (try dsimp only at hSw); obtain ⟨s0, s1, s2, s3, s4, s5, s6, s7, s8, s9⟩ := hSw; go_simp) (by assumption) ?_
                  try simp only [Act.put, List.setIfInBounds_toArray, List.set_cons_zero, List.set_cons_succ]
                  refine sk22 (by kernel_rfl) (by kernel_rfl) (by kernel_rfl) (fun _ _ _ h => h) rfl (by assumption) ?_
                  try simp only [Act.put, List.setIfInBounds_toArray, List.set_cons_zero, List.set_cons_succ]
                  refine tk23 (.bool false) (by kernel_rfl) (by kernel_rfl) (by kernel_rfl) (fun _ _ _ h => h) rfl (fun w hSw => by (try dsimp only at hSw); obtain ⟨s0, s1, s2, s3, s4, s5, s6, s7, s8, s9⟩ := hSw; go_simp) (by assumption) ?_
                  try simp only [Act.put, List.setIfInBounds_toArray, List.set_cons_zero, List.set_cons_succ]
                  refine tk24 (.bool false) (by kernel_rfl) (by kernel_rfl) (by kernel_rfl) (fun _ _ _ h => h) rfl (fun w hSw => by (try dsimp only at hSw); obtain ⟨s0, s1, s2, s3, s4, s5, s6, s7, s8, s9⟩ := hSw; go_simp) (by assumption) ?_
                  try simp only [Act.put, List.setIfInBounds_toArray, List.set_cons_zero, List.set_cons_succ]
                  refine wpAnyH_done (by kernel_rfl) ?_ _
                  go_wp2
                  go_roundg (N - (j + 1))
                  case measure => omega
                  case rel => exact ⟨j + 1, by omega, rfl, by go_num, BXd.out⟩
                · subst hjK
                  rw [hno] at HAx ⊢
                  have d3 : decide ((j : Int) < (j : Int)) = false := decide_eq_false (by omega)
                  have d4 : ((j : Int) == (j : Int)) = true := by simp
                  have wK : IntKind.i64.wrap (j : Int) = (j : Int) := by rw [IntKind.wrap_i64]; omega
                  clear hno
                  go_upto_region 37 with fail
                  refine wp_region_held_drew (S := (fun _ : World => True)) (by kernel_rfl) ?_ (fun hHeld0 => ?_)
                  · trivial
                  refine tk0 (.int .i64 (j : Int)) (by kernel_rfl) (by kernel_rfl) (by kernel_rfl) (fun _ _ _ h => h) rfl (fun w hSw => by (try dsimp only at hSw); go_simp) trivial ?_
                  try simp only [Act.put, List.setIfInBounds_toArray, List.set_cons_zero, List.set_cons_succ]
                  refine tk1 (.slice (some ⟨bk, off, none⟩) N c2) (by kernel_rfl) (by kernel_rfl) (by kernel_rfl) (fun _ _ _ h => h) rfl (fun w hSw => by (try dsimp only at hSw); go_simp) trivial ?_
                  try simp only [Act.put, List.setIfInBounds_toArray, List.set_cons_zero, List.set_cons_succ]
                  refine tk2 (.int .i64 (N : Int)) (by kernel_rfl) (by kernel_rfl) (by kernel_rfl) (fun _ _ _ h => h) rfl (fun w hSw => by (try dsimp only at hSw); go_simp) trivial ?_
                  try simp only [Act.put, List.setIfInBounds_toArray, List.set_cons_zero, List.set_cons_succ]
                  refine tk3 (.int .i64 (j : Int)) (by kernel_rfl) (by kernel_rfl) (by kernel_rfl) (fun _ _ _ h => h) rfl (fun w hSw => by (try dsimp only at hSw); go_simp) trivial ?_
                  try simp only [Act.put, List.setIfInBounds_toArray, List.set_cons_zero, List.set_cons_succ]
                  refine tk4 (.bool false) (by kernel_rfl) (by kernel_rfl) (by kernel_rfl) (fun _ _ _ h => h) rfl (fun w hSw => by (try dsimp only at hSw); go_simp) trivial ?_
                  try simp only [Act.put, List.setIfInBounds_toArray, List.set_cons_zero, List.set_cons_succ]
                  refine tk5 (.bool false) (by kernel_rfl) (by kernel_rfl) (by kernel_rfl) (fun _ _ _ h => h) rfl (fun w hSw => by (try dsimp only at hSw); go_simp) trivial ?_
                  try simp only [Act.put, List.setIfInBounds_toArray, List.set_cons_zero, List.set_cons_succ]
                  refine sk6 (by kernel_rfl) (by kernel_rfl) (by kernel_rfl) (fun _ _ _ h => h) rfl trivial ?_
                  try simp only [Act.put, List.setIfInBounds_toArray, List.set_cons_zero, List.set_cons_succ]
                  refine sk7 (by kernel_rfl) (by kernel_rfl) (by kernel_rfl) (fun _ _ _ h => h) rfl trivial ?_
                  try simp only [Act.put, List.setIfInBounds_toArray, List.set_cons_zero, List.set_cons_succ]
                  refine sk8 (by kernel_rfl) (by kernel_rfl) (by kernel_rfl) (fun _ _ _ h => h) rfl trivial ?_
                  try simp only [Act.put, List.setIfInBounds_toArray, List.set_cons_zero, List.set_cons_succ]
                  refine sk9 (by kernel_rfl) (by kernel_rfl) (by kernel_rfl) (fun _ _ _ h => h) rfl trivial ?_
                  try simp only [Act.put, List.setIfInBounds_toArray, List.set_cons_zero, List.set_cons_succ]
                  refine sk10 (by kernel_rfl) (by kernel_rfl) (by kernel_rfl) (fun _ _ _ h => h) rfl trivial ?_
                  try simp only [Act.put, List.setIfInBounds_toArray, List.set_cons_zero, List.set_cons_succ]
                  refine sk11 (by kernel_rfl) (by kernel_rfl) (by kernel_rfl) (fun _ _ _ h => h) rfl trivial ?_
                  try simp only [Act.put, List.setIfInBounds_toArray, List.set_cons_zero, List.set_cons_succ]
                  refine sk12 (by kernel_rfl) (by kernel_rfl) (by kernel_rfl) (fun _ _ _ h => h) rfl trivial ?_
                  try simp only [Act.put, List.setIfInBounds_toArray, List.set_cons_zero, List.set_cons_succ]
                  refine sk13 (by kernel_rfl) (by kernel_rfl) (by kernel_rfl) (fun _ _ _ h => h) rfl trivial ?_
                  try simp only [Act.put, List.setIfInBounds_toArray, List.set_cons_zero, List.set_cons_succ]
                  refine tk14 (.bool false) (by kernel_rfl) (by kernel_rfl) (by kernel_rfl) (fun _ _ _ h => h) rfl (fun w hSw => by (try dsimp only at hSw); go_simp) trivial ?_
                  try simp only [Act.put, List.setIfInBounds_toArray, List.set_cons_zero, List.set_cons_succ]
                  refine tk15 (.bool false) (by kernel_rfl) (by kernel_rfl) (by kernel_rfl) (fun _ _ _ h => h) rfl (fun w hSw => by (try dsimp only at hSw); go_simp) trivial ?_
                  try simp only [Act.put, List.setIfInBounds_toArray, List.set_cons_zero, List.set_cons_succ]
                  refine tk16 (.int .i64 (j : Int)) (by kernel_rfl) (by kernel_rfl) (by kernel_rfl) (fun _ _ _ h => h) rfl (fun w hSw => by (try dsimp only at hSw); go_simp) trivial ?_
                  try simp only [Act.put, List.setIfInBounds_toArray, List.set_cons_zero, List.set_cons_succ]
                  refine tk17 (.slice (some ⟨bk, off, none⟩) N c2) (by kernel_rfl) (by kernel_rfl) (by kernel_rfl) (fun _ _ _ h => h) rfl (fun w hSw => by (try dsimp only at hSw); go_simp) trivial ?_
                  try simp only [Act.put, List.setIfInBounds_toArray, List.set_cons_zero, List.set_cons_succ]
                  refine tk18 (.int .i64 (N : Int)) (by kernel_rfl) (by kernel_rfl) (by kernel_rfl) (fun _ _ _ h => h) rfl (fun w hSw => by (try dsimp only at hSw); go_simp) trivial ?_
                  try simp only [Act.put, List.setIfInBounds_toArray, List.set_cons_zero, List.set_cons_succ]
                  refine tk19 (.int .i64 (j : Int)) (by kernel_rfl) (by kernel_rfl) (by kernel_rfl) (fun _ _ _ h => h) rfl (fun w hSw => by (try dsimp only at hSw); go_simp) trivial ?_
                  try simp only [Act.put, List.setIfInBounds_toArray, List.set_cons_zero, List.set_cons_succ]
                  refine tk20 (.bool true) (by kernel_rfl) (by kernel_rfl) (by kernel_rfl) (fun _ _ _ h => h) rfl (fun w hSw => by (try dsimp only at hSw); go_simp) trivial ?_
                  try simp only [Act.put, List.setIfInBounds_toArray, List.set_cons_zero, List.set_cons_succ]
                  refine tk21 (.bool true) (by kernel_rfl) (by kernel_rfl) (by kernel_rfl) (fun _ _ _ h => h) rfl (fun w hSw => by (try dsimp only at hSw); go_simp) trivial ?_
                  try simp only [Act.put, List.setIfInBounds_toArray, List.set_cons_zero, List.set_cons_succ]
                  refine tk22 (.bool false) (by kernel_rfl) (by kernel_rfl) (by kernel_rfl) (fun _ _ _ h => h) rfl (fun w hSw => by (try dsimp only at hSw); go_simp) trivial ?_
                  try simp only [Act.put, List.setIfInBounds_toArray, List.set_cons_zero, List.set_cons_succ]
                  refine tk23 (.bool false) (by kernel_rfl) (by kernel_rfl) (by kernel_rfl) (fun _ _ _ h => h) rfl (fun w hSw => by (try dsimp only at hSw); go_simp) trivial ?_
                  try simp only [Act.put, List.setIfInBounds_toArray, List.set_cons_zero, List.set_cons_succ]
                  refine tk24 (.bool false) (by kernel_rfl) (by kernel_rfl) (by kernel_rfl) (fun _ _ _ h => h) rfl (fun w hSw => by (try dsimp only at hSw); go_simp) trivial ?_
                  try simp only [Act.put, List.setIfInBounds_toArray, List.set_cons_zero, List.set_cons_succ]
                  refine wpAnyH_done (by kernel_rfl) ?_ _
                  go_wp2
                  go_roundg (N - (j + 1))
                  case measure => omega
                  case rel => exact ⟨j + 1, by omega, rfl, by go_num, BXd.out⟩
          · have d1 : decide ((j : Int) < (N : Int)) = false := decide_eq_false (by omega)
            have d1' : decide (j < N) = false := decide_eq_false hjN
            have k1 : (K : Int) < (N : Int) := by omega
            have k2 : (0 : Int) ≤ (K : Int) := by omega
            have k3 : ((K : Int)).toNat = K := by omega
            have k4 : decide ((0 : Int) < (N : Int)) = true := decide_eq_true (by omega)
            have k4' : decide (0 < N) = true := decide_eq_true hN0
            have v0 := VC.out _ K _ 2 (.int .i64 1) BR.out HVE.out.1 (by decide) rfl
            have v1 := VC.out _ K _ 3 (.int .i64 0) BR.out HVE.out.1 (by decide) rfl
            have v2 := VC.out _ K _ 4 (.int .i64 0) BR.out HVE.out.1 (by decide) rfl
            have v3 := VC.out _ K _ 5 (.string ⟨#[]⟩) BR.out HVE.out.1 (by decide) rfl
            have v4 := VC.out _ K _ 6 (.int .i64 17) BR.out HVE.out.1 (by decide) rfl
            have tq : ∀ y, (binOp .eql 32 (.agg #[.int .i64 1, .int .i64 0, .int .i64 0, .string ⟨#[]⟩, .int .i64 17]) (.agg #[.int .i64 1, .int .i64 0, .int .i64 0, .string ⟨#[]⟩, .int .i64 17])).run Try.prog y = .ok (.bool true) y := fun y => by kernel_rfl
            go_wp2_with (go_at_call 8; refine (awake_any _).mono ?_; rintro r w9 ⟨rfl, b9⟩)
            go_ret
            exact ⟨rfl, bmm (bmm B2.out BB.out BR.out) (Nat.le_trans BB.out BR.out.size) b9⟩
  · by_cases hf1 : f < 1
    · have u1 : decide (f < 1) = true := decide_eq_true hf1
      clear hv hP hnn
      go_enter Try.func4, Try.ntmps4
      go_wp2_with (go_at_call 8; refine (awake_any _).mono ?_; rintro r w9 ⟨rfl, b9⟩)
      go_ret
      exact ⟨rfl, b9⟩
    · have u1 : decide (f < 1) = false := decide_eq_false hf1
      have u2 : decide (1099511627776 < f) = true := decide_eq_true (by omega)
      clear hv hP hnn
      go_enter Try.func4, Try.ntmps4
      go_wp2_with (go_at_call 8; refine (awake_any _).mono ?_; rintro r w9 ⟨rfl, b9⟩)
      go_ret
      exact ⟨rfl, b9⟩
end Go.Proofs.Ytmlgoecdefeapaa
