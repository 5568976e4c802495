/-
  SessionOnce: a command of a session is begun once, ended once, and then told as it was ended. The condition: a row of numbers as it came in.
-/
import Derived.Test.YthokbififjhflaaSeAwake
namespace Go.Proofs.Ythokbififjhflaa
open Go.RowKit

/-- Where the law stands: the last command, whether it is answered. -/
structure OnI (w wr : World) (X : Nat) (S : Nat → Prop) (last : Int) (said : Bool) (sd : Bool) (r : SeR) : Prop where
  at' : SeAt wr w.heap.size X S [⟨0, 1, true, last, sd, r⟩]
  rg : 0 ≤ last ∧ last ≤ 1073741824
  no : last = 0 → said = true ∧ sd = false
  yes : 0 < last → said = sd
  r : sd = true → r.n = last ∧ r.seq = last
  bel : Below w.heap.size w wr
theorem on_at {last : Int} {sd : Bool} {r : SeR} : seAt [(⟨0, 1, true, last, sd, r⟩ : SeX)] 1 = some ⟨0, 1, true, last, sd, r⟩ := rfl
theorem on_rep {last : Int} (h0 : 0 < last) (h1 : last ≤ 1073741824) : (⟨1, last, 0, 0, last⟩ : SeR).Ok := ⟨by show (0 : Int) ≤ 0; omega, by show (0 : Int) ≤ 255; omega, by show (0 : Int) ≤ 0; omega, by show (0 : Int) < _; omega, by show _ ≤ last; omega, h1⟩
/-- Ended once: yes; once more: no. -/
theorem OnI.fin {w wr : World} {X : Nat} {S : Nat → Prop} {last : Int} {r : SeR} (I : OnI w wr X S last false false r) (h0 : 0 < last) : Calls Try.prog 24 #[.pointer (some ⟨X, 0, none⟩), .agg (seRA ⟨1, last, 0, 0, last⟩)] wr fun e w' => e = .returned (.bool true) ∧ OnI w w' X S last true true ⟨1, last, 0, 0, last⟩ ∧ Kept wr w' S S := by
  have h := send_any (r := ⟨1, last, 0, 0, last⟩) I.at' (by show okI 1; unfold okI; decide) (on_rep h0 I.rg.2)
  have e : seEnd [(⟨0, 1, true, last, false, r⟩ : SeX)] ⟨1, last, 0, 0, last⟩ = ([⟨0, 1, true, last, true, ⟨1, last, 0, 0, last⟩⟩], true) :=
    seEnd_yes (x := ⟨0, 1, true, last, false, r⟩) rfl (by
      rintro (h | h | h)
      · have : last = 0 := h
        omega
      · exact h rfl
      · cases h)
  rw [e] at h
  exact h.mono fun e w' ⟨⟨h1, h2, h3⟩⟩ => ⟨h1, ⟨h2, I.rg, fun e0 => by omega, fun _ => rfl, fun _ => ⟨rfl, rfl⟩, I.at'.lowk h3 I.bel (Nat.le_refl _)⟩, h3⟩
theorem OnI.fin2 {w wr : World} {X : Nat} {S : Nat → Prop} {last : Int} {said : Bool} {r : SeR} (I : OnI w wr X S last said true r) (h0 : 0 < last) : Calls Try.prog 24 #[.pointer (some ⟨X, 0, none⟩), .agg (seRA ⟨1, last, 0, 0, last⟩)] wr fun e w' => e = .returned (.bool false) ∧ OnI w w' X S last said true r ∧ Kept wr w' S S := by
  have h := send_any (r := ⟨1, last, 0, 0, last⟩) I.at' (by show okI 1; unfold okI; decide) (on_rep h0 I.rg.2)
  have e : seEnd [(⟨0, 1, true, last, true, r⟩ : SeX)] ⟨1, last, 0, 0, last⟩ = ([⟨0, 1, true, last, true, r⟩], false) :=
    seEnd_no (x := ⟨0, 1, true, last, true, r⟩) rfl (Or.inr (Or.inr rfl))
  rw [e] at h
  exact h.mono fun e w' ⟨⟨h1, h2, h3⟩⟩ => ⟨h1, ⟨h2, I.rg, I.no, I.yes, I.r, I.at'.lowk h3 I.bel (Nat.le_refl _)⟩, h3⟩
structure OnB (w wr : World) (X : Nat) (S : Nat → Prop) (last : Int) (said sd : Bool) (r a : SeR) (c : Int) (e : Ending) (w' : World) : Prop where
  ex : e = .returned (.tuple #[.agg (seRA a), .int .i64 c]) ∧ OnI w w' X S last said sd r
section
variable {w wr : World} {X : Nat} {S : Nat → Prop} {last q : Int} {said sd : Bool} {r : SeR}
theorem OnI.begin (I : OnI w wr X S last said sd r) (h1 : 1 ≤ q) (h2 : q ≤ 1073741824) {p : List SeX × SeR × Int} (hp : seBeg [(⟨0, 1, true, last, sd, r⟩ : SeX)] 1 q = p) {last' : Int} {said' sd' : Bool} {r' : SeR} (hl : p.1 = [⟨0, 1, true, last', sd', r'⟩])
    (hn : ∀ w', SeAt w' w.heap.size X S [⟨0, 1, true, last', sd', r'⟩] → Below w.heap.size w w' → OnI w w' X S last' said' sd' r') : Calls Try.prog 23 #[.pointer (some ⟨X, 0, none⟩), .int .i64 1, .int .i64 q] wr (OnB w wr X S last' said' sd' r' p.2.1 p.2.2) := by
  have h := sbegin_any I.at' (id := 1) (q := q) (by unfold okI; decide) (by unfold okI; omega)
  rw [hp] at h
  exact h.mono fun e w' ⟨⟨e1, e2, e3⟩⟩ => ⟨e1, hn w' (by rw [← hl]; exact e2) (I.at'.lowk e3 I.bel (Nat.le_refl _))⟩
/-- The five ways. -/
theorem OnI.beg1 (I : OnI w wr X S last said sd r) (h1 : 1 ≤ q) (h2 : q ≤ 1073741824) (hq : q = last) (hs : said = true) : Calls Try.prog 23 #[.pointer (some ⟨X, 0, none⟩), .int .i64 1, .int .i64 q] wr (OnB w wr X S last said sd r r 1) := by
  have hsd : sd = true := by rw [← I.yes (by omega)]; exact hs
  exact I.begin h1 h2 (seBeg_said (x := ⟨0, 1, true, last, sd, r⟩) rfl ⟨hsd, hq.symm⟩) rfl (fun w' a b => ⟨a, I.rg, I.no, I.yes, I.r, b⟩)
theorem on_no (hs : ¬ (sd = true ∧ last = q)) : ¬ ((⟨0, 1, true, last, sd, r⟩ : SeX).said = true ∧ (⟨0, 1, true, last, sd, r⟩ : SeX).seq = q) := hs
theorem on_same {x : SeX} (c : seCode x q ≠ 0) : seNext x q = x := by unfold seNext; rw [if_neg c]
theorem OnI.begC (I : OnI w wr X S last said sd r) (h1 : 1 ≤ q) (h2 : q ≤ 1073741824) (hs : ¬ (sd = true ∧ last = q)) {c : Int} (hc : seCode (⟨0, 1, true, last, sd, r⟩ : SeX) q = c) (hc0 : c ≠ 0) : Calls Try.prog 23 #[.pointer (some ⟨X, 0, none⟩), .int .i64 1, .int .i64 q] wr (OnB w wr X S last said sd r SeR.zero c) := by
  have hp := seBeg_open (l := [(⟨0, 1, true, last, sd, r⟩ : SeX)]) (id := 1) (x := ⟨0, 1, true, last, sd, r⟩) rfl hs (by show ¬ true = false; decide)
  rw [hc, on_same (by rw [hc]; exact hc0)] at hp
  exact I.begin h1 h2 hp rfl (fun w' a b => ⟨a, I.rg, I.no, I.yes, I.r, b⟩)
theorem OnI.beg0 (I : OnI w wr X S last said sd r) (h1 : 1 ≤ q) (h2 : q ≤ 1073741824) (hq : last < q) (hs : said = true) : Calls Try.prog 23 #[.pointer (some ⟨X, 0, none⟩), .int .i64 1, .int .i64 q] wr (OnB w wr X S q false false SeR.zero SeR.zero 0) := by
  have hc : seCode (⟨0, 1, true, last, sd, r⟩ : SeX) q = 0 := by
    unfold seCode
    rw [if_neg (by show ¬ q = last; omega), if_neg (by show ¬ q < last; omega), if_neg]
    rintro ⟨h3, h4⟩
    have h3 : 0 < last := h3
    have h4 : sd = false := h4
    rw [I.yes h3, h4] at hs
    cases hs
  have hp := seBeg_open (l := [(⟨0, 1, true, last, sd, r⟩ : SeX)]) (id := 1) (x := ⟨0, 1, true, last, sd, r⟩) rfl (q := q) (by rintro ⟨_, h⟩; have h : last = q := h; omega) (by show ¬ true = false; decide)
  rw [hc] at hp
  have hnx : seNext (⟨0, 1, true, last, sd, r⟩ : SeX) q = ⟨0, 1, true, q, false, SeR.zero⟩ := by unfold seNext; rw [if_pos hc]
  rw [hnx] at hp
  exact I.begin h1 h2 hp rfl (fun w' a b => ⟨a, by omega, fun e => by omega, fun _ => rfl, fun e => (by cases e), b⟩)
end
set_option maxHeartbeats 16000000 in
set_option maxRecDepth 100000 in
theorem once_walk (w : World) (a : Option Addr) (cap : Nat) (vs : List Int) (n : Int) (hv : IntsAt w (.slice a vs.length cap) vs) :
    Calls Try.prog 6 #[.slice a vs.length cap, .int .i64 n] w fun e w' => e = .returned (.bool true) ∧ Below w.heap.size w w' := by
  have HN : Hid (Calls Try.prog 9 #[] w (SeNew w)) := snew_any w
  obtain ⟨a', cap', e0, _, hx⟩ := hv.ex
  cases e0
  have HX : Hid _ := hx
  have hmx : vs.length ≤ 9223372036854775807 := hv.mx
  have HO : Hid (∀ y X S, SeAt y w.heap.size X S [] → Calls Try.prog 22 #[.pointer (some ⟨X, 0, none⟩), .int .i64 0, .int .i64 1] y (SeOpP y w.heap.size X S ([⟨0, 1, true, 0, false, SeR.zero⟩], 1, true, 0))) := fun y X S h => by
    have := sopen_any (c := 0) (f := 1) h (by decide)
    rw [show seOpn [] 0 1 = ([⟨0, 1, true, 0, false, SeR.zero⟩], 1, true, 0) by kernel_rfl] at this
    exact this
  clear hv hx
  go_enter Try.func6, Try.ntmps6
  go_wp2_with (first
    | (go_at_call 22; refine Calls.mono (HO.out _ _ _ H1.out) ?_; rintro r w2 ⟨⟨S2, rfl, h2, k2⟩⟩; have H2 : Hid (SeAt w2 w.heap.size X S2 [⟨0, 1, true, 0, false, SeR.zero⟩]) := h2; have B2 : Hid (Below w.heap.size w w2) := H1.out.lowk k2 B1.out (Nat.le_refl _); clear h2 k2)
    | (go_at_call 9; refine Calls.mono HN.out ?_; rintro r w1 ⟨⟨X, S1, rfl, h1, b1⟩⟩; have H1 : Hid (SeAt w1 w.heap.size X S1 []) := h1; have B1 : Hid (Below w.heap.size w w1) := b1; clear h1 b1))
  go_loopw [9, 10, 11] (fun t d i wr => ∃ (last : Int) (said sd : Bool) (r : SeR) (k : Nat), k ≤ vs.length ∧ k ≤ 200 ∧ t = .int .i64 last ∧ d = .bool said ∧ i = .int .i64 k ∧ Hid (OnI w wr X S2 last said sd r)) (fun _ _ i _ => vs.length - (intOf i).toNat)
  case atStart => exact ⟨0, true, false, SeR.zero, 0, by omega, by omega, rfl, rfl, rfl, ⟨H2.out, by omega, fun _ => ⟨rfl, rfl⟩, fun h => by omega, fun e => (by cases e), B2.out⟩⟩
  case round =>
    obtain ⟨last, said, sd, r, k, hk, hk200, rfl, rfl, rfl, I⟩ := hrel
    by_cases hkv : k < vs.length
    · have t1 : decide ((k : Int) < (vs.length : Int)) = true := decide_eq_true (by omega)
      have t1' : decide (k < vs.length) = true := decide_eq_true hkv
      by_cases hk2 : k < 200
      · have t2 : decide ((k : Int) < 200) = true := decide_eq_true (by omega)
        rcases HX.out with h0 | ⟨bk, off, rfl, hbk, hxx⟩
        · omega
        have z0 := (I.out.bel.cell (p := ⟨bk, off + k, none⟩) (by exact hbk)).trans (hxx k hkv)
        obtain ⟨q, hv⟩ : ∃ q, q = vs[k] := ⟨_, rfl⟩
        rw [← hv] at z0
        clear hxx hv
        by_cases hv1 : q < 1
        · have t3 : decide (q < 1) = true := decide_eq_true hv1
          clear hv1
          go_wp2
          exact ⟨⟨last, said, sd, r, k + 1, by omega, by omega, rfl, rfl, by simp, I⟩, by simp [intOf]; omega⟩
        have t3 : decide (q < 1) = false := decide_eq_false hv1
        by_cases hv2 : 1073741824 < q
        · have t4 : decide (1073741824 < q) = true := decide_eq_true hv2
          clear hv1 hv2
          go_wp2
          exact ⟨⟨last, said, sd, r, k + 1, by omega, by omega, rfl, rfl, by simp, I⟩, by simp [intOf]; omega⟩
        have t4 : decide (1073741824 < q) = false := decide_eq_false hv2
        have g1 : 1 ≤ q := by omega
        have g2 : q ≤ 1073741824 := by omega
        have HL : Hid (0 ≤ last ∧ last ≤ 1073741824) := I.out.rg
        clear hv1 hv2
        by_cases c1 : q = last
        · have t5 : (q == last) = true := by simpa using c1
          cases said with
          | true =>
            have hsd : sd = true := by rw [← I.out.yes (by omega)]
            have HB : Hid (Calls Try.prog 23 #[.pointer (some ⟨X, 0, none⟩), .int .i64 1, .int .i64 q] wr (OnB w wr X S2 last true sd r r 1)) := I.out.beg1 g1 g2 c1 rfl
            have hr := I.out.r hsd
            have t6 : (r.n != q) = false := by rw [hr.1, c1]; simp
            have t7 : (r.seq != q) = false := by rw [hr.2, c1]; simp
            clear c1 hr hsd g1 g2
            go_upto_region 27 with (go_at_call 23; refine Calls.mono HB.out ?_; rintro e w3 ⟨⟨rfl, i3⟩⟩; have I3 : Hid (OnI w w3 X S2 last true sd r) := i3; clear i3)
            obtain ⟨y3, hy3⟩ : ∃ y, y = w3.alloc (.cells (seRA r) 36) := ⟨_, rfl⟩
            have b3 : Below w3.heap.size w3 y3 := by rw [hy3]; exact (Below.refl _ w3).alloc (Nat.le_refl _) _
            have J3 : Hid (OnI w y3 X S2 last true sd r) := ⟨I3.out.at'.fresh b3, I3.out.rg, I3.out.no, I3.out.yes, I3.out.r, bmm I3.out.bel I3.out.bel.size b3⟩
            rw [show w3.alloc (.cells (seRA r) 36) = y3 from hy3.symm]
            clear hy3 b3 I3 I z0
            by_cases hp : ¬ (k : Int).tmod 2 = n.tmod 2
            · have hp2 : ((k : Int).tmod 2 == n.tmod 2) = false := by simpa using hp
              go_wp2
              exact ⟨⟨last, true, sd, r, k + 1, by omega, by omega, rfl, rfl, by simp, J3⟩, by simp [intOf]; omega⟩
            · have hp1 : (k : Int).tmod 2 = n.tmod 2 := Decidable.not_not.1 hp
              have hp2 : ((k : Int).tmod 2 == n.tmod 2) = true := by simpa using hp1
              clear hp
              go_wp2
              exact ⟨⟨last, true, sd, r, k + 1, by omega, by omega, rfl, rfl, by simp, J3⟩, by simp [intOf]; omega⟩
          | false =>
            have hsd : sd = false := by rw [← I.out.yes (by omega)]
            subst hsd
            have HP0 : Hid (0 < last) := (by omega : 0 < last)
            have HB : Hid (Calls Try.prog 23 #[.pointer (some ⟨X, 0, none⟩), .int .i64 1, .int .i64 q] wr (OnB w wr X S2 last false false r SeR.zero 2)) := I.out.begC g1 g2 (by rintro ⟨h, _⟩; cases h) (by unfold seCode; rw [if_pos (show q = last from c1)]) (by decide)
            clear c1 g1 g2
            go_upto_region 27 with (go_at_call 23; refine Calls.mono HB.out ?_; rintro e w3 ⟨⟨rfl, i3⟩⟩; have I3 : Hid (OnI w w3 X S2 last false false r) := i3; clear i3)
            obtain ⟨y3, hy3⟩ : ∃ y, y = w3.alloc (.cells (seRA SeR.zero) 36) := ⟨_, rfl⟩
            have b3 : Below w3.heap.size w3 y3 := by rw [hy3]; exact (Below.refl _ w3).alloc (Nat.le_refl _) _
            have J3 : Hid (OnI w y3 X S2 last false false r) := ⟨I3.out.at'.fresh b3, I3.out.rg, I3.out.no, I3.out.yes, I3.out.r, bmm I3.out.bel I3.out.bel.size b3⟩
            rw [show w3.alloc (.cells (seRA SeR.zero) 36) = y3 from hy3.symm]
            clear hy3 b3 I3 I z0
            by_cases hp : ¬ (k : Int).tmod 2 = n.tmod 2
            · have hp2 : ((k : Int).tmod 2 == n.tmod 2) = false := by simpa using hp
              go_wp2
              exact ⟨⟨last, false, false, r, k + 1, by omega, by omega, rfl, rfl, by simp, J3⟩, by simp [intOf]; omega⟩
            · have hp1 : (k : Int).tmod 2 = n.tmod 2 := Decidable.not_not.1 hp
              have hp2 : ((k : Int).tmod 2 == n.tmod 2) = true := by simpa using hp1
              clear hp
              have hl0 : 0 < last := HP0.out
              obtain ⟨y4, hy4⟩ : ∃ y, y = y3.alloc (.cells #[.int .i64 1, .int .i64 last, .int .i64 0, .int .u64 0, .int .i64 last] 36) := ⟨_, rfl⟩
              have b4 : Below y3.heap.size y3 y4 := by rw [hy4]; exact (Below.refl _ y3).alloc (Nat.le_refl _) _
              have J4 : Hid (OnI w y4 X S2 last false false r) := ⟨J3.out.at'.fresh b4, J3.out.rg, J3.out.no, J3.out.yes, J3.out.r, bmm J3.out.bel J3.out.bel.size b4⟩
              have R4 : Hid (y4.heap[y3.heap.size]? = some (.cells (seRA ⟨1, last, 0, 0, last⟩) 36 (0, 0))) := by rw [hy4]; exact heap_alloc_new y3 _
              have HNS : Hid (¬ S2 y3.heap.size) := fun h => Nat.lt_irrefl _ (J3.out.at'.bd _ h).2
              go_upto_region 29 with fail
              rw [show y3.alloc (.cells #[.int .i64 1, .int .i64 last, .int .i64 0, .int .u64 0, .int .i64 last] 36) = y4 from hy4.symm]
              clear hy4 b4
              go_wp2_with (first
                | (go_at_call 24; have d2 := d1; refine Calls.mono (J5.out.fin2 hl0) ?_; rintro e w6 ⟨rfl, i6, k6⟩; have J6 : Hid (OnI w w6 X S2 last true true ⟨1, last, 0, 0, last⟩) := i6; clear i6 k6)
                | (go_at_call 24; refine Calls.mono (J4.out.fin hl0) ?_; rintro e w5 ⟨rfl, i5, k5⟩; have J5 : Hid (OnI w w5 X S2 last true true ⟨1, last, 0, 0, last⟩) := i5; have R5 : Hid (w5.heap[y3.heap.size]? = some (.cells (seRA ⟨1, last, 0, 0, last⟩) 36 (0, 0))) := (k5.kept _ (lt_of_block R4.out) HNS.out).trans R4.out; clear i5 k5; have d1 : True := trivial)
                | (show wpList _ _ _ (⟨_, Op.load 36 _, _, _, _, _⟩ :: _) _ _; refine load_row_g rfl 36 _ rfl y3.heap.size rfl 36 (seRA ⟨1, last, 0, 0, last⟩) _ _ R5.out Try.underlying36 rfl sizeRep ?_)
                | (show wpList _ _ _ (⟨_, Op.load 36 _, _, _, _, _⟩ :: _) _ _; refine load_row_g rfl 36 _ rfl y3.heap.size rfl 36 (seRA ⟨1, last, 0, 0, last⟩) _ _ R4.out Try.underlying36 rfl sizeRep ?_))
              exact ⟨⟨last, true, true, ⟨1, last, 0, 0, last⟩, k + 1, by omega, by omega, rfl, rfl, by simp, J6⟩, by simp [intOf]; omega⟩
        have t5 : (q == last) = false := by simpa using c1
        by_cases c2 : q < last
        · have t6 : decide (q < last) = true := decide_eq_true c2
          have HB : Hid (Calls Try.prog 23 #[.pointer (some ⟨X, 0, none⟩), .int .i64 1, .int .i64 q] wr (OnB w wr X S2 last said sd r SeR.zero 3)) := I.out.begC g1 g2 (by rintro ⟨_, h⟩; exact c1 h.symm) (by unfold seCode; rw [if_neg (show ¬ q = last from c1), if_pos (show q < last from c2)]) (by decide)
          have HP0 : Hid (0 < last) := (by omega : 0 < last)
          cases said with
          | true =>
            clear c1 c2 g1 g2
            go_upto_region 27 with (go_at_call 23; refine Calls.mono HB.out ?_; rintro e w3 ⟨⟨rfl, i3⟩⟩; have I3 : Hid (OnI w w3 X S2 last true sd r) := i3; clear i3)
            obtain ⟨y3, hy3⟩ : ∃ y, y = w3.alloc (.cells (seRA SeR.zero) 36) := ⟨_, rfl⟩
            have b3 : Below w3.heap.size w3 y3 := by rw [hy3]; exact (Below.refl _ w3).alloc (Nat.le_refl _) _
            have J3 : Hid (OnI w y3 X S2 last true sd r) := ⟨I3.out.at'.fresh b3, I3.out.rg, I3.out.no, I3.out.yes, I3.out.r, bmm I3.out.bel I3.out.bel.size b3⟩
            rw [show w3.alloc (.cells (seRA SeR.zero) 36) = y3 from hy3.symm]
            clear hy3 b3 I3 I z0
            by_cases hp : ¬ (k : Int).tmod 2 = n.tmod 2
            · have hp2 : ((k : Int).tmod 2 == n.tmod 2) = false := by simpa using hp
              go_wp2
              exact ⟨⟨last, true, sd, r, k + 1, by omega, by omega, rfl, rfl, by simp, J3⟩, by simp [intOf]; omega⟩
            · have hp1 : (k : Int).tmod 2 = n.tmod 2 := Decidable.not_not.1 hp
              have hp2 : ((k : Int).tmod 2 == n.tmod 2) = true := by simpa using hp1
              clear hp
              go_wp2
              exact ⟨⟨last, true, sd, r, k + 1, by omega, by omega, rfl, rfl, by simp, J3⟩, by simp [intOf]; omega⟩
          | false =>
            have hsd : sd = false := by rw [← I.out.yes (by omega)]
            subst hsd
            clear c1 c2 g1 g2
            go_upto_region 27 with (go_at_call 23; refine Calls.mono HB.out ?_; rintro e w3 ⟨⟨rfl, i3⟩⟩; have I3 : Hid (OnI w w3 X S2 last false false r) := i3; clear i3)
            obtain ⟨y3, hy3⟩ : ∃ y, y = w3.alloc (.cells (seRA SeR.zero) 36) := ⟨_, rfl⟩
            have b3 : Below w3.heap.size w3 y3 := by rw [hy3]; exact (Below.refl _ w3).alloc (Nat.le_refl _) _
            have J3 : Hid (OnI w y3 X S2 last false false r) := ⟨I3.out.at'.fresh b3, I3.out.rg, I3.out.no, I3.out.yes, I3.out.r, bmm I3.out.bel I3.out.bel.size b3⟩
            rw [show w3.alloc (.cells (seRA SeR.zero) 36) = y3 from hy3.symm]
            clear hy3 b3 I3 I z0
            by_cases hp : ¬ (k : Int).tmod 2 = n.tmod 2
            · have hp2 : ((k : Int).tmod 2 == n.tmod 2) = false := by simpa using hp
              go_wp2
              exact ⟨⟨last, false, false, r, k + 1, by omega, by omega, rfl, rfl, by simp, J3⟩, by simp [intOf]; omega⟩
            · have hp1 : (k : Int).tmod 2 = n.tmod 2 := Decidable.not_not.1 hp
              have hp2 : ((k : Int).tmod 2 == n.tmod 2) = true := by simpa using hp1
              clear hp
              have hl0 : 0 < last := HP0.out
              obtain ⟨y4, hy4⟩ : ∃ y, y = y3.alloc (.cells #[.int .i64 1, .int .i64 last, .int .i64 0, .int .u64 0, .int .i64 last] 36) := ⟨_, rfl⟩
              have b4 : Below y3.heap.size y3 y4 := by rw [hy4]; exact (Below.refl _ y3).alloc (Nat.le_refl _) _
              have J4 : Hid (OnI w y4 X S2 last false false r) := ⟨J3.out.at'.fresh b4, J3.out.rg, J3.out.no, J3.out.yes, J3.out.r, bmm J3.out.bel J3.out.bel.size b4⟩
              have R4 : Hid (y4.heap[y3.heap.size]? = some (.cells (seRA ⟨1, last, 0, 0, last⟩) 36 (0, 0))) := by rw [hy4]; exact heap_alloc_new y3 _
              have HNS : Hid (¬ S2 y3.heap.size) := fun h => Nat.lt_irrefl _ (J3.out.at'.bd _ h).2
              go_upto_region 29 with fail
              rw [show y3.alloc (.cells #[.int .i64 1, .int .i64 last, .int .i64 0, .int .u64 0, .int .i64 last] 36) = y4 from hy4.symm]
              clear hy4 b4
              go_wp2_with (first
                | (go_at_call 24; have d2 := d1; refine Calls.mono (J5.out.fin2 hl0) ?_; rintro e w6 ⟨rfl, i6, k6⟩; have J6 : Hid (OnI w w6 X S2 last true true ⟨1, last, 0, 0, last⟩) := i6; clear i6 k6)
                | (go_at_call 24; refine Calls.mono (J4.out.fin hl0) ?_; rintro e w5 ⟨rfl, i5, k5⟩; have J5 : Hid (OnI w w5 X S2 last true true ⟨1, last, 0, 0, last⟩) := i5; have R5 : Hid (w5.heap[y3.heap.size]? = some (.cells (seRA ⟨1, last, 0, 0, last⟩) 36 (0, 0))) := (k5.kept _ (lt_of_block R4.out) HNS.out).trans R4.out; clear i5 k5; have d1 : True := trivial)
                | (show wpList _ _ _ (⟨_, Op.load 36 _, _, _, _, _⟩ :: _) _ _; refine load_row_g rfl 36 _ rfl y3.heap.size rfl 36 (seRA ⟨1, last, 0, 0, last⟩) _ _ R5.out Try.underlying36 rfl sizeRep ?_)
                | (show wpList _ _ _ (⟨_, Op.load 36 _, _, _, _, _⟩ :: _) _ _; refine load_row_g rfl 36 _ rfl y3.heap.size rfl 36 (seRA ⟨1, last, 0, 0, last⟩) _ _ R4.out Try.underlying36 rfl sizeRep ?_))
              exact ⟨⟨last, true, true, ⟨1, last, 0, 0, last⟩, k + 1, by omega, by omega, rfl, rfl, by simp, J6⟩, by simp [intOf]; omega⟩
        have t6 : decide (q < last) = false := decide_eq_false c2
        cases said with
        | false =>
          have hl0 : 0 < last := by
            rcases Int.lt_or_le 0 last with h | h
            · exact h
            · have hz := HL.out
              have := (I.out.no (by omega)).1
              cases this
          have hsd : sd = false := by rw [← I.out.yes hl0]
          subst hsd
          have HP0 : Hid (0 < last) := hl0
          have HB : Hid (Calls Try.prog 23 #[.pointer (some ⟨X, 0, none⟩), .int .i64 1, .int .i64 q] wr (OnB w wr X S2 last false false r SeR.zero 5)) := I.out.begC g1 g2 (by rintro ⟨h, _⟩; cases h) (by unfold seCode; rw [if_neg (show ¬ q = last from c1), if_neg (show ¬ q < last from c2), if_pos ⟨hl0, rfl⟩]) (by decide)
          clear c1 c2 g1 g2 hl0
          go_upto_region 27 with (go_at_call 23; refine Calls.mono HB.out ?_; rintro e w3 ⟨⟨rfl, i3⟩⟩; have I3 : Hid (OnI w w3 X S2 last false false r) := i3; clear i3)
          obtain ⟨y3, hy3⟩ : ∃ y, y = w3.alloc (.cells (seRA SeR.zero) 36) := ⟨_, rfl⟩
          have b3 : Below w3.heap.size w3 y3 := by rw [hy3]; exact (Below.refl _ w3).alloc (Nat.le_refl _) _
          have J3 : Hid (OnI w y3 X S2 last false false r) := ⟨I3.out.at'.fresh b3, I3.out.rg, I3.out.no, I3.out.yes, I3.out.r, bmm I3.out.bel I3.out.bel.size b3⟩
          rw [show w3.alloc (.cells (seRA SeR.zero) 36) = y3 from hy3.symm]
          clear hy3 b3 I3 I z0
          by_cases hp : ¬ (k : Int).tmod 2 = n.tmod 2
          · have hp2 : ((k : Int).tmod 2 == n.tmod 2) = false := by simpa using hp
            go_wp2
            exact ⟨⟨last, false, false, r, k + 1, by omega, by omega, rfl, rfl, by simp, J3⟩, by simp [intOf]; omega⟩
          · have hp1 : (k : Int).tmod 2 = n.tmod 2 := Decidable.not_not.1 hp
            have hp2 : ((k : Int).tmod 2 == n.tmod 2) = true := by simpa using hp1
            clear hp
            have hl0 : 0 < last := HP0.out
            obtain ⟨y4, hy4⟩ : ∃ y, y = y3.alloc (.cells #[.int .i64 1, .int .i64 last, .int .i64 0, .int .u64 0, .int .i64 last] 36) := ⟨_, rfl⟩
            have b4 : Below y3.heap.size y3 y4 := by rw [hy4]; exact (Below.refl _ y3).alloc (Nat.le_refl _) _
            have J4 : Hid (OnI w y4 X S2 last false false r) := ⟨J3.out.at'.fresh b4, J3.out.rg, J3.out.no, J3.out.yes, J3.out.r, bmm J3.out.bel J3.out.bel.size b4⟩
            have R4 : Hid (y4.heap[y3.heap.size]? = some (.cells (seRA ⟨1, last, 0, 0, last⟩) 36 (0, 0))) := by rw [hy4]; exact heap_alloc_new y3 _
            have HNS : Hid (¬ S2 y3.heap.size) := fun h => Nat.lt_irrefl _ (J3.out.at'.bd _ h).2
            go_upto_region 29 with fail
            rw [show y3.alloc (.cells #[.int .i64 1, .int .i64 last, .int .i64 0, .int .u64 0, .int .i64 last] 36) = y4 from hy4.symm]
            clear hy4 b4
            go_wp2_with (first
              | (go_at_call 24; have d2 := d1; refine Calls.mono (J5.out.fin2 hl0) ?_; rintro e w6 ⟨rfl, i6, k6⟩; have J6 : Hid (OnI w w6 X S2 last true true ⟨1, last, 0, 0, last⟩) := i6; clear i6 k6)
              | (go_at_call 24; refine Calls.mono (J4.out.fin hl0) ?_; rintro e w5 ⟨rfl, i5, k5⟩; have J5 : Hid (OnI w w5 X S2 last true true ⟨1, last, 0, 0, last⟩) := i5; have R5 : Hid (w5.heap[y3.heap.size]? = some (.cells (seRA ⟨1, last, 0, 0, last⟩) 36 (0, 0))) := (k5.kept _ (lt_of_block R4.out) HNS.out).trans R4.out; clear i5 k5; have d1 : True := trivial)
              | (show wpList _ _ _ (⟨_, Op.load 36 _, _, _, _, _⟩ :: _) _ _; refine load_row_g rfl 36 _ rfl y3.heap.size rfl 36 (seRA ⟨1, last, 0, 0, last⟩) _ _ R5.out Try.underlying36 rfl sizeRep ?_)
              | (show wpList _ _ _ (⟨_, Op.load 36 _, _, _, _, _⟩ :: _) _ _; refine load_row_g rfl 36 _ rfl y3.heap.size rfl 36 (seRA ⟨1, last, 0, 0, last⟩) _ _ R4.out Try.underlying36 rfl sizeRep ?_))
            exact ⟨⟨last, true, true, ⟨1, last, 0, 0, last⟩, k + 1, by omega, by omega, rfl, rfl, by simp, J6⟩, by simp [intOf]; omega⟩
        | true =>
          have HP0 : Hid (0 < q) := (by omega : 0 < q)
          have HB : Hid (Calls Try.prog 23 #[.pointer (some ⟨X, 0, none⟩), .int .i64 1, .int .i64 q] wr (OnB w wr X S2 q false false SeR.zero SeR.zero 0)) := I.out.beg0 g1 g2 (by omega) rfl
          clear c1 c2 g1 g2
          go_upto_region 27 with (go_at_call 23; refine Calls.mono HB.out ?_; rintro e w3 ⟨⟨rfl, i3⟩⟩; have I3 : Hid (OnI w w3 X S2 q false false SeR.zero) := i3; clear i3)
          obtain ⟨y3, hy3⟩ : ∃ y, y = w3.alloc (.cells (seRA SeR.zero) 36) := ⟨_, rfl⟩
          have b3 : Below w3.heap.size w3 y3 := by rw [hy3]; exact (Below.refl _ w3).alloc (Nat.le_refl _) _
          have J3 : Hid (OnI w y3 X S2 q false false SeR.zero) := ⟨I3.out.at'.fresh b3, I3.out.rg, I3.out.no, I3.out.yes, I3.out.r, bmm I3.out.bel I3.out.bel.size b3⟩
          rw [show w3.alloc (.cells (seRA SeR.zero) 36) = y3 from hy3.symm]
          clear hy3 b3 I3 I z0
          by_cases hp : ¬ (k : Int).tmod 2 = n.tmod 2
          · have hp2 : ((k : Int).tmod 2 == n.tmod 2) = false := by simpa using hp
            go_wp2
            exact ⟨⟨q, false, false, SeR.zero, k + 1, by omega, by omega, rfl, rfl, by simp, J3⟩, by simp [intOf]; omega⟩
          · have hp1 : (k : Int).tmod 2 = n.tmod 2 := Decidable.not_not.1 hp
            have hp2 : ((k : Int).tmod 2 == n.tmod 2) = true := by simpa using hp1
            clear hp
            have hl0 : 0 < q := HP0.out
            obtain ⟨y4, hy4⟩ : ∃ y, y = y3.alloc (.cells #[.int .i64 1, .int .i64 q, .int .i64 0, .int .u64 0, .int .i64 q] 36) := ⟨_, rfl⟩
            have b4 : Below y3.heap.size y3 y4 := by rw [hy4]; exact (Below.refl _ y3).alloc (Nat.le_refl _) _
            have J4 : Hid (OnI w y4 X S2 q false false SeR.zero) := ⟨J3.out.at'.fresh b4, J3.out.rg, J3.out.no, J3.out.yes, J3.out.r, bmm J3.out.bel J3.out.bel.size b4⟩
            have R4 : Hid (y4.heap[y3.heap.size]? = some (.cells (seRA ⟨1, q, 0, 0, q⟩) 36 (0, 0))) := by rw [hy4]; exact heap_alloc_new y3 _
            have HNS : Hid (¬ S2 y3.heap.size) := fun h => Nat.lt_irrefl _ (J3.out.at'.bd _ h).2
            go_upto_region 29 with fail
            rw [show y3.alloc (.cells #[.int .i64 1, .int .i64 q, .int .i64 0, .int .u64 0, .int .i64 q] 36) = y4 from hy4.symm]
            clear hy4 b4
            go_wp2_with (first
              | (go_at_call 24; have d2 := d1; refine Calls.mono (J5.out.fin2 hl0) ?_; rintro e w6 ⟨rfl, i6, k6⟩; have J6 : Hid (OnI w w6 X S2 q true true ⟨1, q, 0, 0, q⟩) := i6; clear i6 k6)
              | (go_at_call 24; refine Calls.mono (J4.out.fin hl0) ?_; rintro e w5 ⟨rfl, i5, k5⟩; have J5 : Hid (OnI w w5 X S2 q true true ⟨1, q, 0, 0, q⟩) := i5; have R5 : Hid (w5.heap[y3.heap.size]? = some (.cells (seRA ⟨1, q, 0, 0, q⟩) 36 (0, 0))) := (k5.kept _ (lt_of_block R4.out) HNS.out).trans R4.out; clear i5 k5; have d1 : True := trivial)
              | (show wpList _ _ _ (⟨_, Op.load 36 _, _, _, _, _⟩ :: _) _ _; refine load_row_g rfl 36 _ rfl y3.heap.size rfl 36 (seRA ⟨1, q, 0, 0, q⟩) _ _ R5.out Try.underlying36 rfl sizeRep ?_)
              | (show wpList _ _ _ (⟨_, Op.load 36 _, _, _, _, _⟩ :: _) _ _; refine load_row_g rfl 36 _ rfl y3.heap.size rfl 36 (seRA ⟨1, q, 0, 0, q⟩) _ _ R4.out Try.underlying36 rfl sizeRep ?_))
            exact ⟨⟨q, true, true, ⟨1, q, 0, 0, q⟩, k + 1, by omega, by omega, rfl, rfl, by simp, J6⟩, by simp [intOf]; omega⟩
      · obtain rfl : k = 200 := by omega
        have t2 : decide ((200 : Int) < 200) = false := by decide
        go_wp2_with (go_at_call 19; refine (awake_any _).mono ?_; rintro e w9 ⟨rfl, b9⟩; have B9 : Hid _ := b9; clear b9)
        go_ret
        exact ⟨rfl, bmm I.out.bel I.out.bel.size B9.out⟩
    · obtain rfl : k = vs.length := by omega
      have t1 : decide ((vs.length : Int) < (vs.length : Int)) = false := decide_eq_false (by omega)
      go_wp2_with (go_at_call 19; refine (awake_any _).mono ?_; rintro e w9 ⟨rfl, b9⟩; have B9 : Hid _ := b9; clear b9)
      go_ret
      exact ⟨rfl, bmm I.out.bel I.out.bel.size B9.out⟩
end Go.Proofs.Ythokbififjhflaa
