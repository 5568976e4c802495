/-
  Messages, as plain data: which may be, their bytes, how bytes are read as one; what is read of bytes has just these bytes. No condition.
-/
import Derived.Test.YtmmdcbgmhjheeaaCmPlain
namespace Go.Proofs.Ytmmdcbgmhjheeaa

/-- A message. -/
structure Ms where
  k : Int
  f : Int
  t : Int
  b : Int
  sl : Int
  ro : Int
  se : Int
  er : Int
  es : List En
  c : Cm
  rs : Int
  rq : Int
  re : Int
  tk : Nat
  rn : Int
  x : ByteArray

def Ms.zero : Ms := ⟨0, 0, 0, 0, 0, 0, 0, 0, [], Cm.zero, 0, 0, 0, 0, 0, ⟨#[]⟩⟩

/-- A number within two. -/
def inB (n lo hi : Int) : Bool := decide (lo ≤ n) && decide (n ≤ hi)

/-- Which messages may be, but for the length of their bytes. -/
def mayM (m : Ms) : Bool :=
  (inB m.k 1 15 && (inB m.f 0 12 && (inB m.t 0 12 && (inB m.b 0 1099511627776 && inB m.sl (-1) 1099511627776)))) &&
  ((inB m.ro 0 1099511627776 && (inB m.se 0 1073741824 && (inB m.er 0 255 && (decide (m.es.length ≤ 4096) && (mayB m.c && decide (m.x.size ≤ 524288)))))) &&
  ((inB m.rs 0 1073741824 && (inB m.rq 0 1073741824 && (inB m.re 0 255 && inB m.rn 0 1073741824))) && m.es.all mayE))

theorem inB_iff {n lo hi : Int} : inB n lo hi = true ↔ lo ≤ n ∧ n ≤ hi := by
  unfold inB
  simp

/-- What a message that may be holds. -/
theorem mayM_small {m : Ms} (h : mayM m = true) : ((1 ≤ m.k ∧ m.k ≤ 15) ∧ (0 ≤ m.f ∧ m.f ≤ 12) ∧ (0 ≤ m.t ∧ m.t ≤ 12) ∧ (0 ≤ m.b ∧ m.b ≤ 1099511627776) ∧ (-1 ≤ m.sl ∧ m.sl ≤ 1099511627776)) ∧
    ((0 ≤ m.ro ∧ m.ro ≤ 1099511627776) ∧ (0 ≤ m.se ∧ m.se ≤ 1073741824) ∧ (0 ≤ m.er ∧ m.er ≤ 255) ∧ m.es.length ≤ 4096 ∧ mayB m.c = true ∧ m.x.size ≤ 524288) ∧
    ((0 ≤ m.rs ∧ m.rs ≤ 1073741824) ∧ (0 ≤ m.rq ∧ m.rq ≤ 1073741824) ∧ (0 ≤ m.re ∧ m.re ≤ 255) ∧ (0 ≤ m.rn ∧ m.rn ≤ 1073741824)) ∧ m.es.all mayE = true := by
  unfold mayM at h
  simp only [Bool.and_eq_true, inB_iff, decide_eq_true_eq] at h
  exact h

/-- The entries' bytes. -/
def encEs (l : List En) : List UInt8 := l.flatMap fun e => lenText ⟨(encE e).toArray⟩
/-- What stands ahead of the entries, what stands behind them. -/
def encH (m : Ms) : List UInt8 := enc (zig m.k) ++ (enc (zig m.f) ++ (enc (zig m.t) ++ (enc (zig m.b) ++ (enc (zig m.sl) ++ (enc (zig m.ro) ++ (enc (zig m.se) ++ (enc (zig m.er) ++ enc (zig (m.es.length : Int)))))))))
def encR (m : Ms) : List UInt8 := lenText ⟨(encC m.c).toArray⟩ ++ (enc (zig m.rs) ++ (enc (zig m.rq) ++ (enc (zig m.re) ++ (enc m.tk ++ (enc (zig m.rn) ++ lenText m.x)))))
/-- A message's bytes. -/
def encM (m : Ms) : List UInt8 := encH m ++ (encEs m.es ++ encR m)

/-! ### Reading -/
/-- A reader: what is left, whether it is bad. -/
abbrev St := ByteArray × Bool
def uN (σ : St) : Nat × St := rU σ.1 σ.2
def uI (σ : St) : Int × St := (zag (uN σ).1, (uN σ).2)
def uT (σ : St) : ByteArray × St := rT σ.1 σ.2

/-- One entry, and then more. -/
def stepE (σ : St) (k : St → Option (List En × St)) : Option (List En × St) :=
  match decE (uT σ).1 with
  | none => none
  | some e =>
    match k (uT σ).2 with
    | none => none
    | some p => some (e :: p.1, p.2)
/-- Entries, one behind the other. -/
def readEs : Nat → St → Option (List En × St)
  | 0 => fun σ => some ([], σ)
  | n + 1 => fun σ => stepE σ (readEs n)

/-- What stands ahead of the entries. -/
structure Hd where
  k : Int
  f : Int
  t : Int
  b : Int
  sl : Int
  ro : Int
  se : Int
  er : Int
  n : Int
def readH (σ : St) : Hd × St :=
  let a1 := uI σ
  let a2 := uI a1.2
  let a3 := uI a2.2
  let a4 := uI a3.2
  let a5 := uI a4.2
  let a6 := uI a5.2
  let a7 := uI a6.2
  let a8 := uI a7.2
  let a9 := uI a8.2
  (⟨a1.1, a2.1, a3.1, a4.1, a5.1, a6.1, a7.1, a8.1, a9.1⟩, a9.2)
/-- What stands behind them. -/
structure Tl where
  c : ByteArray
  rs : Int
  rq : Int
  re : Int
  tk : Nat
  rn : Int
  x : ByteArray
def readL (σ : St) : Tl × St :=
  let a1 := uT σ
  let a2 := uI a1.2
  let a3 := uI a2.2
  let a4 := uI a3.2
  let a5 := uN a4.2
  let a6 := uI a5.2
  let a7 := uT a6.2
  (⟨a1.1, a2.1, a3.1, a4.1, a5.1, a6.1, a7.1⟩, a7.2)

/-- The message of what was read. -/
def mkM (h : Hd) (l : List En) (c : Cm) (t : Tl) : Ms := ⟨h.k, h.f, h.t, h.b, h.sl, h.ro, h.se, h.er, l, c, t.rs, t.rq, t.re, t.tk, t.rn, t.x⟩

/-- Bytes as a message. -/
def decM (s : ByteArray) : Option Ms :=
  if (0 ≤ (readH (s, false)).1.n ∧ (readH (s, false)).1.n ≤ 4096) ∧ s.size ≤ 524288 then
    match readEs (readH (s, false)).1.n.toNat (readH (s, false)).2 with
    | none => none
    | some (l, τ) =>
      match decC (readL τ).1.c with
      | none => none
      | some c => if rD (readL τ).2.1 (readL τ).2.2 = 0 ∧ mayM (mkM (readH (s, false)).1 l c (readL τ).1) = true then some (mkM (readH (s, false)).1 l c (readL τ).1) else none
  else none

theorem uN_only {σ τ : St} {n : Nat} (h : uN σ = (n, τ)) (hb : τ.2 = false) : σ.2 = false ∧ σ.1.data.toList = enc n ++ τ.1.data.toList := by
  obtain ⟨t, b⟩ := τ
  simp only at hb
  subst hb
  exact rU_only h
theorem uI_only {σ τ : St} {n : Int} (h : uI σ = (n, τ)) (hb : τ.2 = false) : σ.2 = false ∧ σ.1.data.toList = enc (zig n) ++ τ.1.data.toList := by
  unfold uI at h
  simp only [Prod.mk.injEq] at h
  obtain ⟨rfl, rfl⟩ := h
  rw [zig_zag]
  exact uN_only (Prod.eta _).symm hb
theorem uT_only {σ τ : St} {S : ByteArray} (h : uT σ = (S, τ)) (hb : τ.2 = false) : σ.2 = false ∧ σ.1.data.toList = lenText S ++ τ.1.data.toList ∧ S.size ≤ 524288 := by
  obtain ⟨t, b⟩ := τ
  simp only at hb
  subst hb
  exact rT_only h

theorem decE_only {s : ByteArray} {e : En} (h : decE s = some e) : mayE e = true ∧ s = ⟨(encE e).toArray⟩ := by
  unfold decE at h
  cases hc : decC (readE s).2.2.1 with
  | none => rw [hc] at h; cases h
  | some c =>
    rw [hc] at h
    simp only at h
    by_cases hz : (readE s).2.2.2 = 0 ∧ mayE ⟨(readE s).1, (readE s).2.1, c⟩ = true
    · rw [if_pos hz] at h
      obtain rfl := Option.some.inj h
      refine ⟨hz.2, ?_⟩
      have h1 := readE_only hz.1
      rw [(decC_only hc).2] at h1
      exact h1
    · rw [if_neg hz] at h
      cases h

theorem stepE_some {k : St → Option (List En × St)} {σ : St} {e : En} {l : List En} {τ : St} (h1 : decE (uT σ).1 = some e) (h2 : k (uT σ).2 = some (l, τ)) : stepE σ k = some (e :: l, τ) := by
  unfold stepE
  rw [h1]
  simp only
  rw [h2]
theorem stepE_none {k : St → Option (List En × St)} {σ : St} (h1 : decE (uT σ).1 = none) : stepE σ k = none := by
  unfold stepE
  rw [h1]
theorem stepE_inv {k : St → Option (List En × St)} {σ : St} {l : List En} {τ : St} (h : stepE σ k = some (l, τ)) : ∃ e l', decE (uT σ).1 = some e ∧ k (uT σ).2 = some (l', τ) ∧ l = e :: l' := by
  unfold stepE at h
  cases hd : decE (uT σ).1 with
  | none => rw [hd] at h; cases h
  | some e =>
    rw [hd] at h
    simp only at h
    cases hr : k (uT σ).2 with
    | none => rw [hr] at h; cases h
    | some p =>
      obtain ⟨l', τ'⟩ := p
      rw [hr] at h
      simp only [Option.some.injEq, Prod.mk.injEq] at h
      exact ⟨e, l', rfl, by rw [h.2], h.1.symm⟩
theorem readEs_zero (σ : St) : readEs 0 σ = some ([], σ) := rfl
theorem readEs_succ (n : Nat) (σ : St) : readEs (n + 1) σ = stepE σ (readEs n) := rfl

theorem encEs_cons (e : En) (l : List En) (rest : List UInt8) : encEs (e :: l) ++ rest = lenText ⟨(encE e).toArray⟩ ++ (encEs l ++ rest) := by
  unfold encEs
  rw [List.flatMap_cons, List.append_assoc]

theorem readEs_only (n : Nat) : ∀ (σ τ : St) (l : List En), readEs n σ = some (l, τ) → τ.2 = false → σ.2 = false ∧ σ.1.data.toList = encEs l ++ τ.1.data.toList ∧ l.length = n := by
  induction n with
  | zero =>
    intro σ τ l h hb
    rw [readEs_zero] at h
    simp only [Option.some.injEq, Prod.mk.injEq] at h
    obtain ⟨rfl, rfl⟩ := h
    exact ⟨hb, rfl, rfl⟩
  | succ n ih =>
    intro σ τ l h hb
    rw [readEs_succ] at h
    obtain ⟨e, l', hd, hr, rfl⟩ := stepE_inv h
    obtain ⟨h1, h2, h3⟩ := ih _ _ _ hr hb
    obtain ⟨g1, g2, _⟩ := uT_only (Prod.eta _).symm h1
    refine ⟨g1, ?_, by rw [List.length_cons, h3]⟩
    rw [g2, h2, (decE_only hd).2, encEs_cons]

theorem readH_only {σ : St} (h : (readH σ).2.2 = false) : σ.2 = false ∧ σ.1.data.toList = (enc (zig (readH σ).1.k) ++ (enc (zig (readH σ).1.f) ++ (enc (zig (readH σ).1.t) ++ (enc (zig (readH σ).1.b) ++ (enc (zig (readH σ).1.sl) ++ (enc (zig (readH σ).1.ro) ++ (enc (zig (readH σ).1.se) ++ (enc (zig (readH σ).1.er) ++ enc (zig (readH σ).1.n))))))))) ++ (readH σ).2.1.data.toList := by
  unfold readH at h ⊢
  simp only at h ⊢
  obtain ⟨b9, t9⟩ := uI_only (Prod.eta _).symm h
  obtain ⟨b8, t8⟩ := uI_only (Prod.eta _).symm b9
  obtain ⟨b7, t7⟩ := uI_only (Prod.eta _).symm b8
  obtain ⟨b6, t6⟩ := uI_only (Prod.eta _).symm b7
  obtain ⟨b5, t5⟩ := uI_only (Prod.eta _).symm b6
  obtain ⟨b4, t4⟩ := uI_only (Prod.eta _).symm b5
  obtain ⟨b3, t3⟩ := uI_only (Prod.eta _).symm b4
  obtain ⟨b2, t2⟩ := uI_only (Prod.eta _).symm b3
  obtain ⟨b1, t1⟩ := uI_only (Prod.eta _).symm b2
  refine ⟨b1, ?_⟩
  simp only [List.append_assoc]
  rw [← t9, ← t8, ← t7, ← t6, ← t5, ← t4, ← t3, ← t2, ← t1]
theorem readL_only {σ : St} (h : rD (readL σ).2.1 (readL σ).2.2 = 0) : σ.2 = false ∧ σ.1.data.toList = lenText (readL σ).1.c ++ (enc (zig (readL σ).1.rs) ++ (enc (zig (readL σ).1.rq) ++ (enc (zig (readL σ).1.re) ++ (enc (readL σ).1.tk ++ (enc (zig (readL σ).1.rn) ++ lenText (readL σ).1.x))))) := by
  obtain ⟨b8, t8⟩ := rD_only h
  unfold readL at b8 t8 ⊢
  simp only at b8 t8 ⊢
  obtain ⟨b7, t7, _⟩ := uT_only (Prod.eta _).symm b8
  obtain ⟨b6, t6⟩ := uI_only (Prod.eta _).symm b7
  obtain ⟨b5, t5⟩ := uN_only (Prod.eta _).symm b6
  obtain ⟨b4, t4⟩ := uI_only (Prod.eta _).symm b5
  obtain ⟨b3, t3⟩ := uI_only (Prod.eta _).symm b4
  obtain ⟨b2, t2⟩ := uI_only (Prod.eta _).symm b3
  obtain ⟨b1, t1, _⟩ := uT_only (Prod.eta _).symm b2
  refine ⟨b1, ?_⟩
  rw [t8, List.append_nil] at t7
  rw [← t7, ← t6, ← t5, ← t4, ← t3, ← t2, ← t1]

/-- What is read of bytes has just these bytes. -/
theorem decM_only {s : ByteArray} {m : Ms} (h : decM s = some m) : mayM m = true ∧ s = ⟨(encM m).toArray⟩ ∧ (encM m).length ≤ 524288 := by
  unfold decM at h
  by_cases hn : (0 ≤ (readH (s, false)).1.n ∧ (readH (s, false)).1.n ≤ 4096) ∧ s.size ≤ 524288
  · rw [if_pos hn] at h
    cases hr : readEs (readH (s, false)).1.n.toNat (readH (s, false)).2 with
    | none => rw [hr] at h; cases h
    | some p =>
      obtain ⟨l, τ⟩ := p
      rw [hr] at h
      simp only at h
      cases hc : decC (readL τ).1.c with
      | none => rw [hc] at h; cases h
      | some c =>
        rw [hc] at h
        simp only at h
        by_cases hz : rD (readL τ).2.1 (readL τ).2.2 = 0 ∧ mayM (mkM (readH (s, false)).1 l c (readL τ).1) = true
        · rw [if_pos hz] at h
          obtain rfl := Option.some.inj h
          obtain ⟨hD, hm⟩ := hz
          obtain ⟨k1, t1⟩ := readL_only hD
          obtain ⟨k2, t2, k3⟩ := readEs_only _ _ _ _ hr k1
          obtain ⟨_, t3⟩ := readH_only k2
          have hs : s.data.toList = encM (mkM (readH (s, false)).1 l c (readL τ).1) := by
            have hcc := (decC_only hc).2
            rw [show s.data.toList = ((s, false) : St).1.data.toList from rfl, t3, t2, t1, hcc]
            unfold encM encH encR mkM
            simp only
            rw [show ((l.length : Nat) : Int) = (readH (s, false)).1.n by rw [k3]; omega]
          have hs' : s = ⟨(encM (mkM (readH (s, false)).1 l c (readL τ).1)).toArray⟩ := by
            rw [← hs, Lib.mk_data]
          refine ⟨hm, hs', ?_⟩
          rw [← hs, ← Lib.size_eq]
          exact hn.2
        · rw [if_neg hz] at h
          cases h
  · rw [if_neg hn] at h
    cases h

/-! ### What was written is read -/
theorem uN_enc (n : Nat) (h : n < 18446744073709551616) (rest : List UInt8) : uN (⟨(enc n ++ rest).toArray⟩, false) = (n, ⟨rest.toArray⟩, false) := rU_enc n h rest
theorem uI_enc {n : Int} (h1 : -9223372036854775808 ≤ n) (h2 : n ≤ 9223372036854775807) (rest : List UInt8) : uI (⟨(enc (zig n) ++ rest).toArray⟩, false) = (n, ⟨rest.toArray⟩, false) := by
  unfold uI
  rw [uN_enc _ (zig_bound h1 h2), zag_zig]
theorem uT_enc (S : ByteArray) (h : S.size ≤ 524288) (rest : List UInt8) : uT (⟨(lenText S ++ rest).toArray⟩, false) = (S, ⟨rest.toArray⟩, false) := rT_text S h rest

theorem encE_len {e : En} (h : mayE e = true) : (encE e).length ≤ 240 := by
  obtain ⟨h1, h2, h3⟩ := mayE_small h
  have hl := encC_len h3
  have l1 := enc_len_ten (zig_bound (n := e.slot) (by omega) (by omega))
  have l2 := enc_len_ten (zig_bound (n := e.ballot) (by omega) (by omega))
  have l4 := enc_len_ten (n := (encC e.cmd).length) (by omega)
  unfold encE lenText
  rw [size_list]
  simp only [List.length_append]
  omega

theorem readEs_enc (l : List En) (rest : List UInt8) (h : l.all mayE = true) : readEs l.length (⟨(encEs l ++ rest).toArray⟩, false) = some (l, ⟨rest.toArray⟩, false) := by
  induction l with
  | nil => exact readEs_zero _
  | cons e l ih =>
    rw [List.all_cons, Bool.and_eq_true] at h
    have hl := encE_len h.1
    have h1 := uT_enc ⟨(encE e).toArray⟩ (by rw [size_list]; omega) (encEs l ++ rest)
    rw [encEs_cons, List.length_cons]
    rw [readEs_succ]
    refine stepE_some (e := e) ?_ ?_
    · rw [h1]
      exact decE_enc h.1
    · rw [h1]
      exact ih h.2

theorem readH_enc {m : Ms} (h : mayM m = true) (rest : List UInt8) : readH (⟨(encH m ++ rest).toArray⟩, false) = (⟨m.k, m.f, m.t, m.b, m.sl, m.ro, m.se, m.er, (m.es.length : Int)⟩, ⟨rest.toArray⟩, false) := by
  obtain ⟨⟨g1, g2, g3, g4, g5⟩, ⟨g6, g7, g8, g9, _, _⟩, _, _⟩ := mayM_small h
  unfold encH
  simp only [List.append_assoc]
  unfold readH
  simp only [uI_enc (show -9223372036854775808 ≤ m.k by omega) (by omega), uI_enc (show -9223372036854775808 ≤ m.f by omega) (by omega), uI_enc (show -9223372036854775808 ≤ m.t by omega) (by omega), uI_enc (show -9223372036854775808 ≤ m.b by omega) (by omega), uI_enc (show -9223372036854775808 ≤ m.sl by omega) (by omega), uI_enc (show -9223372036854775808 ≤ m.ro by omega) (by omega), uI_enc (show -9223372036854775808 ≤ m.se by omega) (by omega), uI_enc (show -9223372036854775808 ≤ m.er by omega) (by omega), uI_enc (show -9223372036854775808 ≤ (m.es.length : Int) by omega) (by omega)]

theorem readL_enc {m : Ms} (h : mayM m = true) (ht : m.tk < 18446744073709551616) : readL (⟨(encR m).toArray⟩, false) = (⟨⟨(encC m.c).toArray⟩, m.rs, m.rq, m.re, m.tk, m.rn, m.x⟩, ⟨#[]⟩, false) := by
  obtain ⟨_, ⟨_, _, _, _, hc, hx⟩, ⟨g1, g2, g3, g4⟩, _⟩ := mayM_small h
  have hl := encC_len hc
  have e1 := uT_enc ⟨(encC m.c).toArray⟩ (by rw [size_list]; omega)
  have e7 := uT_enc m.x hx []
  rw [List.append_nil] at e7
  unfold encR
  unfold readL
  simp only [e1, e7, uN_enc _ ht, uI_enc (show -9223372036854775808 ≤ m.rs by omega) (by omega), uI_enc (show -9223372036854775808 ≤ m.rq by omega) (by omega), uI_enc (show -9223372036854775808 ≤ m.re by omega) (by omega), uI_enc (show -9223372036854775808 ≤ m.rn by omega) (by omega)]

theorem decM_enc {m : Ms} (h : mayM m = true) (ht : m.tk < 18446744073709551616) (hl : (encM m).length ≤ 524288) : decM ⟨(encM m).toArray⟩ = some m := by
  obtain ⟨_, ⟨_, _, _, hn, hc, _⟩, _, hes⟩ := mayM_small h
  have e1 := readH_enc h (encEs m.es ++ encR m)
  have e2 := readEs_enc m.es (encR m) hes
  have e3 := readL_enc h ht
  unfold decM
  rw [show (⟨(encM m).toArray⟩ : ByteArray) = ⟨(encH m ++ (encEs m.es ++ encR m)).toArray⟩ from rfl, e1]
  simp only
  rw [if_pos ⟨⟨by omega, by omega⟩, by rw [size_list]; exact hl⟩, Int.toNat_natCast, e2]
  simp only
  rw [e3]
  simp only
  rw [decC_enc hc]
  simp only
  rw [if_pos]
  · rfl
  · exact ⟨rfl, h⟩

/-- Two messages that may be and have the same bytes are one. -/
theorem encM_inj {a b : Ms} (ha : mayM a = true) (hb : mayM b = true) (ta : a.tk < 18446744073709551616) (tb : b.tk < 18446744073709551616) (hl : (encM a).length ≤ 524288) (h : encM a = encM b) : a = b := by
  have h1 := decM_enc ha ta hl
  rw [h, decM_enc hb tb (by rw [← h]; exact hl)] at h1
  exact (Option.some.inj h1).symm

/-! ### Encode's, Decode's two answers -/
def encMT (m : Ms) : ByteArray × Int := if mayM m = true ∧ (encM m).length ≤ 524288 then (⟨(encM m).toArray⟩, 0) else (⟨#[]⟩, 1)
def decMT (s : ByteArray) : Ms × Int := match decM s with | some m => (m, 0) | none => (Ms.zero, 2)
end Go.Proofs.Ytmmdcbgmhjheeaa
