/-
  How a message is read, as plain data: entries one by one; the answers, case by case. No condition.
-/
import Derived.Test.YtmmdcbgmhjheeaaMgPlain
import Derived.Test.YtmmdcbgmhjheeaaCmRDecE
namespace Go.Proofs.Ytmmdcbgmhjheeaa
open Go.RowKit


/-- Entries behind those that were read already. -/
def glue (es : List En) (r : Option (List En × St)) : Option (List En × St) := r.map fun p => (es ++ p.1, p.2)
theorem glue_nil (r : Option (List En × St)) : glue [] r = r := by
  unfold glue
  cases r <;> rfl
theorem glue_end (es : List En) (σ : St) : glue es (readEs 0 σ) = some (es, σ) := by
  rw [readEs_zero]
  unfold glue
  simp
theorem glue_step {es : List En} {k : Nat} {σ : St} {e : En} (h : decE (uT σ).1 = some e) : glue es (readEs (k + 1) σ) = glue (es ++ [e]) (readEs k (uT σ).2) := by
  rw [readEs_succ]
  unfold stepE
  rw [h]
  simp only
  unfold glue
  cases readEs k (uT σ).2 with
  | none => rfl
  | some p => simp
theorem glue_stop {es : List En} {k : Nat} {σ : St} (h : decE (uT σ).1 = none) : glue es (readEs (k + 1) σ) = none := by
  rw [readEs_succ, stepE_none h]
  rfl

theorem rT_fst (s : ByteArray) (b : Bool) : (rT s b).1.size ≤ 524288 := by
  unfold rT
  split
  · exact Nat.zero_le _
  · rename_i hz
    rw [Lib.size_eq, Lib.extract_data, List.length_take]
    omega

/-- What may be read at all. -/
def okH (s : ByteArray) : Prop := (0 ≤ (readH (s, false)).1.n ∧ (readH (s, false)).1.n ≤ 4096) ∧ s.size ≤ 524288
theorem decMT_a {s : ByteArray} (h : ¬ okH s) : decMT s = (Ms.zero, 2) := by
  unfold okH at h
  unfold decMT decM
  rw [if_neg h]
theorem decMT_b {s : ByteArray} (h : okH s) (hr : readEs (readH (s, false)).1.n.toNat (readH (s, false)).2 = none) : decMT s = (Ms.zero, 2) := by
  unfold okH at h
  unfold decMT decM
  rw [if_pos h, hr]
theorem decMT_c {s : ByteArray} (h : okH s) {l : List En} {τ : St} (hr : readEs (readH (s, false)).1.n.toNat (readH (s, false)).2 = some (l, τ)) (hc : decC (readL τ).1.c = none) : decMT s = (Ms.zero, 2) := by
  unfold okH at h
  unfold decMT decM
  rw [if_pos h, hr]
  simp only
  rw [hc]
theorem decMT_d {s : ByteArray} (h : okH s) {l : List En} {τ : St} (hr : readEs (readH (s, false)).1.n.toNat (readH (s, false)).2 = some (l, τ)) {c : Cm} (hc : decC (readL τ).1.c = some c)
    (hn : ¬ (rD (readL τ).2.1 (readL τ).2.2 = 0 ∧ mayM (mkM (readH (s, false)).1 l c (readL τ).1) = true)) : decMT s = (Ms.zero, 2) := by
  unfold okH at h
  unfold decMT decM
  rw [if_pos h, hr]
  simp only
  rw [hc]
  simp only
  rw [if_neg hn]
theorem decMT_D {s : ByteArray} (h : okH s) {l : List En} {τ : St} (hr : readEs (readH (s, false)).1.n.toNat (readH (s, false)).2 = some (l, τ)) (hn : ¬ rD (readL τ).2.1 (readL τ).2.2 = 0) : decMT s = (Ms.zero, 2) := by
  cases hc : decC (readL τ).1.c with
  | none => exact decMT_c h hr hc
  | some c => exact decMT_d h hr hc (fun x => hn x.1)
theorem decMT_e {s : ByteArray} (h : okH s) {l : List En} {τ : St} (hr : readEs (readH (s, false)).1.n.toNat (readH (s, false)).2 = some (l, τ)) {c : Cm} (hc : decC (readL τ).1.c = some c)
    (hD : rD (readL τ).2.1 (readL τ).2.2 = 0) (hm : mayM (mkM (readH (s, false)).1 l c (readL τ).1) = true) : decMT s = (mkM (readH (s, false)).1 l c (readL τ).1, 0) := by
  unfold okH at h
  unfold decMT decM
  rw [if_pos h, hr]
  simp only
  rw [hc]
  simp only
  rw [if_pos ⟨hD, hm⟩]

/-- A message that was read: its token is of 64 bits, its entries are not many. -/
theorem uN_lt (σ : St) : (uN σ).1 < 18446744073709551616 := rU_lt σ.1 σ.2
theorem readL_tk (σ : St) : (readL σ).1.tk < 18446744073709551616 := by
  unfold readL
  simp only
  exact uN_lt _
theorem mkM_tk (h : Hd) (l : List En) (c : Cm) (t : Tl) : (mkM h l c t).tk = t.tk := rfl
theorem decM_tk {s : ByteArray} {m : Ms} (h : decM s = some m) : m.tk < 18446744073709551616 := by
  unfold decM at h
  by_cases hn : (0 ≤ (readH (s, false)).1.n ∧ (readH (s, false)).1.n ≤ 4096) ∧ s.size ≤ 524288
  · rw [if_pos hn] at h
    cases hr : readEs (readH (s, false)).1.n.toNat (readH (s, false)).2 with
    | none => rw [hr] at h; cases h
    | some p =>
      obtain ⟨l, τ⟩ := p
      rw [hr] at h
      simp only at h
      cases hc : decC (readL τ).1.c with
      | none => rw [hc] at h; cases h
      | some c =>
        rw [hc] at h
        simp only at h
        by_cases hz : rD (readL τ).2.1 (readL τ).2.2 = 0 ∧ mayM (mkM (readH (s, false)).1 l c (readL τ).1) = true
        · rw [if_pos hz] at h
          rw [← Option.some.inj h, mkM_tk]
          exact readL_tk τ
        · rw [if_neg hz] at h
          cases h
  · rw [if_neg hn] at h
    cases h
theorem decMT_fine (s : ByteArray) : (decMT s).1.tk < 18446744073709551616 ∧ (decMT s).1.es.length ≤ 4096 := by
  unfold decMT
  cases h : decM s with
  | none => exact ⟨by show (0 : Nat) < _; omega, Nat.zero_le _⟩
  | some m => exact ⟨decM_tk h, (mayM_small (decM_only h).1).2.1.2.2.2.1⟩

/-! ### The document's reader, one number of 64 bits more -/
theorem pu64' {R m : Nat} {s s' : ByteArray} {b b' : Bool} {N : Nat} (hm : m ≤ 9223372036854775807) {w : World} (h : Rp w R m s b) (hu : rU s b = (N, s', b')) :
    Calls Try.prog 41 #[.pointer (some ⟨R, 0, none⟩)] w fun e w' => e = .returned (.int .u64 N) ∧ Rp w' R m s' b' ∧ w.grownBy w' (some R) := by
  obtain ⟨t, hp, ht, hr⟩ := h
  obtain ⟨h1, h2, h3⟩ := pairU hp
  refine (xu64_any R t b (by omega) w hr).mono fun e w' ⟨he, hx, hg⟩ => ?_
  rw [h1] at he
  rw [h2] at hx
  rw [hu] at he hx h3
  exact ⟨he, ⟨_, h3, Nat.le_trans (xU_size t b) ht, hx⟩, hg⟩
end Go.Proofs.Ytmmdcbgmhjheeaa
