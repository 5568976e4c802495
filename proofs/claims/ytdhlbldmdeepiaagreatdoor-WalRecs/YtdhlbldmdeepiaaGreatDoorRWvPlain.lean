/-
  Bytes as a record, by their first byte (plain data). No condition.
-/
import Derived.Test.YtdhlbldmdeepiaaGreatDoorRPackD
namespace Go.Proofs.YtdhlbldmdeepiaaGreatDoor

theorem entry_only {s : ByteArray} {e : En} (h : decE s = some e) : mayE e = true ∧ s = ⟨(encE e).toArray⟩ := by
  unfold decE at h
  cases hc : decC (readE s).2.2.1 with
  | none => rw [hc] at h; cases h
  | some c =>
    rw [hc] at h
    simp only at h
    by_cases hz : (readE s).2.2.2 = 0 ∧ mayE ⟨(readE s).1, (readE s).2.1, c⟩ = true
    · rw [if_pos hz] at h
      obtain rfl := Option.some.inj h
      refine ⟨hz.2, ?_⟩
      have h1 := readE_only hz.1
      rw [(decC_only hc).2] at h1
      exact h1
    · rw [if_neg hz] at h
      cases h
theorem decET_only {s : ByteArray} (h : (decET s).2 = 0) : mayE (decET s).1 = true ∧ s = ⟨(encE (decET s).1).toArray⟩ := by
  unfold decET at h ⊢
  cases hd : decE s with
  | none => rw [hd] at h; cases h
  | some e => exact entry_only hd
theorem eight_num8 {l : List UInt8} (h : l.length = 8) : eight (num8 l) = l := by
  have l1 : (l.take 4).length = 4 := by rw [List.length_take]; omega
  have a := four_num4 (l := l) (by omega)
  have b := four_num4 (l := l.drop 4) (by rw [List.length_drop]; omega)
  have c : (l.drop 4).take 4 = l.drop 4 := List.take_of_length_le (by rw [List.length_drop]; omega)
  have n1 := num4_lt l
  have n2 := num4_lt (l.drop 4)
  have e1 : four (num8 l) = four (num4 l) := by
    unfold four num8
    have h1 : (num4 l + num4 (l.drop 4) * 4294967296) % 256 = num4 l % 256 := by omega
    have h2 : (num4 l + num4 (l.drop 4) * 4294967296) / 256 % 256 = num4 l / 256 % 256 := by omega
    have h3 : (num4 l + num4 (l.drop 4) * 4294967296) / 65536 % 256 = num4 l / 65536 % 256 := by omega
    have h4 : (num4 l + num4 (l.drop 4) * 4294967296) / 16777216 % 256 = num4 l / 16777216 % 256 := by omega
    rw [h1, h2, h3, h4]
  have e2 : num8 l / 4294967296 = num4 (l.drop 4) := by unfold num8; omega
  unfold eight
  rw [e1, e2, a, b, c, List.take_append_drop]
theorem encR_head {r : Rc} (h : mayR r = true) : (r.kind = 1 ∧ encR r = 1 :: eight r.n.toNat) ∨ (r.kind = 2 ∧ encR r = 2 :: encE r.en) := by
  rcases mayR_kind h with ⟨h1, _⟩ | ⟨h1, _⟩
  · exact Or.inl ⟨h1, by unfold encR; rw [if_pos h1]⟩
  · exact Or.inr ⟨h1, by unfold encR; rw [if_neg (by omega)]⟩
theorem decR_nil : decR [] = none := by
  cases h : decR [] with
  | none => rfl
  | some r =>
    obtain ⟨m, e⟩ := decR_only h
    rcases encR_head m with ⟨_, e1⟩ | ⟨_, e1⟩ <;> rw [e1] at e <;> cases e
theorem decR_other {c : UInt8} {t : List UInt8} (h1 : c ≠ 1) (h2 : c ≠ 2) : decR (c :: t) = none := by
  cases h : decR (c :: t) with
  | none => rfl
  | some r =>
    obtain ⟨m, e⟩ := decR_only h
    rcases encR_head m with ⟨_, e1⟩ | ⟨_, e1⟩
    · rw [e1] at e
      exact absurd (List.cons.inj e).1.symm h1
    · rw [e1] at e
      exact absurd (List.cons.inj e).1.symm h2
theorem decR_one (t : List UInt8) : decR (1 :: t) = if t.length = 8 ∧ 1 ≤ num8 t ∧ num8 t ≤ 1099511627776 then some ⟨1, (num8 t : Int), En.zero⟩ else none := by
  by_cases h : t.length = 8 ∧ 1 ≤ num8 t ∧ num8 t ≤ 1099511627776
  · rw [if_pos h]
    have m : mayR ⟨1, (num8 t : Int), En.zero⟩ = true := mayR_one (by omega) (by omega)
    have e : encR ⟨1, (num8 t : Int), En.zero⟩ = 1 :: t := by
      show 1 :: eight (num8 t : Int).toNat = 1 :: t
      rw [Int.toNat_natCast, eight_num8 h.1]
    have := decR_enc m
    rw [e] at this
    exact this
  · rw [if_neg h]
    cases hd : decR (1 :: t) with
    | none => rfl
    | some r =>
      exfalso
      obtain ⟨m, e⟩ := decR_only hd
      rcases encR_head m with ⟨k1, e1⟩ | ⟨k1, e1⟩
      · rw [e1] at e
        have et := (List.cons.inj e).2
        rcases mayR_kind m with ⟨_, h2, h3, _⟩ | ⟨h2, _⟩
        · apply h
          have n8 := num8_eight (n := r.n.toNat) (by omega) []
          rw [List.append_nil] at n8
          rw [← et, eight_len, n8]
          omega
        · omega
      · rw [e1] at e
        have := (List.cons.inj e).1
        cases this
theorem decR_two (t : List UInt8) : decR (2 :: t) = if (decET ⟨t.toArray⟩).2 = 0 ∧ 1 ≤ (decET ⟨t.toArray⟩).1.ballot then some ⟨2, 0, (decET ⟨t.toArray⟩).1⟩ else none := by
  have only := @decET_only ⟨t.toArray⟩
  have back : ∀ e : En, mayE e = true → t = encE e → decET ⟨t.toArray⟩ = (e, 0) := fun e h1 h2 => by rw [h2]; exact decET_enc h1
  generalize decET ⟨t.toArray⟩ = D at only back ⊢
  by_cases h : D.2 = 0 ∧ 1 ≤ D.1.ballot
  · rw [if_pos h]
    obtain ⟨m, e⟩ := only h.1
    have hm : mayR ⟨2, 0, D.1⟩ = true := by
      unfold mayR
      simp [m, h.2]
    have et : t = encE D.1 := by
      have : t.toArray.toList = (encE D.1).toArray.toList := congrArg (fun s : ByteArray => s.data.toList) e
      rw [List.toList_toArray, List.toList_toArray] at this
      exact this
    have e2 : encR ⟨2, 0, D.1⟩ = 2 :: t := by
      show 2 :: encE D.1 = 2 :: t
      rw [← et]
    have := decR_enc hm
    rw [e2] at this
    exact this
  · rw [if_neg h]
    cases hd : decR (2 :: t) with
    | none => rfl
    | some r =>
      exfalso
      obtain ⟨m, e⟩ := decR_only hd
      rcases encR_head m with ⟨k1, e1⟩ | ⟨k1, e1⟩
      · rw [e1] at e
        have := (List.cons.inj e).1
        cases this
      · rw [e1] at e
        have et := (List.cons.inj e).2
        rcases mayR_kind m with ⟨h2, _⟩ | ⟨_, h2, _, h4⟩
        · omega
        · apply h
          rw [back r.en h2 et.symm]
          exact ⟨rfl, h4⟩
end Go.Proofs.YtdhlbldmdeepiaaGreatDoor
