/-
  Bytes as a record (package latchkeyref11): whole. The condition: the text is no longer than a text may be.
-/
import Derived.Test.YtdhlbldmdeepiaaGreatDoorRWlDecA
import Derived.Test.YtdhlbldmdeepiaaGreatDoorRWlDecB
import Derived.Test.YtdhlbldmdeepiaaGreatDoorRWlDecC
namespace Go.Proofs.YtdhlbldmdeepiaaGreatDoor
open Go.RowKit

theorem tail_list (s : ByteArray) : (⟨(s.data.toList.drop 1).toArray⟩ : ByteArray) = s.extract 1 s.size := by
  apply ByteArray.ext
  apply Array.ext'
  rw [tail_one]
theorem rdecR_two (s : ByteArray) (w : World) (hs : s.size ≤ 9223372036854775807) (k0 : 0 < s.size) (h2 : s[0].toNat = 2) :
    Calls Tryz.prog 11 #[.string s] w fun e w' => e = .returned (recV (decR s.data.toList)) ∧ Below w.heap.size w w' := by
  have hc := cons_one s k0
  have e2 : s[0] = 2 := UInt8.toNat_inj.mp h2
  rw [e2] at hc
  have q := fun w => rdecodeE_any (s.extract 1 s.size) (by rw [Lib.size_eq, tail_one, List.length_drop, ← Lib.size_eq]; omega) w
  have hcand : candR s.data.toList = ⟨2, 0, (decET (s.extract 1 s.size)).1⟩ := by
    unfold candR
    rw [if_neg (by rw [hc]; simp), if_pos (by rw [hc]; rfl), tail_list]
  unfold decR
  rw [hcand]
  generalize decET (s.extract 1 s.size) = D at q
  obtain ⟨⟨A, B, ⟨k, S, Q, T, n⟩⟩, z⟩ := D
  have inj : ∀ l : List UInt8, l = s.data.toList ↔ (⟨l.toArray⟩ : ByteArray) = s := fun l => ⟨fun e => by rw [e], fun e => by rw [← e]⟩
  cases hm : mayR ⟨2, 0, ⟨A, B, ⟨k, S, Q, T, n⟩⟩⟩ with
  | false =>
    rw [if_neg (fun x => by have := x.1; cases this)]
    exact rdec_b1 s w A B k S Q n z T q k0 h2 hm
  | true =>
    by_cases he : encR ⟨2, 0, ⟨A, B, ⟨k, S, Q, T, n⟩⟩⟩ = s.data.toList
    · rw [if_pos ⟨rfl, he⟩]
      exact rdec_b2 s w A B k S Q n z T q k0 h2 hm ((inj _).mp he)
    · rw [if_neg (fun x => he x.2)]
      exact rdec_b3 s w A B k S Q n z T q k0 h2 hm (fun e => he ((inj _).mpr e))
theorem rdecR_any (s : ByteArray) (w : World) (hs : s.size ≤ 9223372036854775807) :
    Calls Tryz.prog 11 #[.string s] w fun e w' => e = .returned (recV (decR s.data.toList)) ∧ Below w.heap.size w w' := by
  by_cases h0 : s.size = 0
  · have e := empty_of_size h0
    rw [show decR s.data.toList = none by rw [e]; exact decR_nil]
    exact rdec_none s w h0
  have k0 : 0 < s.size := by omega
  have hc := cons_one s k0
  by_cases h2 : s[0].toNat = 2
  · exact rdecR_two s w hs k0 h2
  have n2 : s[0] ≠ 2 := fun e => h2 (by rw [e]; rfl)
  by_cases h1 : s[0].toNat = 1
  · have e1 : s[0] = 1 := UInt8.toNat_inj.mp h1
    rw [e1] at hc
    have hl : s.size = (s.data.toList.drop 1).length + 1 := by
      rw [Lib.size_eq]
      conv => lhs; rw [hc]
      rfl
    by_cases h9 : s.size = 9
    · have ht : (s.data.toList.drop 1).length = 8 := by omega
      have hat : ∀ (i : Nat) (hi : i + 1 < s.size), (s.data.toList.drop 1)[i]'(by omega) = s[i + 1] := fun i hi => by
        rw [List.getElem_drop]
        simp only [Nat.add_comm 1 i]
        rfl
      obtain ⟨M, hM⟩ : ∃ M, M = num8 (s.data.toList.drop 1) := ⟨_, rfl⟩
      have top : M ≤ 1099511627776 → s[8].toNat = 0 ∧ s[7].toNat = 0 := fun hle => by
        have e := eight_num8 ht
        rw [← hM] at e
        have t6 := eight_6 (n := M) (by omega)
        have t7 := eight_7 (n := M) (by omega)
        rw [e, List.getElem?_eq_getElem (by omega)] at t6 t7
        have a6 := Option.some.inj t6
        have a7 := Option.some.inj t7
        rw [hat 6 (by omega)] at a6
        rw [hat 7 (by omega)] at a7
        exact ⟨by rw [a7]; rfl, by rw [a6]; rfl⟩
      by_cases h8 : s[8].toNat = 0
      · by_cases h7 : s[7].toNat = 0
        · have e0 : decR s.data.toList = if (s.data.toList.drop 1).length = 8 ∧ 1 ≤ M ∧ M ≤ 1099511627776 then some ⟨1, (M : Int), En.zero⟩ else none := by
            conv => lhs; rw [hc]
            rw [decR_one, ← hM]
          rw [e0]
          by_cases hr : 1 ≤ M ∧ M ≤ 1099511627776
          · rw [if_pos ⟨ht, hr⟩]
            have hm : mayR ⟨1, (M : Int), ⟨0, 0, ⟨0, 0, 0, ⟨#[]⟩, 0⟩⟩⟩ = true := mayR_one (by omega) (by omega)
            have he : encR ⟨1, (M : Int), ⟨0, 0, ⟨0, 0, 0, ⟨#[]⟩, 0⟩⟩⟩ = s.data.toList := by
              show 1 :: eight (M : Int).toNat = _
              rw [Int.toNat_natCast, hM, eight_num8 ht]
              exact hc.symm
            exact rdec_a2 s w h9 k0 (by omega) (by omega) h1 h8 h7 M hM hm (by rw [he])
          · rw [if_neg (fun x => hr x.2)]
            have hm : mayR ⟨1, (M : Int), ⟨0, 0, ⟨0, 0, 0, ⟨#[]⟩, 0⟩⟩⟩ = false := by
              unfold mayR
              simp
              intro h3 h4
              omega
            exact rdec_a1 s w h9 k0 (by omega) (by omega) h1 h8 h7 M hM hm
        · have e0 : decR s.data.toList = none := by
            conv => lhs; rw [hc]
            rw [decR_one, if_neg (fun x => h7 (top (by rw [hM]; exact x.2.2)).2)]
          rw [e0]
          exact rdec_c4 s w h9 k0 (by omega) (by omega) h1 h8 h7
      · have e0 : decR s.data.toList = none := by
          conv => lhs; rw [hc]
          rw [decR_one, if_neg (fun x => h8 (top (by rw [hM]; exact x.2.2)).1)]
        rw [e0]
        exact rdec_c3 s w h9 k0 (by omega) h1 h8
    · have e0 : decR s.data.toList = none := by
        conv => lhs; rw [hc]
        rw [decR_one, if_neg (fun x => h9 (by omega))]
      rw [e0]
      exact rdec_c1 s w h9 k0 h2
  · have n1 : s[0] ≠ 1 := fun e => h1 (by rw [e]; rfl)
    rw [hc, decR_other n1 n2]
    by_cases h9 : s.size = 9
    · exact rdec_c2 s w h9 k0 h1 h2
    · exact rdec_c1 s w h9 k0 h2
end Go.Proofs.YtdhlbldmdeepiaaGreatDoor
