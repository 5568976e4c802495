/-
  A number out of some (package latchkeyref08): the others, in a row of their own. The conditions: the row lies in memory as its reading says, and is no longer than 65536.
-/
import Derived.Test.YtlcacjekpdmigaaMxMem
namespace Go.Proofs.Ytlcacjekpdmigaa
open Go.RowKit

def dropL (l : List Int) (n : Int) : List Int := l.filter fun x => !(x == n)
theorem dropL_le (l : List Int) (n : Int) : (dropL l n).length ≤ l.length := List.length_filter_le _ _
theorem dropL_take (l : List Int) (n : Int) (k : Nat) (hk : k < l.length) : dropL (l.take (k + 1)) n = if l[k] = n then dropL (l.take k) n else dropL (l.take k) n ++ [l[k]] := by
  unfold dropL
  rw [List.take_succ_eq_append_getElem hk, List.filter_append]
  by_cases h : l[k] = n
  · rw [if_pos h]
    simp [h]
  · rw [if_neg h]
    simp [h]
set_option maxHeartbeats 3200000 in
set_option maxRecDepth 100000 in
theorem drop_any (w : World) (v : Value) (l : List Int) (n : Int) (hv : IntsAt w v l) (hl : l.length ≤ 65536) : Calls Try.prog 36 #[v, .int .i64 n] w fun e w' => ∃ u, e = .returned u ∧ w'.ownsRow w.heap.size 3 1 u (dropL l n).length (intL (dropL l n)) ∧ Below w.heap.size w w' := by
  obtain ⟨i0, hi, hz0, hz1, hz2⟩ := info_parts infoI
  obtain ⟨a, cap, rfl, _, hx⟩ := hv.ex
  have HX : Hid _ := hx
  clear hx hv
  go_enter Try.func36, Try.ntmps36
  go_wp2
  go_loopw [5, 6] (fun u i wr => ∃ k : Nat, k ≤ l.length ∧ i = .int .i64 k ∧ wr.ownsRow w.heap.size 3 1 u (dropL (l.take k) n).length (intL (dropL (l.take k) n)) ∧ Below w.heap.size w wr) (fun _ i _ => l.length - (intOf i).toNat)
  case atStart => exact ⟨0, Nat.zero_le _, rfl, World.ownsRow_nil _ _ _ _, Below.refl _ _⟩
  case round =>
    obtain ⟨k, hk, rfl, hown, bel⟩ := hrel
    obtain ⟨pu, nu, cu, rfl⟩ := own_form hown
    by_cases hkl : k < l.length
    · rcases HX.out with h0 | ⟨bk, off, rfl, hbk, hxx⟩
      · omega
      have z0 := (bel.cell (p := ⟨bk, off + k, none⟩) (by exact hbk)).trans (hxx k hkl)
      have q0 : decide ((k : Int) < (l.length : Int)) = true := decide_eq_true (by omega)
      have q5 : decide ((0 : Int) ≤ (k : Int)) = true := decide_eq_true (by omega)
      have HD : Hid _ := dropL_take l n k hkl
      have hdl : (dropL (l.take k) n).length ≤ 65536 := by
        have h1 := dropL_le (l.take k) n
        have h2 := List.length_take_le k l
        omega
      have hbs := bel.size
      clear hxx
      by_cases he : l[k] = n
      · have q1 : (l[k] == n) = true := beq_iff_eq.2 he
        have HD2 : Hid (dropL (l.take (k + 1)) n = dropL (l.take k) n) := by
          have := HD.out
          rw [if_pos he] at this
          exact this
        clear he HD
        generalize l[k] = X at *
        generalize hdd : dropL (l.take k) n = dd at *
        clear hdd
        go_wp2
        go_roundw
        case rel => exact ⟨k + 1, hkl, by go_num, by rw [HD2.out]; exact hown, bel⟩
        case measure => simp [intOf]; omega
      · have q1 : (l[k] == n) = false := beq_eq_false_iff_ne.2 he
        have HD2 : Hid (dropL (l.take (k + 1)) n = dropL (l.take k) n ++ [l[k]]) := by
          have := HD.out
          rw [if_neg he] at this
          exact this
        clear he HD
        generalize l[k] = X at *
        generalize hdd : dropL (l.take k) n = dd at *
        clear hdd
        go_wp2_with (at_builtin; refine wpList_append_own _ rfl (.tmp 19) (.tmp 24) 39 rfl w.heap.size 3 i0 _ 1 8 Try.underlying39 hi hz0 hz1 hz2 rfl (by decide) (.slice pu nu cu) dd.length _ rfl (hown.alloc _) ⟨wr.heap.size, 0, none⟩ 1 1 [.int .i64 X] rfl rfl (World.news_of_block (cs := #[.int .i64 X]) (t := 3) (fr := (0, 0)) (heap_alloc_new wr _)) (by simp [Value.oneCell']) (by unfold maxLen; omega) (by omega) (by simp; omega) ?_; intro v4 w4 hrow4 hg4 _)
        have b4 : Below w.heap.size w w4 := (bel.alloc bel.size _).grown hg4 (by simp; omega) (fun q hq => (hown.lt q hq).1)
        go_roundw
        case rel => exact ⟨k + 1, hkl, by go_num, by
          rw [HD2.out]
          have e4 : intL (dd ++ [X]) = intL dd ++ [.int .i64 X] := by unfold intL; simp
          rw [e4, List.length_append]
          exact hrow4, b4⟩
        case measure => simp [intOf]; omega
    · have hke : k = l.length := by omega
      subst hke
      rw [List.take_length] at hown
      have q0 : decide ((l.length : Int) < (l.length : Int)) = false := decide_eq_false (by omega)
      have HO : Hid _ := hown
      clear hown
      go_wp2
      go_ret
      exact ⟨_, rfl, HO.out, bel⟩
end Go.Proofs.Ytlcacjekpdmigaa
