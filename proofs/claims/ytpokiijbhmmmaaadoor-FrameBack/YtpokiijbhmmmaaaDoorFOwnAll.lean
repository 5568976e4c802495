/-
  The contract of package frame's All as it landed: it answers as the document's plain function. The conditions: the table of 16 numbers holds what its initialiser lays ('Tab'), and at most 2^40 bytes.
-/
import Derived.Test.YtpokiijbhmmmaaaDoorFFirst
namespace Go.Proofs.YtpokiijbhmmmaaaDoor
open Go.RowKit

set_option maxHeartbeats 1600000 in
set_option maxRecDepth 100000 in
theorem all_any (s : ByteArray) (hs : s.size ≤ 1099511627776) (w : World) (hTab : Tab w) :
    Calls Tryd.prog 14 #[.string s] w fun e w' => ∃ v, e = .returned (.tuple #[v, .int .i64 (allT s.data.toList).2]) ∧ w'.ownsRow w.heap.size 9 1 v (allT s.data.toList).1.length (strs (allT s.data.toList).1) ∧ Below w.heap.size w w' := by
  obtain ⟨i0, hi, hz0, hz1, hz2⟩ := info_parts Tryd.info9
  have hl := Lib.size_eq s
  have h0 : ∃ f, s.data.toList.length - 0 < f ∧ allT s.data.toList = ([] ++ (allOf f (s.data.toList.drop 0)).1, 0 + (allOf f (s.data.toList.drop 0)).2) := ⟨s.data.toList.length + 1, by omega, by simp [allT]⟩
  rw [← hl] at h0
  obtain ⟨base, hbase⟩ : ∃ base, w.heap.size = base := ⟨_, rfl⟩
  rw [hbase]
  clear hl
  go_enter Tryd.func14, Tryd.ntmps14
  go_wp2
  go_loopw [4, 5, 6, 7, 8] (fun v i _ _ _ wr => ∃ (a : Nat) (ts : List (List UInt8)), a ≤ s.size ∧ 8 * ts.length ≤ a ∧ i = .int .i64 a ∧ wr.ownsRow base 9 1 v ts.length (strs ts) ∧ Below base w wr ∧
      ∃ f, s.size - a < f ∧ allT s.data.toList = (ts ++ (allOf f (s.data.toList.drop a)).1, a + (allOf f (s.data.toList.drop a)).2)) (fun _ i _ _ _ _ => s.size - (intOf i).toNat)
  case atStart => exact ⟨0, [], by omega, by simp, rfl, World.ownsRow_nil _ _ _ _, Below.refl _ _, h0⟩
  case round =>
    clear h0
    obtain ⟨a, ts, ha, hts, rfl, hown, hbel, f, hf, hall⟩ := hrel
    have hsz : base ≤ wr.heap.size := by have := hbel.size; omega
    have tr : Tab wr := hTab.below (by rw [hbase]; exact hbel)
    obtain ⟨g, rfl⟩ : ∃ g, f = g + 1 := ⟨f - 1, by omega⟩
    have hxs : (s.extract a s.size).size ≤ s.size := by rw [Lib.size_eq, Lib.extract_to_end, List.length_drop, ← Lib.size_eq]; omega
    have q1 := first_any (s.extract a s.size) (by omega)
    have e1 : (s.extract a s.size).data.toList = s.data.toList.drop a := Lib.extract_to_end s a
    unfold firstT at q1
    rw [e1] at q1
    have hok := firstOf_ok (l := s.data.toList.drop a)
    rw [List.length_drop, ← Lib.size_eq] at hok
    by_cases herr : (firstOf (s.data.toList.drop a)).2.2 = 0
    · obtain ⟨n8, nle, tl⟩ := hok herr
      rw [allOf_step herr, List.drop_drop] at hall
      obtain ⟨t, ht⟩ : ∃ t, t = (firstOf (s.data.toList.drop a)).1 := ⟨_, rfl⟩
      obtain ⟨n, hn⟩ : ∃ n, n = (firstOf (s.data.toList.drop a)).2.1 := ⟨_, rfl⟩
      rw [← ht, ← hn, herr] at q1
      rw [← hn] at n8 nle
      rw [← ht, ← hn] at hall
      have HA : Hid (allT s.data.toList = (ts ++ t :: (allOf g (s.data.toList.drop (a + n))).1, a + (n + (allOf g (s.data.toList.drop (a + n))).2))) := hall
      have ia : (a : Int) ≤ (s.size : Int) := by omega
      clear hall hok herr tl e1 hxs ht hn
      go_wp2_with (first
        | (go_at_call 12; refine (q1 _ (by exact tr)).mono ?_; rintro e w1 ⟨rfl, b1⟩; have hown1 := hown.kept (grownB b1 Option.none) (by cases Value.ownBlock _ <;> simp); have hsz1 : base ≤ w1.heap.size := (by have := b1.size; omega))
        | (at_builtin; refine wpList_append_lies _ rfl (.tmp 21) (.tmp 23) 34 rfl base 9 i0 (.string ⟨#[]⟩) 1 16 Tryd.underlying34 hi hz0 hz1 hz2 rfl (by decide) _ ts.length _ rfl (hown1.alloc _) ⟨w1.heap.size, 0, none⟩ 1 1 [.string ⟨t.toArray⟩] rfl rfl ?c1 ?c2 (by decide) (by unfold maxLen; omega) (by omega) (by simp; omega) (w1.heap.size + 1) (by simp) ?_))
      case c1 =>
        intro j u hj
        match j, hj with
        | 0, hj => simp at hj; subst hj; simp [Addr.add]
      case c2 => intro u hu; simp at hu; subst hu; rfl
      intro g' cap w2 hown' hgrow _ _
      rw [strs_push] at hown'
      have R1 : w2.ownsRow base 9 1 (.slice (some ⟨g', 0, none⟩) (ts.length + 1) cap) (ts ++ [t]).length (strs (ts ++ [t])) := by simpa using hown'
      have R2 : Below base w w2 := ((hbel.trans (b1.mono hsz)).alloc hsz1 _).grown hgrow (by simp; omega) (fun k hk => (hown.lt k hk).1)
      clear hown' hgrow hown1
      go_wp2
      go_roundw
      case rel => exact ⟨a + n, ts ++ [t], by omega, by simp; omega, by go_num, R1, R2, g, by omega, by rw [HA.out, List.append_assoc, Nat.add_assoc]; rfl⟩
      case measure => simp [intOf]; omega
    · rw [allOf_stop herr] at hall
      obtain ⟨t, ht⟩ : ∃ t, t = (firstOf (s.data.toList.drop a)).1 := ⟨_, rfl⟩
      obtain ⟨n, hn⟩ : ∃ n, n = (firstOf (s.data.toList.drop a)).2.1 := ⟨_, rfl⟩
      obtain ⟨r, hr⟩ : ∃ r, r = (firstOf (s.data.toList.drop a)).2.2 := ⟨_, rfl⟩
      rw [← ht, ← hn, ← hr] at q1
      have hr0 : ((r : Int) != 0) = true := by rw [← hr] at herr; simp; omega
      have HA : Hid (allT s.data.toList = (ts, a)) := by show allT _ = _; rw [hall]; simp
      have ia : (a : Int) ≤ (s.size : Int) := by omega
      clear hall hok herr e1 hxs ht hn hr
      go_wp2_with (first
        | (go_at_call 12; refine (q1 _ (by exact tr)).mono ?_; rintro e w1 ⟨rfl, b1⟩; have hown1 := hown.kept (grownB b1 Option.none) (by cases Value.ownBlock _ <;> simp)))
      go_ret2
      rw [HA.out]
      exact ⟨_, rfl, hown1, hbel.trans (b1.mono hsz)⟩

end Go.Proofs.YtpokiijbhmmmaaaDoor
