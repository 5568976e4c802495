/-
  Package proposer: whether it is ready, whether a server is one, a server put to others, a string in new memory. The condition: a text has at most 2^48 bytes.
-/
import Derived.Test.YtmlgoecdefeapaaPSG
import Derived.Test.YtmlgoecdefeapaaPPxWith
namespace Go.Proofs.Ytmlgoecdefeapaa
open Go.RowKit

set_option maxHeartbeats 1600000 in
theorem xclone_any (s : ByteArray) (w : World) (hn : s.size ≤ 281474976710656) : Calls Try.prog 43 #[.string s] w fun e w' => e = .returned (.string s) ∧ Below w.heap.size w w' := by
  go_enter Try.func43, Try.ntmps43
  go_wp2_with (go_at_call 49; refine (Try.stringslite_Clone s _ hn).mono ?_; rintro e w2 ⟨rfl, b2⟩)
  go_ret
  exact ⟨rfl, b2⟩
section
variable {w : World} {base X : Nat} {S : Nat → Prop} {n b f : Int} {is : Bool} {p : Px} {mp : Option Nat} {mb ma : Nat} {v : Value}
set_option maxRecDepth 100000 in
theorem xready_any (h : PxAt w base X S n b f is p mp mb ma v) : Calls Try.prog 19 #[.pointer (some ⟨X, 0, none⟩)] w fun e w' => e = .returned (.bool is) ∧ w' = w := by
  have c5 := h.cell 5 (.bool is) rfl
  clear h
  go_enter Try.func19, Try.ntmps19
  go_wp2
  go_ret
  exact ⟨rfl, rfl⟩
set_option maxRecDepth 100000 in
theorem xhas_any (h : PxAt w base X S n b f is p mp mb ma v) (i : Int) : Calls Try.prog 25 #[.pointer (some ⟨X, 0, none⟩), .int .i64 i] w fun e w' => e = .returned (.bool (decide (0 ≤ i) && decide (i < n))) ∧ w' = w := by
  have c0 := h.cell 0 (.int .i64 n) rfl
  clear h
  cases h1 : decide (0 ≤ i)
  · go_enter Try.func25, Try.ntmps25
    go_wp2
    go_ret
    exact ⟨rfl, rfl⟩
  · cases h2 : decide (i < n)
    · go_enter Try.func25, Try.ntmps25
      go_wp2
      go_ret
      exact ⟨rfl, rfl⟩
    · go_enter Try.func25, Try.ntmps25
      go_wp2
      go_ret
      exact ⟨rfl, rfl⟩
end
/-- A server put to a set: whether it is new; the set alone has turned. -/
structure AddPost (w : World) (M : Nat) (l : List Int) (i : Int) (e : Ending) (w' : World) : Prop where
  ex : e = .returned (.bool (decide (i ∉ l))) ∧ SetU w' M (if i ∈ l then l else l ++ [i]) ∧ w.grownBy w' (some M)
set_option maxHeartbeats 1600000 in
set_option maxRecDepth 100000 in
theorem xadd_any {w : World} {M : Nat} {l : List Int} {i : Int} (h : SetU w M l) (hi : inI i) : Calls Try.prog 26 #[.map (some M), .int .i64 i] w (AddPost w M l i) := by
  have hl := MapOf.look2 mSet_is h hi
  have hg : mSet.got (unitL l) i = .agg #[] := by
    unfold MapOf.got
    split <;> rfl
  rw [hg, unitL_look] at hl
  obtain ⟨W, hW⟩ : ∃ W, W = w.alloc (.cells #[] 77) := ⟨_, rfl⟩
  have b1 : Below w.heap.size w W := by rw [hW]; exact (Below.refl _ w).alloc (Nat.le_refl _) _
  have hM : M < w.heap.size := h.lt
  obtain ⟨w', hp, ha, hgr, hz⟩ := MapOf.put mSet_is (h.keep (b1.block M hM)) hi ()
  have HX : Hid (AddPost w M l i (.returned (.bool (decide (i ∉ l)))) w') := by
    refine ⟨rfl, ?_, ?_⟩
    · by_cases hil : i ∈ l
      · rw [if_pos hil]
        rw [unitL_again hil] at ha
        exact ha
      · rw [if_neg hil]
        rw [unitL_put hil] at ha
        exact ha
    · exact ⟨hgr.os.trans b1.os, hgr.tape.trans b1.tape, hgr.output.trans b1.output, Nat.le_trans b1.size hgr.size, fun g hg hn => (hgr.block g (Nat.lt_of_lt_of_le hg b1.size) hn).trans (b1.block g hg)⟩
  obtain ⟨r, hr⟩ : ∃ r, r = decide (i ∈ l) := ⟨_, rfl⟩
  have e2 : decide (i ∉ l) = !r := by rw [hr]; simp
  rw [e2] at HX
  rw [← hr] at hl
  rw [hW] at hp
  clear hr ha hgr hz b1 hW h hg e2
  go_enter Try.func26, Try.ntmps26
  go_wp2
  go_ret
  exact HX.out
end Go.Proofs.Ytmlgoecdefeapaa
