/-
  Package snap's inner functions: what may be saved, a snapshot's bytes, and the way back. The conditions: the program's variables lie in memory as its text lays them; a file has at most 4194304 bytes.
-/
import Derived.Test.YtkdglkaeglhibaaGreatDoorPGOwn
import Derived.Test.YtkdglkaeglhibaaGreatDoorPSvIs
import Derived.Test.YtkdglkaeglhibaaGreatDoorPPackC
import Derived.Test.YtkdglkaeglhibaaGreatDoorPSnPlain
import Derived.RegionTactic
import Derived.ChangeAlike
namespace Go.Proofs.YtkdglkaeglhibaaGreatDoor
open Go.RowKit

theorem sWr_new (w : World) : Wr w.heap.size (w.alloc (.cells #[.slice none 0 0] 108)) w.heap.size (.slice none 0 0) [] :=
  ⟨Nat.le_refl _, heap_alloc_new w _, World.ownsRow_nil _ _ _ _⟩
theorem swint {B : Nat} {v : Value} {bs : List UInt8} {w : World} (n : Int) (h1 : -9223372036854775808 ≤ n) (h2 : n ≤ 9223372036854775807) (hb : bs.length + 10 ≤ 140737488355328) (h : Wr B w B v bs) :
    Calls Tryz.prog 43 #[.pointer (some ⟨B, 0, none⟩), .int .i64 n] w fun e w' => e = .returned (.tuple #[]) ∧ ∃ v', Wr B w' B v' (bs ++ enc (zig n)) ∧ Below B w w' :=
  (wint_any B B v bs n h1 h2 w h hb).mono fun _ _ ⟨e, v', h', k, _⟩ => ⟨e, v', h', h.below k⟩
theorem swtext {B : Nat} {v : Value} {bs : List UInt8} {w : World} (s : ByteArray) (hb : bs.length + s.size + 10 ≤ 140737488355328) (h : Wr B w B v bs) :
    Calls Tryz.prog 44 #[.pointer (some ⟨B, 0, none⟩), .string s] w fun e w' => e = .returned (.tuple #[]) ∧ ∃ v', Wr B w' B v' (bs ++ lenText s) ∧ Below B w w' :=
  (wtext_any B B v bs s w h hb).mono fun _ _ ⟨e, v', h', k⟩ => ⟨e, v', h', k⟩

set_option maxRecDepth 100000 in
theorem smay_any (n : Int) (t : ByteArray) (w : World) : Calls Tryz.prog 17 #[.int .i64 n, .string t] w fun e w' => e = .returned (.bool (mayS n t)) ∧ w = w' := by
  by_cases h1 : 1 ≤ n
  · have f1 : decide ((1 : Int) ≤ n) = true := decide_eq_true h1
    by_cases h2 : n ≤ 1099511627776
    · have f2 : decide (n ≤ (1099511627776 : Int)) = true := decide_eq_true h2
      by_cases h3 : t.size ≤ 524224
      · have f3 : decide ((t.size : Int) ≤ (524224 : Int)) = true := decide_eq_true (by omega)
        have e : mayS n t = true := by unfold mayS; simp only [h1, h2, h3, decide_true, Bool.and_self]
        rw [e]
        go_enter Tryz.func17, Tryz.ntmps17
        go_wp2
        go_ret
        exact ⟨rfl, rfl⟩
      · have f3 : decide ((t.size : Int) ≤ (524224 : Int)) = false := decide_eq_false (by omega)
        have e : mayS n t = false := by unfold mayS; simp only [h3, decide_false, Bool.and_false]
        rw [e]
        go_enter Tryz.func17, Tryz.ntmps17
        go_wp2
        go_ret
        exact ⟨rfl, rfl⟩
    · have f2 : decide (n ≤ (1099511627776 : Int)) = false := decide_eq_false h2
      have e : mayS n t = false := by unfold mayS; simp only [h2, decide_false, Bool.and_false, Bool.false_and]
      rw [e]
      go_enter Tryz.func17, Tryz.ntmps17
      go_wp2
      go_ret
      exact ⟨rfl, rfl⟩
  · have f1 : decide ((1 : Int) ≤ n) = false := decide_eq_false h1
    have e : mayS n t = false := by unfold mayS; simp only [h1, decide_false, Bool.false_and]
    rw [e]
    go_enter Tryz.func17, Tryz.ntmps17
    go_wp2
    go_ret
    exact ⟨rfl, rfl⟩

theorem wrap_encS {n : Int} {t : ByteArray} (hm : mayS n t = true) : wrapOf ⟨(encS n t).toArray⟩ = (⟨(fileS n t).toArray⟩, 0) := by
  have hl := encS_len hm
  have e : (⟨(encS n t).toArray⟩ : ByteArray).size = (encS n t).length := by rw [Lib.size_eq]
  unfold wrapOf
  rw [if_neg (by omega)]
  rfl
set_option maxRecDepth 100000 in
/-- A snapshot's bytes. -/
theorem sframe_any (n : Int) (t : ByteArray) (hm : mayS n t = true) (w : World) (hT : Tab w) : Calls Tryz.prog 18 #[.int .i64 n, .string t] w fun e w' => e = .returned (.tuple #[.string ⟨(fileS n t).toArray⟩, .int .i64 0]) ∧ Below w.heap.size w w' := by
  obtain ⟨h1, h2, h3⟩ := mayS_parts hm
  have l1 := enc_len_ten (zig_bound (n := n) (by omega) (by omega))
  have qw := fun w hT => wrap_any ⟨(encS n t).toArray⟩ w hT
  rw [wrap_encS hm] at qw
  obtain ⟨F, hF⟩ : ∃ F : ByteArray, F = ⟨(fileS n t).toArray⟩ := ⟨_, rfl⟩
  obtain ⟨E, hE⟩ : ∃ E : ByteArray, E = ⟨(encS n t).toArray⟩ := ⟨_, rfl⟩
  rw [← hF, ← hE] at qw
  rw [← hF]
  have hN := sWr_new w
  have hA : Below w.heap.size w (w.alloc (.cells #[.slice none 0 0] 108)) := (Below.refl _ w).alloc (Nat.le_refl _) _
  have q1 := fun w v (h : Wr _ w _ v []) => swint (B := w.heap.size) n (by omega) (by omega) (by decide) h
  have Q1 : Hid (∀ w1 v, Wr w.heap.size w1 w.heap.size v [] → Calls Tryz.prog 43 #[.pointer (some ⟨w.heap.size, 0, none⟩), .int .i64 n] w1 fun e w' => e = .returned (.tuple #[]) ∧ ∃ v', Wr w.heap.size w' w.heap.size v' (enc (zig n)) ∧ Below w.heap.size w1 w') := fun w1 v h => swint n (by omega) (by omega) (by decide) h
  have Q2 : Hid (∀ w1 v, Wr w.heap.size w1 w.heap.size v (enc (zig n)) → Calls Tryz.prog 44 #[.pointer (some ⟨w.heap.size, 0, none⟩), .string t] w1 fun e w' => e = .returned (.tuple #[]) ∧ ∃ v', Wr w.heap.size w' w.heap.size v' (encS n t) ∧ Below w.heap.size w1 w') := fun w1 v h => swtext t (by omega) h
  have Q3 : Hid (∀ w1 v, Wr w.heap.size w1 w.heap.size v (encS n t) → Calls Tryz.prog 46 #[.pointer (some ⟨w.heap.size, 0, none⟩)] w1 fun e w' => e = .returned (.string E) ∧ w1 = w') := fun w1 v h => by rw [hE]; exact wstring_any _ _ _ _ _ h
  clear hm h1 h2 h3 l1 hF hE q1
  have H0 : Hid _ := hN
  clear hN
  go_enter Tryz.func18, Tryz.ntmps18
  go_wp2_with (first
    | (go_at_call 45; refine (qw _ (hT.below b3)).mono ?_; rintro e w4 ⟨rfl, b4⟩; have f4 := bmm b3 b3.size b4)
    | (go_at_call 46; refine (Q3.out _ _ r3.out).mono ?_; rintro e w3 ⟨rfl, rfl⟩; clear r3)
    | (go_at_call 44; refine (Q2.out _ _ r2.out).mono ?_; rintro e w2 ⟨rfl, v2, r, b⟩; have r3 : Hid _ := r; have b3 := b2.trans b; clear r b r2)
    | (go_at_call 43; refine (Q1.out _ _ H0.out).mono ?_; rintro e w1 ⟨rfl, v1, r, b⟩; have r2 : Hid _ := r; have b2 := hA.trans b; clear r b)
    | (go_at_call 42; refine (new_any _).mono ?_; rintro e w0 ⟨rfl, rfl⟩))
  go_ret2
  exact ⟨rfl, f4⟩

set_option maxHeartbeats 1600000 in
set_option maxRecDepth 100000 in
/-- What is no frame, or has bytes behind it. -/
theorem sparse_f (s : ByteArray) (hs : s.size ≤ 1099511627776) (w : World) (B : Nat) (a0 a1 a2 : Addr) (hS : Sen w B a0 a1 a2) (hE : Env w B) (hf : ¬ ((firstOf s.data.toList).2.2 = 0 ∧ (firstOf s.data.toList).2.1 = s.size)) :
    Calls Tryz.prog 57 #[.string s] w fun e w' => e = .returned (.tuple #[.int .i64 0, .string ⟨#[]⟩, .iface 165 (.pointer (some a2))]) ∧ Below w.heap.size w w' := by
  have q1 := first_any s hs w hE.tab
  unfold firstT at q1
  obtain ⟨⟨T, a, c⟩, hx⟩ : ∃ x, firstOf s.data.toList = x := ⟨_, rfl⟩
  rw [hx] at q1 hf
  simp only at q1 hf
  obtain ⟨t, ht⟩ : ∃ t : ByteArray, t = ⟨T.toArray⟩ := ⟨_, rfl⟩
  rw [← ht] at q1
  clear ht hx
  have hSb : Hid (∀ w1, Below w.heap.size w w1 → w1.cell? ⟨2, 0, none⟩ = some (.iface 165 (.pointer (some a2)))) := fun w1 b => (hS.below b hE.le hE.b4).c2
  clear hS hE
  by_cases h0 : c = 0
  · have f1 : ((c : Int) != 0) = false := by simp; omega
    have f2 : ((a : Int) != (s.size : Int)) = true := by simp; omega
    clear hf h0
    go_enter Tryz.func57, Tryz.ntmps57
    go_wp2_with (go_at_call 71; refine q1.mono ?_; rintro e w1 ⟨rfl, b1⟩; have c2 := hSb.out w1 b1)
    go_region
    all_goals go_wp2
    all_goals (go_ret3; exact ⟨rfl, b1.trans ⟨rfl, rfl, rfl, Nat.le_refl _, fun _ _ => rfl⟩⟩)
  · have f1 : ((c : Int) != 0) = true := by simp; omega
    clear hf h0
    go_enter Tryz.func57, Tryz.ntmps57
    go_wp2_with (go_at_call 71; refine q1.mono ?_; rintro e w1 ⟨rfl, b1⟩; have c2 := hSb.out w1 b1)
    go_region
    all_goals go_wp2
    all_goals (go_ret3; exact ⟨rfl, b1.trans ⟨rfl, rfl, rfl, Nat.le_refl _, fun _ _ => rfl⟩⟩)
set_option maxHeartbeats 1600000 in
set_option maxRecDepth 100000 in
/-- A text with bytes behind it, or that ends within. -/
theorem sparse_d (s t : ByteArray) (w : World) (B : Nat) (a0 a1 a2 : Addr) (hS : Sen w B a0 a1 a2) (hE : Env w B) (a c : Nat) (q1 : Calls Tryz.prog 71 #[.string s] w fun e w' => e = .returned (.tuple #[.string t, .int .i64 (a : Int), .int .i64 (c : Int)]) ∧ Below w.heap.size w w') (hc : c = 0) (ha : a = s.size) (htl : t.size ≤ 1099511627776) {N1 : Nat} {s1 s2 T1 : ByteArray} {b1' b2' : Bool} (hU : rU t false = (N1, s1, b1')) (hT : rT s1 b1' = (T1, s2, b2')) (hd : ¬ rD s2 b2' = 0) :
    Calls Tryz.prog 57 #[.string s] w fun e w' => e = .returned (.tuple #[.int .i64 0, .string ⟨#[]⟩, .iface 165 (.pointer (some a2))]) ∧ Below w.heap.size w w' := by
  have f1 : ((c : Int) != 0) = false := by simp; omega
  have f2 : ((a : Int) != (s.size : Int)) = false := by simp; omega
  have hSb : Hid (∀ w1, Below w.heap.size w w1 → w1.cell? ⟨2, 0, none⟩ = some (.iface 165 (.pointer (some a2)))) := fun w1 b => (hS.below b hE.le hE.b4).c2
  have hs1 : s1.size ≤ 1099511627776 := by have := rU_size t false; rw [hU] at this; exact Nat.le_trans this htl
  have QO : Hid (∀ w1, Below w.heap.size w w1 → Calls Tryz.prog 72 #[.string t] w1 fun e w' => ∃ R, e = .returned (.pointer (some ⟨R, 0, none⟩)) ∧ w.heap.size ≤ R ∧ Rd w' R t false ∧ Below w.heap.size w w') := fun w1 b => (of_any t w1).mono fun e w' ⟨g1, g2⟩ => ⟨w1.heap.size, g1, b.size, by rw [← g2]; exact heap_alloc_new w1 _, by rw [← g2]; exact b.alloc b.size _⟩
  have QI : Hid (∀ w1 R, w.heap.size ≤ R → Rd w1 R t false → Below w.heap.size w w1 → Calls Tryz.prog 73 #[.pointer (some ⟨R, 0, none⟩)] w1 fun e w' => e = .returned (.int .i64 (zag N1)) ∧ Rd w' R s1 b1' ∧ Below w.heap.size w w') := fun w1 R hR h b => (rint_any R t false (by omega) w1 h).mono fun e w' ⟨g1, g2, g3⟩ => by
    rw [hU] at g1 g2
    exact ⟨g1, g2, b.grown g3 b.size (fun k hk => by have := Option.some.inj hk; omega)⟩
  have QT : Hid (∀ w1 R, w.heap.size ≤ R → Rd w1 R s1 b1' → Below w.heap.size w w1 → Calls Tryz.prog 74 #[.pointer (some ⟨R, 0, none⟩)] w1 fun e w' => e = .returned (.string T1) ∧ Rd w' R s2 b2' ∧ Below w.heap.size w w') := fun w1 R hR h b => (rtext_any R s1 b1' (by omega) w1 h).mono fun e w' ⟨g1, g2, g3⟩ => by
    rw [hT] at g1 g2
    exact ⟨g1, g2, b.grown g3 b.size (fun k hk => by have := Option.some.inj hk; omega)⟩
  have f3 : (rD s2 b2' != 0) = true := by simpa using hd
  clear hS hE hc ha hs1 hU hT
  go_enter Tryz.func57, Tryz.ntmps57
  go_wp2_with (first
    | (go_at_call 75; refine (rdone_any R _ _ _ r4.out).mono ?_; rintro e w5 ⟨rfl, rfl⟩; clear r4)
    | (go_at_call 74; refine (QT.out _ _ hR.out r3.out b3).mono ?_; rintro e w4 ⟨rfl, r, b4⟩; have r4 : Hid _ := r; have c2 := hSb.out _ b4; clear r r3)
    | (go_at_call 73; refine (QI.out _ _ hR.out r2.out b2).mono ?_; rintro e w3 ⟨rfl, r, b3⟩; have r3 : Hid _ := r; clear r r2)
    | (go_at_call 72; refine (QO.out _ b1).mono ?_; rintro e w2 ⟨R, rfl, h, r, b2⟩; have r2 : Hid _ := r; have hR : Hid (w.heap.size ≤ R) := h; clear r h)
    | (go_at_call 71; refine q1.mono ?_; rintro e w1 ⟨rfl, b1⟩))
  go_region
  all_goals go_wp2
  all_goals (go_ret3; exact ⟨rfl, b4.trans ⟨rfl, rfl, rfl, Nat.le_refl _, fun _ _ => rfl⟩⟩)
set_option maxHeartbeats 1600000 in
set_option maxRecDepth 100000 in
/-- A slot or a text that may not be. -/
theorem sparse_m (s t : ByteArray) (w : World) (B : Nat) (a0 a1 a2 : Addr) (hS : Sen w B a0 a1 a2) (hE : Env w B) (a c : Nat) (q1 : Calls Tryz.prog 71 #[.string s] w fun e w' => e = .returned (.tuple #[.string t, .int .i64 (a : Int), .int .i64 (c : Int)]) ∧ Below w.heap.size w w') (hc : c = 0) (ha : a = s.size) (htl : t.size ≤ 1099511627776) {N1 : Nat} {s1 s2 T1 : ByteArray} {b1' b2' : Bool} (hU : rU t false = (N1, s1, b1')) (hT : rT s1 b1' = (T1, s2, b2')) (hd : rD s2 b2' = 0) (hm : ¬ mayS (zag N1) T1 = true) :
    Calls Tryz.prog 57 #[.string s] w fun e w' => e = .returned (.tuple #[.int .i64 0, .string ⟨#[]⟩, .iface 165 (.pointer (some a2))]) ∧ Below w.heap.size w w' := by
  have f1 : ((c : Int) != 0) = false := by simp; omega
  have f2 : ((a : Int) != (s.size : Int)) = false := by simp; omega
  have hSb : Hid (∀ w1, Below w.heap.size w w1 → w1.cell? ⟨2, 0, none⟩ = some (.iface 165 (.pointer (some a2)))) := fun w1 b => (hS.below b hE.le hE.b4).c2
  have hs1 : s1.size ≤ 1099511627776 := by have := rU_size t false; rw [hU] at this; exact Nat.le_trans this htl
  have QO : Hid (∀ w1, Below w.heap.size w w1 → Calls Tryz.prog 72 #[.string t] w1 fun e w' => ∃ R, e = .returned (.pointer (some ⟨R, 0, none⟩)) ∧ w.heap.size ≤ R ∧ Rd w' R t false ∧ Below w.heap.size w w') := fun w1 b => (of_any t w1).mono fun e w' ⟨g1, g2⟩ => ⟨w1.heap.size, g1, b.size, by rw [← g2]; exact heap_alloc_new w1 _, by rw [← g2]; exact b.alloc b.size _⟩
  have QI : Hid (∀ w1 R, w.heap.size ≤ R → Rd w1 R t false → Below w.heap.size w w1 → Calls Tryz.prog 73 #[.pointer (some ⟨R, 0, none⟩)] w1 fun e w' => e = .returned (.int .i64 (zag N1)) ∧ Rd w' R s1 b1' ∧ Below w.heap.size w w') := fun w1 R hR h b => (rint_any R t false (by omega) w1 h).mono fun e w' ⟨g1, g2, g3⟩ => by
    rw [hU] at g1 g2
    exact ⟨g1, g2, b.grown g3 b.size (fun k hk => by have := Option.some.inj hk; omega)⟩
  have QT : Hid (∀ w1 R, w.heap.size ≤ R → Rd w1 R s1 b1' → Below w.heap.size w w1 → Calls Tryz.prog 74 #[.pointer (some ⟨R, 0, none⟩)] w1 fun e w' => e = .returned (.string T1) ∧ Rd w' R s2 b2' ∧ Below w.heap.size w w') := fun w1 R hR h b => (rtext_any R s1 b1' (by omega) w1 h).mono fun e w' ⟨g1, g2, g3⟩ => by
    rw [hT] at g1 g2
    exact ⟨g1, g2, b.grown g3 b.size (fun k hk => by have := Option.some.inj hk; omega)⟩
  have f3 : (rD s2 b2' != 0) = false := by rw [hd]; rfl
  have qm := smay_any (zag N1) T1
  rw [show mayS (zag N1) T1 = false by simpa using hm] at qm
  clear hS hE hc ha hs1 hU hT
  go_enter Tryz.func57, Tryz.ntmps57
  go_wp2_with (first
    | (go_at_call 17; refine (qm _).mono ?_; rintro e w6 ⟨rfl, rfl⟩)
    | (go_at_call 75; refine (rdone_any R _ _ _ r4.out).mono ?_; rintro e w5 ⟨rfl, rfl⟩; clear r4)
    | (go_at_call 74; refine (QT.out _ _ hR.out r3.out b3).mono ?_; rintro e w4 ⟨rfl, r, b4⟩; have r4 : Hid _ := r; have c2 := hSb.out _ b4; clear r r3)
    | (go_at_call 73; refine (QI.out _ _ hR.out r2.out b2).mono ?_; rintro e w3 ⟨rfl, r, b3⟩; have r3 : Hid _ := r; clear r r2)
    | (go_at_call 72; refine (QO.out _ b1).mono ?_; rintro e w2 ⟨R, rfl, h, r, b2⟩; have r2 : Hid _ := r; have hR : Hid (w.heap.size ≤ R) := h; clear r h)
    | (go_at_call 71; refine q1.mono ?_; rintro e w1 ⟨rfl, b1⟩))
  go_region
  all_goals go_wp2
  all_goals (go_ret3; exact ⟨rfl, b4.trans ⟨rfl, rfl, rfl, Nat.le_refl _, fun _ _ => rfl⟩⟩)
set_option maxHeartbeats 1600000 in
set_option maxRecDepth 100000 in
/-- A snapshot. -/
theorem sparse_y (s t : ByteArray) (w : World) (B : Nat) (a0 a1 a2 : Addr) (hS : Sen w B a0 a1 a2) (hE : Env w B) (a c : Nat) (q1 : Calls Tryz.prog 71 #[.string s] w fun e w' => e = .returned (.tuple #[.string t, .int .i64 (a : Int), .int .i64 (c : Int)]) ∧ Below w.heap.size w w') (hc : c = 0) (ha : a = s.size) (htl : t.size ≤ 1099511627776) {N1 : Nat} {s1 s2 T1 : ByteArray} {b1' b2' : Bool} (hU : rU t false = (N1, s1, b1')) (hT : rT s1 b1' = (T1, s2, b2')) (hd : rD s2 b2' = 0) (hm : mayS (zag N1) T1 = true) :
    Calls Tryz.prog 57 #[.string s] w fun e w' => e = .returned (.tuple #[.int .i64 (zag N1), .string T1, .nilIface]) ∧ Below w.heap.size w w' := by
  have f1 : ((c : Int) != 0) = false := by simp; omega
  have f2 : ((a : Int) != (s.size : Int)) = false := by simp; omega
  have hSb : Hid (∀ w1, Below w.heap.size w w1 → w1.cell? ⟨2, 0, none⟩ = some (.iface 165 (.pointer (some a2)))) := fun w1 b => (hS.below b hE.le hE.b4).c2
  have hs1 : s1.size ≤ 1099511627776 := by have := rU_size t false; rw [hU] at this; exact Nat.le_trans this htl
  have QO : Hid (∀ w1, Below w.heap.size w w1 → Calls Tryz.prog 72 #[.string t] w1 fun e w' => ∃ R, e = .returned (.pointer (some ⟨R, 0, none⟩)) ∧ w.heap.size ≤ R ∧ Rd w' R t false ∧ Below w.heap.size w w') := fun w1 b => (of_any t w1).mono fun e w' ⟨g1, g2⟩ => ⟨w1.heap.size, g1, b.size, by rw [← g2]; exact heap_alloc_new w1 _, by rw [← g2]; exact b.alloc b.size _⟩
  have QI : Hid (∀ w1 R, w.heap.size ≤ R → Rd w1 R t false → Below w.heap.size w w1 → Calls Tryz.prog 73 #[.pointer (some ⟨R, 0, none⟩)] w1 fun e w' => e = .returned (.int .i64 (zag N1)) ∧ Rd w' R s1 b1' ∧ Below w.heap.size w w') := fun w1 R hR h b => (rint_any R t false (by omega) w1 h).mono fun e w' ⟨g1, g2, g3⟩ => by
    rw [hU] at g1 g2
    exact ⟨g1, g2, b.grown g3 b.size (fun k hk => by have := Option.some.inj hk; omega)⟩
  have QT : Hid (∀ w1 R, w.heap.size ≤ R → Rd w1 R s1 b1' → Below w.heap.size w w1 → Calls Tryz.prog 74 #[.pointer (some ⟨R, 0, none⟩)] w1 fun e w' => e = .returned (.string T1) ∧ Rd w' R s2 b2' ∧ Below w.heap.size w w') := fun w1 R hR h b => (rtext_any R s1 b1' (by omega) w1 h).mono fun e w' ⟨g1, g2, g3⟩ => by
    rw [hT] at g1 g2
    exact ⟨g1, g2, b.grown g3 b.size (fun k hk => by have := Option.some.inj hk; omega)⟩
  have f3 : (rD s2 b2' != 0) = false := by rw [hd]; rfl
  have qm := smay_any (zag N1) T1
  rw [hm] at qm
  clear hS hE hc ha hs1 hU hT
  go_enter Tryz.func57, Tryz.ntmps57
  go_wp2_with (first
    | (go_at_call 17; refine (qm _).mono ?_; rintro e w6 ⟨rfl, rfl⟩)
    | (go_at_call 75; refine (rdone_any R _ _ _ r4.out).mono ?_; rintro e w5 ⟨rfl, rfl⟩; clear r4)
    | (go_at_call 74; refine (QT.out _ _ hR.out r3.out b3).mono ?_; rintro e w4 ⟨rfl, r, b4⟩; have r4 : Hid _ := r; have c2 := hSb.out _ b4; clear r r3)
    | (go_at_call 73; refine (QI.out _ _ hR.out r2.out b2).mono ?_; rintro e w3 ⟨rfl, r, b3⟩; have r3 : Hid _ := r; clear r r2)
    | (go_at_call 72; refine (QO.out _ b1).mono ?_; rintro e w2 ⟨R, rfl, h, r, b2⟩; have r2 : Hid _ := r; have hR : Hid (w.heap.size ≤ R) := h; clear r h)
    | (go_at_call 71; refine q1.mono ?_; rintro e w1 ⟨rfl, b1⟩))
  go_ret3
  exact ⟨rfl, b4⟩
/-- What parse answers, by what is loaded. -/
theorem sparse_any (s : ByteArray) (hs : s.size ≤ 4194304) (w : World) (B : Nat) (a0 a1 a2 : Addr) (hS : Sen w B a0 a1 a2) (hE : Env w B) :
    Calls Tryz.prog 57 #[.string s] w fun e w' => e = .returned (.tuple #[.int .i64 (loadS s.data.toList).1, .string (loadS s.data.toList).2.1, if (loadS s.data.toList).2.2 = 0 then .nilIface else .iface 165 (.pointer (some a2))]) ∧ Below w.heap.size w w' := by
  have hsz : s.size = s.data.toList.length := Lib.size_eq s
  by_cases hf : (firstOf s.data.toList).2.2 = 0 ∧ (firstOf s.data.toList).2.1 = s.data.toList.length
  · have q1 := first_any s (by omega) w hE.tab
    unfold firstT at q1
    have hok := firstOf_ok hf.1
    obtain ⟨t, ht⟩ : ∃ t : ByteArray, t = ⟨(firstOf s.data.toList).1.toArray⟩ := ⟨_, rfl⟩
    have htl : t.size ≤ 1099511627776 := by rw [ht, Lib.size_eq]; simp only; omega
    rw [← ht] at q1
    obtain ⟨⟨N1, s1, b1⟩, hU⟩ : ∃ x, rU t false = x := ⟨_, rfl⟩
    obtain ⟨⟨T1, s2, b2⟩, hT⟩ : ∃ x, rT s1 b1 = x := ⟨_, rfl⟩
    have hr : readS t = (zag N1, T1, rD s2 b2) := by
      unfold readS
      rw [hU]
      simp only
      rw [hT]
    have hload : loadS s.data.toList = if rD s2 b2 = 0 ∧ mayS (zag N1) T1 = true then (zag N1, T1, 0) else (0, ⟨#[]⟩, 2) := by
      unfold loadS
      rw [← ht, hr]
      by_cases hx : rD s2 b2 = 0 ∧ mayS (zag N1) T1 = true
      · rw [if_pos ⟨hf, hx⟩, if_pos hx]
      · rw [if_neg (fun y => hx y.2), if_neg hx]
    rw [hload]
    have ha : (firstOf s.data.toList).2.1 = s.size := hf.2.trans hsz.symm
    by_cases hd : rD s2 b2 = 0
    · by_cases hm : mayS (zag N1) T1 = true
      · rw [if_pos ⟨hd, hm⟩]
        exact sparse_y s t w B a0 a1 a2 hS hE _ _ q1 hf.1 ha htl hU hT hd hm
      · rw [if_neg (fun y => hm y.2)]
        exact sparse_m s t w B a0 a1 a2 hS hE _ _ q1 hf.1 ha htl hU hT hd hm
    · rw [if_neg (fun y => hd y.1)]
      exact sparse_d s t w B a0 a1 a2 hS hE _ _ q1 hf.1 ha htl hU hT hd
  · rw [loadS_none hf]
    exact sparse_f s (by omega) w B a0 a1 a2 hS hE (by rw [hsz]; exact hf)
end Go.Proofs.YtkdglkaeglhibaaGreatDoor
