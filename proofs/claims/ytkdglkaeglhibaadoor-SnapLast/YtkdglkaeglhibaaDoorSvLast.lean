/-
  SnapLast, walked: for every row of numbers, every row of texts and every text the last snapshot that was saved is loaded, behind a crash, also while another one is begun. The conditions: the rows lie in memory as their readings say; the program's variables as its text lays them.
-/
import Derived.Test.YtkdglkaeglhibaaDoorSvAwake
import Derived.Deep.RegionHeld3
import Derived.Deep.QuietTactic
import Derived.BigQuiet
namespace Go.Proofs.YtkdglkaeglhibaaDoor
open Go.RowKit

/-- Behind k rounds: the disk, and what was saved last. -/
structure LI (w wr : World) (k : Nat) (A : List CF) (turns : Nat) (n : Int) (t : ByteArray) (bb : Bool) : Prop where
  at_ : SAt w wr w.heap.size A turns
  nb : lk A begunB = none
  la : A.length ≤ k
  tn : turns ≤ k
  sn : SnapO A (if bb = true then some (fileS n t) else none)
  my : bb = true → mayS n t = true
section
variable {w wr w' : World} {k turns : Nat} {A : List CF} {n m : Int} {t s : ByteArray} {bb : Bool}
theorem LI.more (h : LI w wr k A turns n t bb) : LI w wr (k + 1) A turns n t bb := ⟨h.at_, h.nb, Nat.le_succ_of_le h.la, Nat.le_succ_of_le h.tn, h.sn, h.my⟩
theorem LI.fresh (h : LI w wr k A turns n t bb) (b : Below wr.heap.size wr w') : LI w w' k A turns n t bb := ⟨h.at_.fresh b, h.nb, h.la, h.tn, h.sn, h.my⟩
theorem LI.save (h : LI w wr k A turns n t bb) {c : Nat} (h2 : SAt w w' w.heap.size (savedA A c (fileS m s)) (turns + 1)) (hm : mayS m s = true) : LI w w' (k + 1) (savedA A c (fileS m s)) (turns + 1) m s true := by
  refine ⟨h2, ?_, Nat.le_trans (saved_len _ _ _) (Nat.succ_le_succ h.la), Nat.succ_le_succ h.tn, SnapO.saved _ _ _, fun _ => hm⟩
  rw [lk_saved, if_neg (by decide), if_pos rfl]
end
set_option maxHeartbeats 6400000 in
set_option maxRecDepth 100000 in
theorem last_walk (w : World) (hE : Env w w.heap.size) (a0 a1 : Option Addr) (n0 n1 c0 c1 : Nat) (X : Nat → Int) (Y : Nat → ByteArray) (g : ByteArray)
    (hX : n0 = 0 ∨ ∃ bk off, a0 = some ⟨bk, off, none⟩ ∧ bk < w.heap.size ∧ ∀ j, j < n0 → w.cell? ⟨bk, off + j, none⟩ = some (.int .i64 (X j)))
    (hY : n1 = 0 ∨ ∃ bk off, a1 = some ⟨bk, off, none⟩ ∧ bk < w.heap.size ∧ ∀ j, j < n1 → w.cell? ⟨bk, off + j, none⟩ = some (.string (Y j))) :
    Calls Tryd.prog 3 #[.slice a0 n0 c0, .slice a1 n1 c1, .string g] w fun e w' => e = .returned (.bool true) ∧ Below w.heap.size w w' := by
  have QA : Hid (∀ w1, Below w.heap.size w w1 → Calls Tryd.prog 6 #[] w1 fun e w' => e = .returned (.bool true) ∧ Below w1.heap.size w1 w') := fun w1 b => sAwake w1 w.heap.size (hE.below b (Nat.le_refl _))
  by_cases hg : 1000 < g.size
  · have f1 : decide ((1000 : Int) < (g.size : Int)) = true := decide_eq_true (by omega)
    clear hX hY hE
    go_enter Tryd.func3, Tryd.ntmps3
    go_wp2_with (first
      | (go_at_call 6; refine (QA.out _ k1.out.bel).mono ?_; rintro e w6 ⟨rfl, b6⟩)
      | (go_at_call 5; refine (snew w).mono ?_; rintro e w1 ⟨rfl, k⟩; have k1 : Hid _ := k; clear k))
    go_ret
    exact ⟨rfl, bmm k1.out.bel (by obtain ⟨ro, q⟩ := k1.out.dk; exact q.base) b6⟩
  · have f1 : decide ((1000 : Int) < (g.size : Int)) = false := decide_eq_false (by omega)
    go_enter Tryd.func3, Tryd.ntmps3
    go_wp2_with (go_at_call 5; refine (snew w).mono ?_; rintro e w1 ⟨rfl, k⟩; have k1 : Hid _ := k; clear k)
    go_loopw [8, 9, 10, 11] (fun s t b i wr => ∃ (k : Nat) (A : List CF) (turns : Nat) (n : Int) (tx : ByteArray) (bb : Bool), k ≤ 20 ∧ s = .int .i64 n ∧ t = .string tx ∧ b = .bool bb ∧ i = .int .i64 (k : Int) ∧ LI w wr k A turns n tx bb) (fun _ _ _ i _ => 20 - (intOf i).toNat)
    case atStart => exact ⟨0, [], 0, 0, ⟨#[]⟩, false, by omega, rfl, rfl, rfl, rfl, ⟨k1.out, rfl, Nat.le_refl _, Nat.le_refl _, SnapO.nil, fun h => by cases h⟩⟩
    case round =>
      obtain ⟨k, A, turns, n, tx, bb, hk, rfl, rfl, rfl, rfl, hL⟩ := hrel
      clear k1
      by_cases hk0 : k < n0
      · have q0 : decide ((k : Int) < (n0 : Int)) = true := decide_eq_true (by omega)
        by_cases hk1 : k < n1
        · have q1 : decide ((k : Int) < (n1 : Int)) = true := decide_eq_true (by omega)
          by_cases hk2 : k < 20
          · have q2 : decide ((k : Int) < (20 : Int)) = true := decide_eq_true (by omega)
            rcases hX with h0 | ⟨bk0, off0, rfl, hb0, hc0⟩
            · omega
            rcases hY with h0 | ⟨bk1, off1, rfl, hb1, hc1⟩
            · omega
            have x0 := (hL.at_.bel.cell (p := ⟨bk0, off0 + k, none⟩) (by exact hb0)).trans (hc0 k hk0)
            have y0 := (hL.at_.bel.cell (p := ⟨bk1, off1 + k, none⟩) (by exact hb1)).trans (hc1 k hk1)
            obtain ⟨x, hx⟩ : ∃ x, x = X k := ⟨_, rfl⟩
            obtain ⟨y, hy⟩ : ∃ y, y = Y k := ⟨_, rfl⟩
            rw [← hx] at x0
            rw [← hy] at y0
            have hcell : Hid (∀ w1, Below w.heap.size w w1 → w1.cell? ⟨bk0, off0 + k, none⟩ = some (.int .i64 x) ∧ w1.cell? ⟨bk1, off1 + k, none⟩ = some (.string y)) := fun w1 b => ⟨(b.cell (by exact hb0)).trans (by rw [hx]; exact hc0 k hk0), (b.cell (by exact hb1)).trans (by rw [hy]; exact hc1 k hk1)⟩
            clear hx hy hc0 hc1 hb0 hb1
            by_cases hs : y.size < 1000
            · have f2 : decide ((y.size : Int) < (1000 : Int)) = true := decide_eq_true (by omega)
              by_cases hm : mayS x y = true
              · have QS : Hid (∀ w1, Below wr.heap.size wr w1 → Calls Tryd.prog 7 #[.pointer (some ⟨w.heap.size, 0, none⟩), .int .i64 x, .string y] w1 fun e w' => e = .returned (.int .i64 0) ∧ ∃ A' t', LI w w' (k + 1) A' t' x y true) := fun w1 b => ((hL.at_.fresh b).save hE (Nat.le_refl _) x y hm (by have := hL.tn; omega)).mono fun _ _ ⟨g1, c, g2⟩ => ⟨g1, _, _, (hL.fresh b).save g2 hm⟩
                clear hL hm hE QA
                go_wp2
                go_region_held3 (fun w' => w'.cell? ⟨bk0, off0 + k, none⟩ = some (.int .i64 x) ∧ w'.cell? ⟨bk1, off1 + k, none⟩ = some (.string y)) (go_keep)
                  (first | (go_at_call 7; refine (QS.out _ (by exact ⟨rfl, rfl, rfl, Nat.le_refl _, fun _ _ => rfl⟩)).mono ?_; rintro e w2 ⟨rfl, A2, t2, kk⟩; have k2 : Hid _ := kk; have z := hcell.out w2 kk.at_.bel; have z0 := z.1; have z1 := z.2; clear z kk))
                go_wp2
                go_region
                all_goals go_wp2
                all_goals go_roundw
                case rel => exact ⟨k + 1, A2, t2, x, y, true, by omega, rfl, rfl, rfl, by go_num, k2.out.fresh ⟨rfl, rfl, rfl, Nat.le_refl _, fun _ _ => rfl⟩⟩
                case measure => simp [intOf]; omega
              · have QS := fun w1 => psave_no x y w1 w.heap.size hm
                have HL : Hid _ := hL
                clear hL hm hE QA
                go_wp2
                go_region_held3 (fun w' => w'.cell? ⟨bk0, off0 + k, none⟩ = some (.int .i64 x) ∧ w'.cell? ⟨bk1, off1 + k, none⟩ = some (.string y)) (go_keep)
                  (first | (go_at_call 7; refine (QS _).mono ?_; rintro e w2 ⟨rfl, rfl⟩))
                go_wp2
                go_roundw
                case rel => exact ⟨k + 1, A, turns, n, tx, bb, by omega, rfl, rfl, rfl, by go_num, (HL.out.more).fresh ⟨rfl, rfl, rfl, Nat.le_refl _, fun _ _ => rfl⟩⟩
                case measure => simp [intOf]; omega
            · have f2 : decide ((y.size : Int) < (1000 : Int)) = false := decide_eq_false (by omega)
              have HL : Hid _ := hL
              clear hL hE QA
              go_wp2
              go_quiet (fail)
              go_wp2
              go_roundw
              case rel => exact ⟨k + 1, A, turns, n, tx, bb, by omega, rfl, rfl, rfl, by go_num, (HL.out.more).fresh ⟨rfl, rfl, rfl, Nat.le_refl _, fun _ _ => rfl⟩⟩
              case measure => simp [intOf]; omega
          · have q2 : decide ((k : Int) < (20 : Int)) = false := decide_eq_false (by omega)
            cases bb with
            | true =>
              clear hX hY
              have QL : Hid (∀ w1 A t1, SAt w w1 w.heap.size A t1 → SnapO A (some (fileS n tx)) → Calls Tryd.prog 10 #[.pointer (some ⟨w.heap.size, 0, none⟩)] w1 fun e w' => e = .returned (.tuple #[.int .i64 n, .string tx, .int .i64 0]) ∧ SAt w w' w.heap.size A t1) := fun w1 A t1 h h2 => by
                have q := h.load hE (Nat.le_refl _) h2
                rw [show loadO (some (fileS n tx)) = (n, tx, 0) from loadS_file (hL.my rfl)] at q
                exact q
              have HL : Hid _ := hL
              clear hL
              go_wp2_with (first
                | (go_at_call 6; refine (QA.out _ k5.out.bel).mono ?_; rintro e w6 ⟨rfl, b6⟩)
                | (go_at_call 10; refine (QL.out _ _ _ k4.out s4.out).mono ?_; rintro e w5 ⟨rfl, kk⟩; have k5 : Hid _ := kk; clear kk k4 s4)
                | (go_at_call 9; refine (k3.out.crash (o := some (fileS n tx)) _ (by omega) (by omega) (by have := HL.out.la; rw [List.length_append]; simp; omega) s3.out).mono ?_; rintro e w4 ⟨rfl, A4, kk, ss⟩; have k4 : Hid _ := kk; have s4 : Hid _ := ss; clear kk ss k3 s3)
                | (go_at_call 8; refine (HL.out.at_.begin begunB g (by decide) HL.out.nb (by omega) (by have := HL.out.tn; omega)).mono ?_; rintro e w3 ⟨rfl, f3, t3, kk, hf3, _⟩; have k3 : Hid _ := kk; have s3 : Hid (SnapO (A ++ [f3]) (some (fileS n tx))) := HL.out.sn.snoc f3 hf3 HL.out.nb; clear kk))
              go_ret
              exact ⟨rfl, bmm k5.out.bel (by obtain ⟨ro, q⟩ := k5.out.dk; exact q.base) b6⟩
            | false =>
              clear hX hY
              have QL : Hid (∀ w1 A t1, SAt w w1 w.heap.size A t1 → SnapO A none → Calls Tryd.prog 10 #[.pointer (some ⟨w.heap.size, 0, none⟩)] w1 fun e w' => e = .returned (.tuple #[.int .i64 0, .string ⟨#[]⟩, .int .i64 5]) ∧ SAt w w' w.heap.size A t1) := fun w1 A t1 h h2 => h.load hE (Nat.le_refl _) h2
              have HL : Hid _ := hL
              clear hL
              go_wp2_with (first
                | (go_at_call 6; refine (QA.out _ k5.out.bel).mono ?_; rintro e w6 ⟨rfl, b6⟩)
                | (go_at_call 10; refine (QL.out _ _ _ k4.out s4.out).mono ?_; rintro e w5 ⟨rfl, kk⟩; have k5 : Hid _ := kk; clear kk k4 s4)
                | (go_at_call 9; refine (k3.out.crash (o := none) _ (by omega) (by omega) (by have := HL.out.la; rw [List.length_append]; simp; omega) s3.out).mono ?_; rintro e w4 ⟨rfl, A4, kk, ss⟩; have k4 : Hid _ := kk; have s4 : Hid _ := ss; clear kk ss k3 s3)
                | (go_at_call 8; refine (HL.out.at_.begin begunB g (by decide) HL.out.nb (by omega) (by have := HL.out.tn; omega)).mono ?_; rintro e w3 ⟨rfl, f3, t3, kk, hf3, _⟩; have k3 : Hid _ := kk; have s3 : Hid (SnapO (A ++ [f3]) (none)) := HL.out.sn.snoc f3 hf3 HL.out.nb; clear kk))
              go_ret
              exact ⟨rfl, bmm k5.out.bel (by obtain ⟨ro, q⟩ := k5.out.dk; exact q.base) b6⟩
        · have q1 : decide ((k : Int) < (n1 : Int)) = false := decide_eq_false (by omega)
          cases bb with
          | true =>
            clear hX hY
            have QL : Hid (∀ w1 A t1, SAt w w1 w.heap.size A t1 → SnapO A (some (fileS n tx)) → Calls Tryd.prog 10 #[.pointer (some ⟨w.heap.size, 0, none⟩)] w1 fun e w' => e = .returned (.tuple #[.int .i64 n, .string tx, .int .i64 0]) ∧ SAt w w' w.heap.size A t1) := fun w1 A t1 h h2 => by
              have q := h.load hE (Nat.le_refl _) h2
              rw [show loadO (some (fileS n tx)) = (n, tx, 0) from loadS_file (hL.my rfl)] at q
              exact q
            have HL : Hid _ := hL
            clear hL
            go_wp2_with (first
              | (go_at_call 6; refine (QA.out _ k5.out.bel).mono ?_; rintro e w6 ⟨rfl, b6⟩)
              | (go_at_call 10; refine (QL.out _ _ _ k4.out s4.out).mono ?_; rintro e w5 ⟨rfl, kk⟩; have k5 : Hid _ := kk; clear kk k4 s4)
              | (go_at_call 9; refine (k3.out.crash (o := some (fileS n tx)) _ (by omega) (by omega) (by have := HL.out.la; rw [List.length_append]; simp; omega) s3.out).mono ?_; rintro e w4 ⟨rfl, A4, kk, ss⟩; have k4 : Hid _ := kk; have s4 : Hid _ := ss; clear kk ss k3 s3)
              | (go_at_call 8; refine (HL.out.at_.begin begunB g (by decide) HL.out.nb (by omega) (by have := HL.out.tn; omega)).mono ?_; rintro e w3 ⟨rfl, f3, t3, kk, hf3, _⟩; have k3 : Hid _ := kk; have s3 : Hid (SnapO (A ++ [f3]) (some (fileS n tx))) := HL.out.sn.snoc f3 hf3 HL.out.nb; clear kk))
            go_ret
            exact ⟨rfl, bmm k5.out.bel (by obtain ⟨ro, q⟩ := k5.out.dk; exact q.base) b6⟩
          | false =>
            clear hX hY
            have QL : Hid (∀ w1 A t1, SAt w w1 w.heap.size A t1 → SnapO A none → Calls Tryd.prog 10 #[.pointer (some ⟨w.heap.size, 0, none⟩)] w1 fun e w' => e = .returned (.tuple #[.int .i64 0, .string ⟨#[]⟩, .int .i64 5]) ∧ SAt w w' w.heap.size A t1) := fun w1 A t1 h h2 => h.load hE (Nat.le_refl _) h2
            have HL : Hid _ := hL
            clear hL
            go_wp2_with (first
              | (go_at_call 6; refine (QA.out _ k5.out.bel).mono ?_; rintro e w6 ⟨rfl, b6⟩)
              | (go_at_call 10; refine (QL.out _ _ _ k4.out s4.out).mono ?_; rintro e w5 ⟨rfl, kk⟩; have k5 : Hid _ := kk; clear kk k4 s4)
              | (go_at_call 9; refine (k3.out.crash (o := none) _ (by omega) (by omega) (by have := HL.out.la; rw [List.length_append]; simp; omega) s3.out).mono ?_; rintro e w4 ⟨rfl, A4, kk, ss⟩; have k4 : Hid _ := kk; have s4 : Hid _ := ss; clear kk ss k3 s3)
              | (go_at_call 8; refine (HL.out.at_.begin begunB g (by decide) HL.out.nb (by omega) (by have := HL.out.tn; omega)).mono ?_; rintro e w3 ⟨rfl, f3, t3, kk, hf3, _⟩; have k3 : Hid _ := kk; have s3 : Hid (SnapO (A ++ [f3]) (none)) := HL.out.sn.snoc f3 hf3 HL.out.nb; clear kk))
            go_ret
            exact ⟨rfl, bmm k5.out.bel (by obtain ⟨ro, q⟩ := k5.out.dk; exact q.base) b6⟩
      · have q0 : decide ((k : Int) < (n0 : Int)) = false := decide_eq_false (by omega)
        cases bb with
        | true =>
          clear hX hY
          have QL : Hid (∀ w1 A t1, SAt w w1 w.heap.size A t1 → SnapO A (some (fileS n tx)) → Calls Tryd.prog 10 #[.pointer (some ⟨w.heap.size, 0, none⟩)] w1 fun e w' => e = .returned (.tuple #[.int .i64 n, .string tx, .int .i64 0]) ∧ SAt w w' w.heap.size A t1) := fun w1 A t1 h h2 => by
            have q := h.load hE (Nat.le_refl _) h2
            rw [show loadO (some (fileS n tx)) = (n, tx, 0) from loadS_file (hL.my rfl)] at q
            exact q
          have HL : Hid _ := hL
          clear hL
          go_wp2_with (first
            | (go_at_call 6; refine (QA.out _ k5.out.bel).mono ?_; rintro e w6 ⟨rfl, b6⟩)
            | (go_at_call 10; refine (QL.out _ _ _ k4.out s4.out).mono ?_; rintro e w5 ⟨rfl, kk⟩; have k5 : Hid _ := kk; clear kk k4 s4)
            | (go_at_call 9; refine (k3.out.crash (o := some (fileS n tx)) _ (by omega) (by omega) (by have := HL.out.la; rw [List.length_append]; simp; omega) s3.out).mono ?_; rintro e w4 ⟨rfl, A4, kk, ss⟩; have k4 : Hid _ := kk; have s4 : Hid _ := ss; clear kk ss k3 s3)
            | (go_at_call 8; refine (HL.out.at_.begin begunB g (by decide) HL.out.nb (by omega) (by have := HL.out.tn; omega)).mono ?_; rintro e w3 ⟨rfl, f3, t3, kk, hf3, _⟩; have k3 : Hid _ := kk; have s3 : Hid (SnapO (A ++ [f3]) (some (fileS n tx))) := HL.out.sn.snoc f3 hf3 HL.out.nb; clear kk))
          go_ret
          exact ⟨rfl, bmm k5.out.bel (by obtain ⟨ro, q⟩ := k5.out.dk; exact q.base) b6⟩
        | false =>
          clear hX hY
          have QL : Hid (∀ w1 A t1, SAt w w1 w.heap.size A t1 → SnapO A none → Calls Tryd.prog 10 #[.pointer (some ⟨w.heap.size, 0, none⟩)] w1 fun e w' => e = .returned (.tuple #[.int .i64 0, .string ⟨#[]⟩, .int .i64 5]) ∧ SAt w w' w.heap.size A t1) := fun w1 A t1 h h2 => h.load hE (Nat.le_refl _) h2
          have HL : Hid _ := hL
          clear hL
          go_wp2_with (first
            | (go_at_call 6; refine (QA.out _ k5.out.bel).mono ?_; rintro e w6 ⟨rfl, b6⟩)
            | (go_at_call 10; refine (QL.out _ _ _ k4.out s4.out).mono ?_; rintro e w5 ⟨rfl, kk⟩; have k5 : Hid _ := kk; clear kk k4 s4)
            | (go_at_call 9; refine (k3.out.crash (o := none) _ (by omega) (by omega) (by have := HL.out.la; rw [List.length_append]; simp; omega) s3.out).mono ?_; rintro e w4 ⟨rfl, A4, kk, ss⟩; have k4 : Hid _ := kk; have s4 : Hid _ := ss; clear kk ss k3 s3)
            | (go_at_call 8; refine (HL.out.at_.begin begunB g (by decide) HL.out.nb (by omega) (by have := HL.out.tn; omega)).mono ?_; rintro e w3 ⟨rfl, f3, t3, kk, hf3, _⟩; have k3 : Hid _ := kk; have s3 : Hid (SnapO (A ++ [f3]) (none)) := HL.out.sn.snoc f3 hf3 HL.out.nb; clear kk))
          go_ret
          exact ⟨rfl, bmm k5.out.bel (by obtain ⟨ro, q⟩ := k5.out.dk; exact q.base) b6⟩
end Go.Proofs.YtkdglkaeglhibaaDoor
