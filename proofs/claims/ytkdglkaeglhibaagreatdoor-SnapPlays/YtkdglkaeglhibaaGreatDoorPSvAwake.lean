/-
  A disk and the snapshot on it, call by call, and chapter 12's examples. The condition: the program's variables lie in memory as its text lays them, below the disk.
-/
import Derived.Test.YtkdglkaeglhibaaGreatDoorPSvDisk
namespace Go.Proofs.YtkdglkaeglhibaaGreatDoor
open Go.RowKit

/-- The snapshot's file, sure as a whole: none, or these bytes. -/
structure SnapO (A : List CF) (o : Option (List UInt8)) : Prop where
  no : o = none → lk A snapB = none
  yes : ∀ bs, o = some bs → ∃ f, lk A snapB = some f ∧ f.bs = bs ∧ bs.length ≤ f.sure
def loadO : Option (List UInt8) → Int × ByteArray × Int
  | none => (0, ⟨#[]⟩, 5)
  | some bs => loadS bs
theorem SnapO.crash {A : List CF} {o : Option (List UInt8)} (h : SnapO A o) (d : List P3) (K : Nat) : SnapO (A.map (crA d K)) o := by
  have e := lk_map (g := crA d K) snapB A (fun f _ => rfl)
  refine ⟨fun ho => by rw [e, h.no ho]; rfl, fun bs ho => ?_⟩
  obtain ⟨f, h1, h2, h3⟩ := h.yes bs ho
  refine ⟨crA d K f, by rw [e, h1]; rfl, ?_, ?_⟩
  · show f.bs.take (f.sure + keptA d K f.c) = bs
    rw [h2, List.take_of_length_le (by omega)]
  · show bs.length ≤ f.sure + keptA d K f.c
    omega
theorem SnapO.saved (A : List CF) (c : Nat) (bs : List UInt8) : SnapO (savedA A c bs) (some bs) :=
  ⟨fun h => (by cases h), fun b hb => ⟨sureF snapB c bs, by rw [lk_saved, if_pos rfl], Option.some.inj hb, by rw [← Option.some.inj hb]; exact Nat.le_refl _⟩⟩
theorem SnapO.nil : SnapO [] none := ⟨fun _ => rfl, fun _ h => by cases h⟩
/-- A disk in block b that was made behind world w. -/
structure SAt (w wr : World) (b : Nat) (A : List CF) (turns : Nat) : Prop where
  dk : ∃ ro, DkS wr b b A turns ro
  bel : Below b w wr
section
variable {w wr : World} {b B turns : Nat} {A : List CF} {o : Option (List UInt8)}
theorem SAt.fresh (h : SAt w wr b A turns) {w' : World} (k : Below wr.heap.size wr w') : SAt w w' b A turns := by
  obtain ⟨ro, hd⟩ := h.dk
  exact ⟨⟨ro, hd.fresh k⟩, bmm h.bel hd.base k⟩
theorem SAt.drew (h : SAt w wr b A turns) : SAt w wr.drew b A turns := h.fresh ⟨rfl, rfl, rfl, Nat.le_refl _, fun _ _ => rfl⟩
theorem snew (w : World) : Calls Tryz.prog 4 #[] w fun e w' => e = .returned (.pointer (some ⟨w.heap.size, 0, none⟩)) ∧ SAt w w' w.heap.size [] 0 :=
  (knew_any w).mono fun _ _ ⟨h1, h2⟩ => ⟨h1, ⟨⟨(fun b => if b = w.heap.size then some b else none), by rw [h2]; exact DkS.new w⟩, by rw [h2]; exact (Below.refl _ w).alloc (Nat.le_refl _) _⟩⟩
theorem SAt.load (h : SAt w wr b A turns) (hE : Env w B) (hB : B ≤ b) (hs : SnapO A o) : Calls Tryz.prog 11 #[.pointer (some ⟨b, 0, none⟩)] wr fun e w' => e = .returned (.tuple #[.int .i64 (loadO o).1, .string (loadO o).2.1, .int .i64 (loadO o).2.2]) ∧ SAt w w' b A turns := by
  obtain ⟨ro, hd⟩ := h.dk
  have hE2 := hE.below h.bel hB
  cases o with
  | none => exact (pload_no hd hE2 (hs.no rfl)).mono fun _ _ ⟨g1, g2⟩ => ⟨g1, h.fresh g2⟩
  | some bs =>
    obtain ⟨f, h1, h2, _⟩ := hs.yes bs rfl
    refine (pload_some hd hE2 f h1).mono fun _ _ ⟨g1, g2⟩ => ⟨?_, h.fresh g2⟩
    rw [h2] at g1
    exact g1
theorem SAt.save (h : SAt w wr b A turns) (hE : Env w B) (hB : B ≤ b) (n : Int) (t : ByteArray) (hm : mayS n t = true) (ht : turns < 4611686018427387904) : Calls Tryz.prog 5 #[.pointer (some ⟨b, 0, none⟩), .int .i64 n, .string t] wr fun e w' => e = .returned (.int .i64 0) ∧ ∃ c, SAt w w' b (savedA A c (fileS n t)) (turns + 1) := by
  obtain ⟨ro, hd⟩ := h.dk
  exact (psave_yes hd (hE.below h.bel hB) n t hm ht).mono fun _ _ ⟨g1, c, ro', g2, g3⟩ => ⟨g1, c, ⟨ro', g2⟩, h.bel.trans (hd.below g3)⟩
theorem SAt.crash (h : SAt w wr b A turns) (keep : Int) (hk1 : -9223372036854775808 ≤ keep) (hk2 : keep ≤ 9223372036854775807) (hl : A.length ≤ 100000) (hs : SnapO A o) : Calls Tryz.prog 7 #[.pointer (some ⟨b, 0, none⟩), .int .i64 keep] wr fun e w' => e = .returned (.tuple #[]) ∧ ∃ A', SAt w w' b A' turns ∧ SnapO A' o := by
  obtain ⟨ro, hd⟩ := h.dk
  exact (S_crash hd keep hk1 hk2 hl).mono fun _ _ ⟨g1, d, _, _, g4, g5⟩ => ⟨g1, _, ⟨⟨ro, g4⟩, h.bel.trans (hd.below g5)⟩, hs.crash d _⟩
end
theorem load_five : loadO (some (fileS 5 ⟨#[120]⟩)) = (5, ⟨#[120]⟩, 0) := loadS_file (by decide)
set_option maxHeartbeats 1600000 in
set_option maxRecDepth 100000 in
/-- Chapter 12's examples. -/
theorem sAwake (w : World) (B : Nat) (hE : Env w B) : Calls Tryz.prog 16 #[] w fun e w' => e = .returned (.bool true) ∧ Below w.heap.size w w' := by
  have hn := snew w
  have hle := hE.le
  have Q1 : Hid (∀ w1, SAt w w1 w.heap.size [] 0 → Calls Tryz.prog 11 #[.pointer (some ⟨w.heap.size, 0, none⟩)] w1 fun e w' => e = .returned (.tuple #[.int .i64 0, .string ⟨#[]⟩, .int .i64 5]) ∧ SAt w w' w.heap.size [] 0) := fun w1 h => h.load hE hle SnapO.nil
  obtain ⟨F5, hF5⟩ : ∃ F5, F5 = fileS 5 ⟨#[120]⟩ := ⟨_, rfl⟩
  have Q2 : Hid (∀ w1, SAt w w1 w.heap.size [] 0 → Calls Tryz.prog 5 #[.pointer (some ⟨w.heap.size, 0, none⟩), .int .i64 5, .string ⟨#[120]⟩] w1 fun e w' => e = .returned (.int .i64 0) ∧ ∃ A, SAt w w' w.heap.size A 1 ∧ SnapO A (some (F5)) ∧ A.length ≤ 1) := fun w1 h => (h.save hE hle 5 ⟨#[120]⟩ (by decide) (by decide)).mono fun _ _ ⟨g1, c, g2⟩ => ⟨g1, _, g2, by rw [hF5]; exact SnapO.saved _ _ _, saved_len [] _ _⟩
  have Q3 : Hid (∀ w1 A, SAt w w1 w.heap.size A 1 → SnapO A (some (F5)) → A.length ≤ 1 → Calls Tryz.prog 7 #[.pointer (some ⟨w.heap.size, 0, none⟩), .int .i64 0] w1 fun e w' => e = .returned (.tuple #[]) ∧ ∃ A', SAt w w' w.heap.size A' 1 ∧ SnapO A' (some (F5))) := fun w1 A h h2 h3 => h.crash 0 (by decide) (by decide) (by omega) h2
  have Q4 : Hid (∀ w1 A, SAt w w1 w.heap.size A 1 → SnapO A (some (F5)) → Calls Tryz.prog 11 #[.pointer (some ⟨w.heap.size, 0, none⟩)] w1 fun e w' => e = .returned (.tuple #[.int .i64 5, .string ⟨#[120]⟩, .int .i64 0]) ∧ SAt w w' w.heap.size A 1) := fun w1 A h h2 => by
    have := h.load hE hle h2
    rw [hF5, load_five] at this
    exact this
  clear hF5
  clear hE hle
  go_enter Tryz.func16, Tryz.ntmps16
  go_wp2_with (first
    | (go_at_call 5; have d7 := d6; refine (psave_nil 5 ⟨#[120]⟩ _).mono ?_; rintro e w7 ⟨rfl, rfl⟩)
    | (go_at_call 5; have d5 := k5; refine (psave_no 0 ⟨#[120]⟩ _ _ (by decide)).mono ?_; rintro e w6 ⟨rfl, rfl⟩; have d6 : True := trivial)
    | (go_at_call 11; refine (Q4.out _ _ k4.out s4.out).mono ?_; rintro e w5 ⟨rfl, k⟩; have k5 : Hid _ := k; clear k k4)
    | (go_at_call 7; refine (Q3.out _ _ k3.out s3.out l3).mono ?_; rintro e w4 ⟨rfl, A4, k, s⟩; have k4 : Hid _ := k; have s4 : Hid _ := s; clear k s k3 s3 l3)
    | (go_at_call 5; refine (Q2.out _ k2.out).mono ?_; rintro e w3 ⟨rfl, A3, k, s, l3⟩; have k3 : Hid _ := k; have s3 : Hid _ := s; clear k s k2)
    | (go_at_call 11; refine (Q1.out _ k1.out).mono ?_; rintro e w2 ⟨rfl, k⟩; have k2 : Hid _ := k; clear k k1)
    | (go_at_call 4; refine hn.mono ?_; rintro e w1 ⟨rfl, k⟩; have k1 : Hid _ := k; clear k))
  go_ret
  exact ⟨rfl, k5.out.bel⟩
end Go.Proofs.YtkdglkaeglhibaaGreatDoor
