/-
  Parts of the proof, laid together: WlName, WvName, WvDisk. The conditions stand at each part.
-/
import Derived.Lib.Strings
import Derived.Lib.BufferRead
import Derived.Lib.AtoiErrMem
import Derived.Test.YtodnnhidljfilaaGreatDoorFPackA
import Derived.Test.YtodnnhidljfilaaGreatDoorFKAbs
import Derived.Test.YtodnnhidljfilaaGreatDoorFSE
/-
  The names of segments as plain data: a number's digits, a name's number, each back. No condition. No program.
-/
namespace Go.Proofs.YtodnnhidljfilaaGreatDoor

/-- 'log.' -/
def logP : List UInt8 := [108, 111, 103, 46]
/-- The digits of a number (f: how many there may be at the most). -/
def digsF : Nat → Nat → List UInt8
  | 0, _ => []
  | f + 1, n => if n < 10 then [UInt8.ofNat (48 + n)] else digsF f (n / 10) ++ [UInt8.ofNat (48 + n % 10)]
def digs (n : Nat) : List UInt8 := digsF 20 n
/-- A segment's name. -/
def segOf (n : Nat) : List UInt8 := logP ++ digs n

/-- More places than digits say no more. -/
theorem digsF_enough : ∀ (f g n : Nat), n < 10 ^ (f + 1) → n < 10 ^ (g + 1) → digsF (f + 1) n = digsF (g + 1) n
  | f, g, n, hf, hg => by
    rw [digsF, digsF]
    split
    · rfl
    · rename_i h1
      match f, g, hf, hg with
      | 0, _, hf, _ => exact absurd (by simpa using hf) h1
      | _, 0, _, hg => exact absurd (by simpa using hg) h1
      | f + 1, g + 1, hf, hg =>
        have e1 : 10 ^ (f + 1 + 1) = 10 ^ (f + 1) * 10 := Nat.pow_succ ..
        have e2 : 10 ^ (g + 1 + 1) = 10 ^ (g + 1) * 10 := Nat.pow_succ ..
        rw [digsF_enough f g (n / 10) (Nat.div_lt_of_lt_mul (by omega)) (Nat.div_lt_of_lt_mul (by omega))]
theorem digs_few {n : Nat} (h : n < 10) : digs n = [UInt8.ofNat (48 + n)] := by
  unfold digs
  rw [digsF, if_pos h]
theorem digs_more {n : Nat} (h : 10 ≤ n) (hn : n < 100000000000000000000) : digs n = digs (n / 10) ++ [UInt8.ofNat (48 + n % 10)] := by
  have h2 : n / 10 < 10 ^ (18 + 1) := Nat.div_lt_of_lt_mul (by simpa using hn)
  have h3 : n / 10 < 10 ^ (19 + 1) := Nat.lt_trans h2 (by decide)
  unfold digs
  rw [digsF, if_neg (by omega), digsF_enough 18 19 (n / 10) h2 h3]
end Go.Proofs.YtodnnhidljfilaaGreatDoor
/-
  The names of segments (package wal): a number's name, a name's number. The condition: the number is below 100.
-/
namespace Go.Proofs.YtodnnhidljfilaaGreatDoor
open Go.RowKit

/-- A segment's name, as a string; the name of the file that is to be renamed. -/
def segB (k : Nat) : ByteArray := ⟨(segOf k).toArray⟩
def tmpB : ByteArray := ⟨#[108, 111, 103, 46, 116, 109, 112]⟩
theorem decDigits_small (k : Nat) (h : k < 100) : Lib.decDigits k = digs k := by
  rw [Lib.decDigits]
  by_cases h1 : k < 10
  · rw [dif_pos h1, digs_few h1]
  · rw [dif_neg h1, digs_more (by omega) (by omega), Lib.decDigits, dif_pos (by omega), digs_few (by omega)]
theorem digs_two (k : Nat) (h : k < 100) : 1 ≤ (digs k).length ∧ (digs k).length ≤ 2 := by
  by_cases h1 : k < 10
  · rw [digs_few h1]
    exact ⟨Nat.le_refl _, Nat.le_succ 1⟩
  · rw [digs_more (by omega) (by omega), digs_few (n := k / 10) (by omega)]
    exact ⟨Nat.le_succ 1, Nat.le_refl _⟩
theorem segB_size (k : Nat) (h : k < 100) : 5 ≤ (segB k).size ∧ (segB k).size ≤ 6 := by
  have := digs_two k h
  have e : (segB k).size = 4 + (digs k).length := by
    show (segOf k).toArray.size = _
    rw [List.size_toArray]
    unfold segOf
    rw [List.length_append]
    rfl
  omega
theorem segB_log (k : Nat) : (⟨#[108, 111, 103, 46]⟩ : ByteArray) ++ ⟨(digs k).toArray⟩ = segB k := by
  apply ByteArray.ext
  apply Array.ext'
  simp [segB, segOf, logP, ByteArray.data_append]
theorem trim_seg (k : Nat) : Lib.trimPrefix (segB k).data.toList (⟨#[108, 111, 103, 46]⟩ : ByteArray).data.toList = digs k := by
  have e : (segB k).data.toList = logP ++ digs k := by simp [segB, segOf]
  rw [e]
  show Lib.trimPrefix (logP ++ digs k) logP = digs k
  unfold Lib.trimPrefix Lib.hasPrefix
  rw [if_pos (by simp [List.isPrefixOf_iff_prefix]), List.drop_left]
theorem atoi_digs : ∀ k, k < 100 → Lib.atoi (digs k) = some (k : Int) := by decide
theorem segB_inj : ∀ a, a < 100 → ∀ b, b < 100 → segOf a = segOf b → a = b := by
  intro a ha b hb h
  have h1 : digs a = digs b := List.append_cancel_left h
  have h2 := atoi_digs a ha
  rw [h1, atoi_digs b hb] at h2
  have := Option.some.inj h2
  omega
theorem segB_ne {a b : Nat} (ha : a < 100) (hb : b < 100) (h : a ≠ b) : segB a ≠ segB b := fun e => h (segB_inj a ha b hb (by
  have := congrArg (fun s : ByteArray => s.data.toList) e
  simpa [segB] using this))
theorem segB_tmp {a : Nat} (ha : a < 100) : segB a ≠ tmpB := fun e => by
  have h := segB_size a ha
  rw [e] at h
  have : tmpB.size = 7 := rfl
  omega
set_option maxRecDepth 100000 in
theorem segName_any (k : Nat) (hk : k < 100) (w : World) :
    Calls Tryz.prog 74 #[.int .i64 (k : Int)] w fun e w' => e = .returned (.string (segB k)) ∧ w = w' := by
  have q0 := Tryz.strconv_Itoa_small k hk
  rw [decDigits_small k hk] at q0
  have q := fun w => (q0 w).mono fun e w' h => (⟨h.1, h.2.symm⟩ : e = _ ∧ w = w')
  clear q0
  obtain ⟨d, hd⟩ : ∃ d : ByteArray, d = ⟨(digs k).toArray⟩ := ⟨_, rfl⟩
  have zd : d.size ≤ 2 := by
    rw [hd]
    show (digs k).toArray.size ≤ 2
    rw [List.size_toArray]
    exact (digs_two k hk).2
  have HE : Hid ((⟨#[108, 111, 103, 46]⟩ : ByteArray) ++ d = segB k) := by rw [hd]; exact segB_log k
  rw [← hd] at q
  rw [← HE.out]
  clear hd HE
  go_enter Tryz.func74, Tryz.ntmps74
  go_wp2_with (go_at_call 115; refine (q _).mono ?_; rintro e w' ⟨rfl, rfl⟩)
  go_ret
  exact ⟨rfl, rfl⟩
set_option maxHeartbeats 3200000 in
set_option maxRecDepth 100000 in
theorem segNumber_any (k : Nat) (h1 : 1 ≤ k) (hk : k < 100) (w : World) :
    Calls Tryz.prog 106 #[.string (segB k)] w fun e w' => e = .returned (.int .i64 (k : Int)) ∧ Below w.heap.size w w' := by
  have qt0 := Tryz.strings_TrimPrefix (segB k) ⟨#[108, 111, 103, 46]⟩
  rw [trim_seg k] at qt0
  have qt := fun w => (qt0 w).mono fun e w' h => (⟨h.1, h.2.symm⟩ : e = _ ∧ w = w')
  clear qt0
  have qa := Tryz.strconv_Atoi ⟨(digs k).toArray⟩ (k : Int) (by
    show (digs k).toArray.size ≤ 18
    rw [List.size_toArray]
    have := digs_two k hk
    omega) (by
    show Lib.atoi (digs k).toArray.toList = _
    rw [List.toList_toArray]
    exact atoi_digs k hk)
  have qs := segName_any k hk
  obtain ⟨d, hd⟩ : ∃ d : ByteArray, d = ⟨(digs k).toArray⟩ := ⟨_, rfl⟩
  obtain ⟨s, hs⟩ : ∃ s : ByteArray, s = segB k := ⟨_, rfl⟩
  rw [← hd] at qt qa
  rw [← hs] at qt qs ⊢
  clear hd hs
  have k1 : ((k : Int) < 1) = False := eq_false (by omega)
  have k2 : ((9999999999999999 : Int) < (k : Int)) = False := eq_false (by omega)
  go_enter Tryz.func106, Tryz.ntmps106
  go_wp2_with (first
    | (go_at_call 74; have y := b2; refine (qs _).mono ?_; rintro e w3 ⟨rfl, rfl⟩)
    | (go_at_call 152; refine (qa _).mono ?_; rintro e w2 ⟨rfl, t, hw⟩; have b2 : Below w.heap.size w w2 := (by rw [hw]; exact Lib.bytesWorld_below _ _ _); clear hw)
    | (go_at_call 153; refine (qt _).mono ?_; rintro e w1 ⟨rfl, rfl⟩))
  go_ret
  exact ⟨rfl, b2⟩
end Go.Proofs.YtodnnhidljfilaaGreatDoor
/-
  A disk with one file, or with one and the file that is to be renamed: each call as plain data. The conditions: the names may be; fewer than 2^62 appends.
-/
namespace Go.Proofs.YtodnnhidljfilaaGreatDoor
open Go.RowKit

/-- One file. -/
def fileN (n : ByteArray) (c : Nat) (bs : List UInt8) (sure : Nat) (ps : List (Nat × Nat)) : CF := ⟨n, c, .slice none 0 0, .slice none 0 0, bs, sure, ps⟩
def oneN (n : ByteArray) (c : Nat) (bs : List UInt8) (sure : Nat) (ps : List (Nat × Nat)) : List CF := [fileN n c bs sure ps]
theorem nameB_seg {k : Nat} (h : k < 100) : nameB (segB k) = true := by
  have := segB_size k h
  unfold nameB
  simp
  omega
theorem nameB_tmp : nameB tmpB = true := by decide
theorem seg_max {k : Nat} (h : k < 100) : (segB k).size ≤ maxLen := by
  have := segB_size k h
  unfold maxLen
  omega
theorem tmp_max : tmpB.size ≤ maxLen := by decide
theorem lk_one (n : ByteArray) (c : Nat) (bs : List UInt8) (sure : Nat) (ps : List (Nat × Nat)) : lk (oneN n c bs sure ps) n = some (fileN n c bs sure ps) := by
  unfold lk oneN
  rw [List.find?_cons_of_pos (by simp [fileN])]
theorem lk_other {n m : ByteArray} (h : n ≠ m) (c : Nat) (bs : List UInt8) (sure : Nat) (ps : List (Nat × Nat)) : lk (oneN n c bs sure ps) m = none := by
  unfold lk oneN
  rw [List.find?_cons_of_neg (by simp [fileN, h])]
  rfl
/-- The pieces behind an append; its turns. -/
def psN (s : ByteArray) (t : Nat) : List (Nat × Nat) := if s.size = 0 then [] else [(t, s.size)]
theorem psN_no {s : ByteArray} (h : s.size = 0) (t : Nat) : psN s t = [] := if_pos h
theorem psN_yes {s : ByteArray} (h : ¬ s.size = 0) (t : Nat) : psN s t = [(t, s.size)] := if_neg h
theorem no_bytes {s : ByteArray} (h : s.size = 0) : s = ⟨#[]⟩ := by
  apply ByteArray.ext
  exact Array.eq_empty_of_size_eq_zero h
section
variable {w : World} {base D : Nat} {ro : Nat → Option Nat}
/-- The first append of all. -/
theorem o_first {t : Nat} (k : DkS w base D [] t ro) (n s : ByteArray) (hn : nameB n = true) (h0 : 0 < s.size) (hs : s.size ≤ 4194304) (ht : t < 4611686018427387904) : Calls Tryz.prog 76 #[.pointer (some ⟨D, 0, none⟩), .string n, .string s] w fun e w' => e = .returned (.int .i64 0) ∧ ∃ c ro', DkS w' base D (oneN n c s.data.toList 0 [(t + 1, s.size)]) (t + 1) ro' ∧ Ext w w' ro ro' :=
  S_append_new k n s hn rfl h0 hs ht
/-- An append more, of bytes or of none. -/
theorem o_more {n : ByteArray} {c t sure : Nat} {bs : List UInt8} {ps : List (Nat × Nat)} (k : DkS w base D (oneN n c bs sure ps) t ro) (hn : nameB n = true) (s : ByteArray) (hs : bs.length + s.size ≤ 4194304) (ht : t < 4611686018427387904) : Calls Tryz.prog 76 #[.pointer (some ⟨D, 0, none⟩), .string n, .string s] w fun e w' => e = .returned (.int .i64 0) ∧ ∃ t' ro', t' ≤ t + 1 ∧ DkS w' base D (oneN n c (bs ++ s.data.toList) sure (ps ++ psN s (t + 1))) t' ro' ∧ Ext w w' ro ro' := by
  by_cases h0 : s.size = 0
  · have e := no_bytes h0
    subst e
    refine (S_append_none k n hn _ (lk_one n c bs sure ps)).mono fun _ _ ⟨h1, h2⟩ => ⟨h1, t, ro, by omega, ?_, by rw [← h2]; exact Ext.refl _ _⟩
    have e1 : bs ++ (⟨#[]⟩ : ByteArray).data.toList = bs := by simp
    rw [e1, psN_no h0, List.append_nil, ← h2]
    exact k
  · refine (S_append k n s hn _ (lk_one n c bs sure ps) (by omega) hs ht).mono fun _ _ ⟨h1, ro', h2, h3⟩ => ⟨h1, t + 1, ro', Nat.le_refl _, ?_, h3⟩
    rw [psN_yes h0]
    have e : setF (oneN n c bs sure ps) (appA (fileN n c bs sure ps) s (t + 1)) = oneN n c (bs ++ s.data.toList) sure (ps ++ [(t + 1, s.size)]) := by
      show [if c = c then _ else _] = _
      rw [if_pos rfl]
      rfl
    rw [← e]
    exact h2
theorem o_sync {n : ByteArray} {c t sure : Nat} {bs : List UInt8} {ps : List (Nat × Nat)} (k : DkS w base D (oneN n c bs sure ps) t ro) (hn : n.size ≤ maxLen) : Calls Tryz.prog 73 #[.pointer (some ⟨D, 0, none⟩), .string n] w fun e w' => e = .returned (.int .i64 0) ∧ DkS w' base D (oneN n c bs bs.length []) t ro ∧ Ext w w' ro ro := by
  refine (S_sync k n hn _ (lk_one n c bs sure ps)).mono fun _ _ ⟨h1, h2, h3⟩ => ⟨h1, ?_, h3⟩
  have e : setF (oneN n c bs sure ps) (syncF (fileN n c bs sure ps)) = oneN n c bs bs.length [] := by
    show [if c = c then _ else _] = _
    rw [if_pos rfl]
    rfl
  rw [← e]
  exact h2
theorem o_read {n : ByteArray} {c t sure : Nat} {bs : List UInt8} {ps : List (Nat × Nat)} (k : DkS w base D (oneN n c bs sure ps) t ro) (hn : n.size ≤ maxLen) : Calls Tryz.prog 102 #[.pointer (some ⟨D, 0, none⟩), .string n] w fun e w' => e = .returned (.tuple #[.string (textOf bs), .int .i64 0]) ∧ w = w' :=
  S_read k n hn _ (lk_one n c bs sure ps)
/-- A crash of a file with at most one piece. -/
theorem o_crash {n : ByteArray} {c t t0 sure : Nat} {bs : List UInt8} {s : ByteArray} (k : DkS w base D (oneN n c bs sure (psN s t0)) t ro) (keep : Int) (h1 : -9223372036854775808 ≤ keep) (h2 : keep ≤ 9223372036854775807) : Calls Tryz.prog 24 #[.pointer (some ⟨D, 0, none⟩), .int .i64 keep] w fun e w' => e = .returned (.tuple #[]) ∧
    DkS w' base D (oneN n c (bs.take (sure + min s.size keep.toNat)) (sure + min s.size keep.toNat) []) t ro ∧ Ext w w' ro ro := by
  refine (S_crash k keep h1 h2 (by simp [oneN])).mono fun _ _ ⟨e1, d, hp, hs, h3, h4⟩ => ⟨e1, ?_, h4⟩
  have hk : keptA d keep.toNat c = min s.size keep.toNat := by
    by_cases h0 : s.size = 0
    · have e : allP (oneN n c bs sure (psN s t0)) = [] := by simp [psN, h0, oneN, fileN, allP, p3]
      rw [e] at hp
      rw [hp.eq_nil]
      simp [keptA, h0]
    · have e : allP (oneN n c bs sure (psN s t0)) = [(t0, s.size, c)] := by simp [psN, h0, oneN, fileN, allP, p3]
      rw [e] at hp
      rw [List.perm_singleton.1 hp]
      simp [keptA]
  have e : (oneN n c bs sure (psN s t0)).map (crA d keep.toNat) = oneN n c (bs.take (sure + min s.size keep.toNat)) (sure + min s.size keep.toNat) [] := by
    simp only [oneN, fileN, List.map_cons, List.map_nil, crA, crashF, abs, sureN]
    rw [hk]
  rw [← e]
  exact h3
theorem o_crash0 {t : Nat} (k : DkS w base D [] t ro) (keep : Int) (h1 : -9223372036854775808 ≤ keep) (h2 : keep ≤ 9223372036854775807) : Calls Tryz.prog 24 #[.pointer (some ⟨D, 0, none⟩), .int .i64 keep] w fun e w' => e = .returned (.tuple #[]) ∧ DkS w' base D [] t ro ∧ Ext w w' ro ro :=
  (S_crash k keep h1 h2 (by simp)).mono fun _ _ ⟨e1, d, _, _, h3, h4⟩ => ⟨e1, h3, h4⟩
/-! ### One file and the one that is to be renamed -/
theorem two_ne {f g : CF} {t : Nat} (k : DkS w base D [f, g] t ro) : f.c ≠ g.c := by
  have := k.ok.2.1
  simp at this
  exact this
theorem t_begin {n : ByteArray} {c t sure : Nat} {bs : List UInt8} {ps : List (Nat × Nat)} (k : DkS w base D (oneN n c bs sure ps) t ro) (hne : n ≠ tmpB) (s : ByteArray) (hs : s.size ≤ 4194304) (ht : t < 4611686018427387904) : Calls Tryz.prog 76 #[.pointer (some ⟨D, 0, none⟩), .string tmpB, .string s] w fun e w' => e = .returned (.int .i64 0) ∧ ∃ c2 t' ro', t' ≤ t + 1 ∧ DkS w' base D [fileN n c bs sure ps, fileN tmpB c2 s.data.toList 0 (psN s (t + 1))] t' ro' ∧ Ext w w' ro ro' := by
  by_cases h0 : s.size = 0
  · have e := no_bytes h0
    subst e
    exact (S_append_noneN k tmpB nameB_tmp (lk_other hne c bs sure ps)).mono fun _ _ ⟨h1, c2, ro', h2, h3⟩ => ⟨h1, c2, t, ro', by omega, h2, h3⟩
  · rw [psN_yes h0]
    exact (S_append_new k tmpB s nameB_tmp (lk_other hne c bs sure ps) (by omega) hs ht).mono fun _ _ ⟨h1, c2, ro', h2, h3⟩ => ⟨h1, c2, t + 1, ro', Nat.le_refl _, h2, h3⟩
theorem lk_two {n m : ByteArray} (h : n ≠ m) (f : CF) (hf : f.name = n) (g : CF) (hg : g.name = m) : lk [f, g] m = some g := by
  unfold lk
  rw [List.find?_cons_of_neg (by simp [hf, h]), List.find?_cons_of_pos (by simp [hg])]
theorem t_sync {n : ByteArray} {c c2 t sure : Nat} {bs b2 : List UInt8} {ps p2 : List (Nat × Nat)} (k : DkS w base D [fileN n c bs sure ps, fileN tmpB c2 b2 0 p2] t ro) (hne : n ≠ tmpB) : Calls Tryz.prog 73 #[.pointer (some ⟨D, 0, none⟩), .string tmpB] w fun e w' => e = .returned (.int .i64 0) ∧ DkS w' base D [fileN n c bs sure ps, fileN tmpB c2 b2 b2.length []] t ro ∧ Ext w w' ro ro := by
  have hc : c ≠ c2 := two_ne k
  refine (S_sync k tmpB tmp_max _ (lk_two hne _ rfl _ rfl)).mono fun _ _ ⟨h1, h2, h3⟩ => ⟨h1, ?_, h3⟩
  have e : setF [fileN n c bs sure ps, fileN tmpB c2 b2 0 p2] (syncF (fileN tmpB c2 b2 0 p2)) = [fileN n c bs sure ps, fileN tmpB c2 b2 b2.length []] := by
    show [if c = c2 then _ else _, if c2 = c2 then _ else _] = _
    rw [if_neg hc, if_pos rfl]
    rfl
  rw [← e]
  exact h2
theorem t_rename {n m : ByteArray} {c c2 t sure : Nat} {bs b2 : List UInt8} {ps : List (Nat × Nat)} (k : DkS w base D [fileN n c bs sure ps, fileN tmpB c2 b2 b2.length []] t ro) (hne : n ≠ tmpB) (hnm : n ≠ m) (hm : nameB m = true) : Calls Tryz.prog 85 #[.pointer (some ⟨D, 0, none⟩), .string tmpB, .string m] w fun e w' => e = .returned (.int .i64 0) ∧ DkS w' base D [fileN n c bs sure ps, fileN m c2 b2 b2.length []] t ro ∧ Ext w w' ro ro := by
  refine (S_rename k tmpB m hm tmp_max _ (lk_two hne _ rfl _ rfl)).mono fun _ _ ⟨h1, h2, h3⟩ => ⟨h1, ?_, h3⟩
  have e1 : delF [fileN n c bs sure ps, fileN tmpB c2 b2 b2.length []] tmpB = oneN n c bs sure ps := by
    unfold delF
    rw [List.filter_cons_of_pos (by simp [fileN, hne]), List.filter_cons_of_neg (by simp [fileN])]
    rfl
  rw [e1] at h2
  unfold renF at h2
  rw [if_pos (lk_other hnm c bs sure ps)] at h2
  exact h2
theorem t_remove {n m : ByteArray} {c c2 t sure : Nat} {bs b2 : List UInt8} {ps : List (Nat × Nat)} (k : DkS w base D [fileN n c bs sure ps, fileN m c2 b2 b2.length []] t ro) (hnm : n ≠ m) (hn : n.size ≤ maxLen) : Calls Tryz.prog 87 #[.pointer (some ⟨D, 0, none⟩), .string n] w fun e w' => e = .returned (.int .i64 0) ∧ DkS w' base D (oneN m c2 b2 b2.length []) t ro ∧ Ext w w' ro ro := by
  have hl : lk [fileN n c bs sure ps, fileN m c2 b2 b2.length []] n = some (fileN n c bs sure ps) := by
    unfold lk
    rw [List.find?_cons_of_pos (by simp [fileN])]
  refine (S_remove k n hn _ hl).mono fun _ _ ⟨h1, h2, h3⟩ => ⟨h1, ?_, h3⟩
  have e1 : delF [fileN n c bs sure ps, fileN m c2 b2 b2.length []] n = oneN m c2 b2 b2.length [] := by
    unfold delF
    rw [List.filter_cons_of_neg (by simp [fileN]), List.filter_cons_of_pos (by simp [fileN, Ne.symm hnm])]
    rfl
  rw [e1] at h2
  exact h2
theorem t_none {n : ByteArray} {c t sure : Nat} {bs : List UInt8} {ps : List (Nat × Nat)} (k : DkS w base D (oneN n c bs sure ps) t ro) (hne : n ≠ tmpB) : Calls Tryz.prog 87 #[.pointer (some ⟨D, 0, none⟩), .string tmpB] w fun e w' => e = .returned (.int .i64 5) ∧ w = w' :=
  S_remove_no k tmpB tmp_max (lk_other hne c bs sure ps)
/-- The names of one file, of none. -/
theorem o_files {n : ByteArray} {c t sure : Nat} {bs : List UInt8} {ps : List (Nat × Nat)} (k : DkS w base D (oneN n c bs sure ps) t ro) : Calls Tryz.prog 28 #[.pointer (some ⟨D, 0, none⟩)] w fun e w' => ∃ g cap, e = .returned (.slice (some ⟨g, 0, none⟩) 1 cap) ∧ w.heap.size ≤ g ∧ w'.cell? ⟨g, 0, none⟩ = some (.string n) ∧ Below w.heap.size w w' := by
  refine (S_files k (by simp [oneN])).mono fun e w' ⟨v, h1, acc, ss, p, cap, h2, h3, h4, h5, h6⟩ => ?_
  have ha : acc = [nmB (fileN n c bs sure ps)] := List.perm_singleton.1 h3
  have hs : ss = [nmB (fileN n c bs sure ps)] := by rw [h4, ha]; simp
  rcases h6 with h6 | ⟨g, hg, hlo, hH⟩
  · rw [hs] at h6
    cases h6
  · have hc := (hH 0 (by rw [hs]; simp)).1
    rw [hs] at hc h2
    refine ⟨g, cap, by rw [h1, h2, hg]; rfl, hlo, ?_, h5⟩
    have e2 : encStr (nmB (fileN n c bs sure ps)) = .string n := by simp [nmB, fileN]
    rw [← e2]
    exact hc
theorem o_files0 {t : Nat} (k : DkS w base D [] t ro) : Calls Tryz.prog 28 #[.pointer (some ⟨D, 0, none⟩)] w fun e w' => ∃ p cap, e = .returned (.slice p 0 cap) ∧ Below w.heap.size w w' := by
  refine (S_files k (by simp)).mono fun e w' ⟨v, h1, acc, ss, p, cap, h2, h3, h4, h5, h6⟩ => ?_
  have ha : acc = [] := h3.eq_nil
  have hs : ss = [] := by rw [h4, ha]; simp
  rw [hs] at h2
  exact ⟨p, cap, by rw [h1, h2]; rfl, h5⟩
end
end Go.Proofs.YtodnnhidljfilaaGreatDoor
