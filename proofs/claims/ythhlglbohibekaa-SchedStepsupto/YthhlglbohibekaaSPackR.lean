/-
  Parts of the proof, laid together: ScTurn, ScDid, ScLock, ScRuns, ScOnce, ScDo, ScRun, ScJoin. The conditions stand at each part.
-/
import Derived.Test.YthhlglbohibekaaSPackC
import Derived.Test.YthhlglbohibekaaSPackQ
namespace Go.Proofs.Ythhlglbohibekaa
open Go.RowKit

open Classical in
noncomputable def roTurn (ro : Nat → Option Nat) (i : Nat) (S : Nat → Prop) (b : Nat) : Option Nat := if S b then some (i + 1) else if ro b = some (i + 1) then none else ro b
section
variable {w w' : World} {base D : Nat} {ro : Nat → Option Nat} {vT vL : Value} {tv : List Tv} {od : List Nat} {T : List Tk} {L : List (Int × Ob)}
theorem zip_set_ob (od : List Nat) (L : List (Int × Ob)) (i : Nat) (o : Ob) (hi : i < L.length) (hio : i < od.length) (hk : o.k = L[i].2.k) : rowL obC (od.zip (L.set i (L[i].1, o))) = rowL obC (od.zip L) := by
  rw [zip_set_right od L i _ hio]
  unfold rowL
  rw [List.flatMap_def, List.flatMap_def, List.map_set]
  congr 1
  apply List.ext_getElem (by simp)
  intro j h1 h2
  rw [List.getElem_set]
  split
  · rename_i e
    subst e
    rw [List.getElem_map, List.getElem_zip]
    simp [obC, hk]
  · rfl
theorem SkAt.turnOb (h : SkAt w base D ro vT vL tv od T L) (i : Nat) (hi : i < L.length) (hio : i < od.length) {S' : Nat → Prop} {o : Ob} (hk : o.k = L[i].2.k) (ho : ObAt w' base od[i] S' o) (hK : Kept w w' (fun b => ro b = some (i + 1)) S') :
    SkAt w' base D (roTurn ro i S') vT vL tv od T (L.set i (L[i].1, o)) ∧ Kept w w' (fun b => ro b ≠ none) (fun b => roTurn ro i S' b ≠ none) := by
  have hro : ∀ b j, j ≠ i + 1 → ro b = some j → roTurn ro i S' b = some j := fun b j hj e => by
    unfold roTurn
    have hbl := (h.bd b (by rw [e]; simp)).2
    rw [if_neg (fun hS => by
      rcases hK.old b hS with h1 | h1
      · rw [h1] at e
        exact hj (Option.some.inj e).symm
      · omega), if_neg (fun e2 => by rw [e2] at e; exact hj (Option.some.inj e).symm)]
    exact e
  have hsame : ∀ b j, j ≠ i + 1 → ro b = some j → w'.heap[b]? = w.heap[b]? := fun b j hj e => hK.kept b (h.bd b (by rw [e]; simp)).2 (fun e2 => by rw [e2] at e; exact hj (Option.some.inj e).symm)
  have hm : ∀ {α : Type} {enc : α → List Value} {k : Nat} {E : TypeId} {v : Value} {l : List α}, Mine enc k E w ro v l → Mine enc k E w' (roTurn ro i S') v l := fun h => h.keep (fun g _ _ _ hr => ⟨hsame g 0 (by omega) hr, hro g 0 (by omega) hr⟩)
  have hoth : ∀ j, j ≠ i → (fun b => roTurn ro i S' b = some (j + 1)) = fun b => ro b = some (j + 1) := fun j hj => by
    funext b
    apply propext
    constructor
    · intro e
      unfold roTurn at e
      split at e
      · exact absurd (Option.some.inj e) (by omega)
      · split at e
        · cases e
        · exact e
    · exact fun e => hro b (j + 1) (by omega) e
  have hmine : (fun b => roTurn ro i S' b = some (i + 1)) = S' := by
    funext b
    apply propext
    unfold roTurn
    constructor
    · intro e
      split at e
      · assumption
      · split at e
        · cases e
        · rename_i h1 h2
          exact absurd e h2
    · exact fun e => if_pos e
  refine ⟨⟨(hsame D 0 (by omega) h.sD).trans h.hd, h.tl, by rw [List.length_set]; exact h.ol, hm h.ts, ?_, fun j h1 h2 => hm (h.op j h1 h2), fun j h1 h2 => hm (h.ru j h1 h2), fun j h1 h2 => ?_, hro D 0 (by omega) h.sD, fun b hb => ?_, fun b j hj => ?_⟩, ⟨hK.os, hK.tape, hK.output, hK.size, fun b hb => ?_, fun b hb hn => hK.kept b hb (fun e => hn (by rw [e]; simp))⟩⟩
  · have hm2 := hm h.os
    refine ⟨⟨?_⟩, hm2.own⟩
    have e2 : (od.zip (L.set i (L[i].1, o))).length = (od.zip L).length := by simp
    rw [zip_set_ob od L i o hi hio hk, e2]
    rcases hm2.at'.ex with ⟨h1, h2⟩ | h1
    · left
      refine ⟨h1, ?_⟩
      rw [← List.length_eq_zero_iff, e2, h2]
      rfl
    · right
      exact h1
  · rw [List.length_set] at h2
    by_cases hj : j = i
    · subst hj
      rw [hmine]
      simpa using ho
    · rw [hoth j hj]
      have := (h.ob j h1 h2).keep hK.size (fun b hb => hsame b (j + 1) (by omega) hb)
      rw [List.getElem_set_ne (fun e => hj e.symm)]
      exact this
  · unfold roTurn at hb
    split at hb
    · rename_i hS
      exact ho.bd b hS
    · split at hb
      · exact absurd rfl hb
      · exact ⟨(h.bd b hb).1, Nat.lt_of_lt_of_le (h.bd b hb).2 hK.size⟩
  · rw [List.length_set]
    unfold roTurn at hj
    split at hj
    · have := Option.some.inj hj
      omega
    · split at hj
      · cases hj
      · exact h.rb b j hj
  · unfold roTurn at hb
    split at hb
    · rename_i hS
      rcases hK.old b hS with h1 | h1
      · left
        rw [h1]
        simp
      · exact Or.inr h1
    · split at hb
      · exact absurd rfl hb
      · exact Or.inl hb
end
end Go.Proofs.Ythhlglbohibekaa
namespace Go.Proofs.Ythhlglbohibekaa
open Go.RowKit

def obG (L : List (Int × Ob)) (k num : Int) : Ob := ((obAdd L k num)[obFind L k num]?.map (·.2)).getD (obNew k)
def obPut (L : List (Int × Ob)) (k num : Int) (o : Ob) : List (Int × Ob) := (obAdd L k num).set (obFind L k num) (num, o)
theorem obG_at (L : List (Int × Ob)) (k num : Int) : (obAdd L k num)[obFind L k num]? = some (num, obG L k num) ∧ (obG L k num).k = k := by
  obtain ⟨o, h1, h2⟩ := obAdd_at L k num
  have e : obG L k num = o := by
    unfold obG
    rw [h1]
    rfl
  rw [e]
  exact ⟨h1, h2⟩
section
variable {w w' : World} {base D : Nat} {ro : Nat → Option Nat} {vT vL : Value} {tv : List Tv} {od : List Nat} {T : List Tk} {L : List (Int × Ob)} {k num : Int} {d : Nat}
theorem SkAt.obj (h : SkAt w base D ro vT vL tv od T (obAdd L k num)) (hd : od[obFind L k num]? = some d) : ObAt w base d (fun b => ro b = some (obFind L k num + 1)) (obG L k num) := by
  obtain ⟨h1, hd⟩ := List.getElem?_eq_some_iff.1 hd
  obtain ⟨h2, hx⟩ := List.getElem?_eq_some_iff.1 (obG_at L k num).1
  have := h.ob _ h1 h2
  rw [hd, hx] at this
  exact this
theorem SkAt.did (h : SkAt w base D ro vT vL tv od T (obAdd L k num)) (hd : od[obFind L k num]? = some d) {S' : Nat → Prop} {o : Ob} (hk : o.k = k) (ho : ObAt w' base d S' o) (hK : Kept w w' (fun b => ro b = some (obFind L k num + 1)) S') :
    ∃ ro', SkAt w' base D ro' vT vL tv od T (obPut L k num o) ∧ Kept w w' (fun b => ro b ≠ none) (fun b => ro' b ≠ none) ∧ ∀ u, OutOf (fun b => ro b = some (obFind L k num + 1)) w.heap.size u → ∀ bk off n cap, 0 < n → u = .slice (some ⟨bk, off, none⟩) n cap → ro' bk ≠ some 0 := by
  obtain ⟨h1, hd⟩ := List.getElem?_eq_some_iff.1 hd
  obtain ⟨h2, hx⟩ := List.getElem?_eq_some_iff.1 (obG_at L k num).1
  rw [← hd] at ho
  obtain ⟨hs, hk2⟩ := h.turnOb _ h2 h1 (by rw [hx, (obG_at L k num).2]; exact hk) ho hK
  rw [hx] at hs
  refine ⟨_, hs, hk2, fun u hu bk off n cap h0 e e0 => ?_⟩
  unfold roTurn at e0
  split at e0
  · exact absurd (Option.some.inj e0) (by omega)
  · split at e0
    · cases e0
    · rcases hu bk off n cap h0 e with h3 | h3
      · exact absurd h3 (by assumption)
      · have := (h.bd bk (by rw [e0]; simp)).2
        omega
theorem sk_obj0 (h : SkAt w base D ro vT vL tv od T L) (num : Int) (hL : L.length < 65536) : Calls Try.prog 34 #[.pointer (some ⟨D, 0, none⟩), .int .i64 0, .int .i64 num] w fun e w' => ∃ ro' vL' od' d, e = .returned (.agg #[.int .i64 0, .int .i64 num, .pointer (some ⟨d, 0, none⟩), .pointer none, .pointer none, .pointer none]) ∧ od'[obFind L 0 num]? = some d ∧ SkAt w' base D ro' vT vL' tv od' T (obAdd L 0 num) ∧ Kept w w' (fun b => ro b ≠ none) (fun b => ro' b ≠ none) :=
  (sk_object h 0 num (by decide) hL).mono (fun _ _ ⟨ro', vL', od', d, h1, h2, h3, h4⟩ => ⟨ro', vL', od', d, h2, h1, h3, h4⟩)
theorem sk_obj1 (h : SkAt w base D ro vT vL tv od T L) (num : Int) (hL : L.length < 65536) : Calls Try.prog 34 #[.pointer (some ⟨D, 0, none⟩), .int .i64 1, .int .i64 num] w fun e w' => ∃ ro' vL' od' d, e = .returned (.agg #[.int .i64 1, .int .i64 num, .pointer none, .pointer (some ⟨d, 0, none⟩), .pointer none, .pointer none]) ∧ od'[obFind L 1 num]? = some d ∧ SkAt w' base D ro' vT vL' tv od' T (obAdd L 1 num) ∧ Kept w w' (fun b => ro b ≠ none) (fun b => ro' b ≠ none) :=
  (sk_object h 1 num (by decide) hL).mono (fun _ _ ⟨ro', vL', od', d, h1, h2, h3, h4⟩ => ⟨ro', vL', od', d, h2, h1, h3, h4⟩)
theorem sk_obj2 (h : SkAt w base D ro vT vL tv od T L) (num : Int) (hL : L.length < 65536) : Calls Try.prog 34 #[.pointer (some ⟨D, 0, none⟩), .int .i64 2, .int .i64 num] w fun e w' => ∃ ro' vL' od' d, e = .returned (.agg #[.int .i64 2, .int .i64 num, .pointer none, .pointer none, .pointer (some ⟨d, 0, none⟩), .pointer none]) ∧ od'[obFind L 2 num]? = some d ∧ SkAt w' base D ro' vT vL' tv od' T (obAdd L 2 num) ∧ Kept w w' (fun b => ro b ≠ none) (fun b => ro' b ≠ none) :=
  (sk_object h 2 num (by decide) hL).mono (fun _ _ ⟨ro', vL', od', d, h1, h2, h3, h4⟩ => ⟨ro', vL', od', d, h2, h1, h3, h4⟩)
theorem sk_obj3 (h : SkAt w base D ro vT vL tv od T L) (num : Int) (hL : L.length < 65536) : Calls Try.prog 34 #[.pointer (some ⟨D, 0, none⟩), .int .i64 3, .int .i64 num] w fun e w' => ∃ ro' vL' od' d, e = .returned (.agg #[.int .i64 3, .int .i64 num, .pointer none, .pointer none, .pointer none, .pointer (some ⟨d, 0, none⟩)]) ∧ od'[obFind L 3 num]? = some d ∧ SkAt w' base D ro' vT vL' tv od' T (obAdd L 3 num) ∧ Kept w w' (fun b => ro b ≠ none) (fun b => ro' b ≠ none) :=
  (sk_object h 3 num (by decide) hL).mono (fun _ _ ⟨ro', vL', od', d, h1, h2, h3, h4⟩ => ⟨ro', vL', od', d, h2, h1, h3, h4⟩)
end
end Go.Proofs.Ythhlglbohibekaa
namespace Go.Proofs.Ythhlglbohibekaa
open Go.RowKit

def mxLk (o : Ob) (t : Int) : Ob := { o with h := lockW o.h o.l t, l := lockL o.h o.l t }
def mxUn (o : Ob) (t : Int) : Ob := { o with h := unW o.h o.l t, l := unL o.h o.l t }
def rwLk (o : Ob) (t : Int) (rd : Bool) : Ob := { o with l := (rwSt o.l o.b o.q t rd).1, b := (rwSt o.l o.b o.q t rd).2.1, q := (rwSt o.l o.b o.q t rd).2.2 }
def rwUn (o : Ob) (t : Int) (rd : Bool) : Ob := { o with l := (rwU o.l o.b o.q t rd).2.1, b := (rwU o.l o.b o.q t rd).2.2.1, q := (rwU o.l o.b o.q t rd).2.2.2 }
theorem ObAt.ofMx {w : World} {base D : Nat} {S : Nat → Prop} {o : Ob} (hk : o.k = 0) (h : MxAt w base D S o.h o.l) : ObAt w base D S o :=
  ⟨fun _ => h, fun e => absurd (hk.symm.trans e) (by decide), fun e => absurd (hk.symm.trans e) (by decide), fun e => absurd (hk.symm.trans e) (by decide), h.bd, by rw [hk]; decide⟩
theorem ObAt.ofRw {w : World} {base D : Nat} {S : Nat → Prop} {o : Ob} (hk : o.k = 1) (h : RwAt w base D S o.l o.b o.q) : ObAt w base D S o :=
  ⟨fun e => absurd (hk.symm.trans e) (by decide), fun _ => h, fun e => absurd (hk.symm.trans e) (by decide), fun e => absurd (hk.symm.trans e) (by decide), h.bd, by rw [hk]; decide⟩
theorem field_ob0 (k num : Int) (p0 p1 p2 p3 : Option Addr) (w : World) : (Instr.field 76 (.agg #[.int .i64 k, .int .i64 num, .pointer p0, .pointer p1, .pointer p2, .pointer p3]) 2).run Try.prog w = .ok (.pointer p0) w := by kernel_rfl
theorem field_ob1 (k num : Int) (p0 p1 p2 p3 : Option Addr) (w : World) : (Instr.field 76 (.agg #[.int .i64 k, .int .i64 num, .pointer p0, .pointer p1, .pointer p2, .pointer p3]) 3).run Try.prog w = .ok (.pointer p1) w := by kernel_rfl
theorem field_ob2 (k num : Int) (p0 p1 p2 p3 : Option Addr) (w : World) : (Instr.field 76 (.agg #[.int .i64 k, .int .i64 num, .pointer p0, .pointer p1, .pointer p2, .pointer p3]) 4).run Try.prog w = .ok (.pointer p2) w := by kernel_rfl
theorem field_ob3 (k num : Int) (p0 p1 p2 p3 : Option Addr) (w : World) : (Instr.field 76 (.agg #[.int .i64 k, .int .i64 num, .pointer p0, .pointer p1, .pointer p2, .pointer p3]) 5).run Try.prog w = .ok (.pointer p3) w := by kernel_rfl
section
variable {w w' : World} {base D : Nat} {ro : Nat → Option Nat} {vT vL : Value} {tv : List Tv} {od : List Nat} {T : List Tk} {L : List (Int × Ob)}
set_option maxHeartbeats 3200000 in
set_option maxRecDepth 100000 in
theorem lk_lock0 (h : SkAt w base D ro vT vL tv od T L) (t num : Int) (ht : okI t) (hL : L.length < 65536) (hl : (obG L 0 num).l.length < 65536) : Calls Try.prog 39 #[.pointer (some ⟨D, 0, none⟩), .int .i64 t, .agg #[.int .i64 1, .int .i64 num, .int .i64 0]] w fun e w' => e = .returned (.tuple #[.bool (!lockB (obG L 0 num).h (obG L 0 num).l t), .int .i64 (lockZ (obG L 0 num).h (obG L 0 num).l t)]) ∧ ∃ ro' vL' od', SkAt w' base D ro' vT vL' tv od' T (obPut L 0 num (mxLk (obG L 0 num) t)) ∧ Kept w w' (fun b => ro b ≠ none) (fun b => ro' b ≠ none) := by
  have B1 : Hid _ := (Below.refl _ w).alloc (Nat.le_refl _) (.cells #[.int .i64 1, .int .i64 num, .int .i64 0] 45)
  have HS1 : Hid _ := h.fresh B1.out
  clear h
  have hfd := field_ob0
  go_enter Try.func39, Try.ntmps39
  go_wp2_with (first
    | (go_at_call 34; refine (sk_obj0 HS1.out num hL).mono ?_; rintro e w2 ⟨ro2, vL2, od2, d, rfl, hd', h2', k2⟩; have hd : Hid _ := hd'; have h2 : Hid _ := h2'; clear hd' h2'; have hm := (h2.out.obj hd.out).mx (obG_at L 0 num).2)
    | (go_at_call 55; refine (rlock_any hm t ht.2 hl).mono ?_; rintro e w3 ⟨rfl, S3, h3, k3⟩))
  go_ret2
  obtain ⟨ro3, hs3, kk3, _⟩ := h2.out.did hd.out (o := mxLk (obG L 0 num) t) (obG_at L 0 num).2 (ObAt.ofMx (obG_at L 0 num).2 h3) k3
  exact ⟨rfl, ro3, vL2, od2, hs3, (Kept.of B1.out).trans (k2.trans kk3)⟩
set_option maxHeartbeats 3200000 in
set_option maxRecDepth 100000 in
theorem lk_un0 (h : SkAt w base D ro vT vL tv od T L) (t num : Int) (hL : L.length < 65536) (hw : unZ (obG L 0 num).h t = 0 → 0 ≤ unN (obG L 0 num).h (obG L 0 num).l t → unN (obG L 0 num).h (obG L 0 num).l t < (T.length : Int)) : Calls Try.prog 39 #[.pointer (some ⟨D, 0, none⟩), .int .i64 t, .agg #[.int .i64 2, .int .i64 num, .int .i64 0]] w fun e w' => e = .returned (.tuple #[.bool false, .int .i64 (unZ (obG L 0 num).h t)]) ∧ ∃ ro' vL' od', SkAt w' base D ro' vT vL' tv od' (if unZ (obG L 0 num).h t = 0 ∧ 0 ≤ unN (obG L 0 num).h (obG L 0 num).l t then wakeT T [unN (obG L 0 num).h (obG L 0 num).l t] else T) (obPut L 0 num (mxUn (obG L 0 num) t)) ∧ Kept w w' (fun b => ro b ≠ none) (fun b => ro' b ≠ none) := by
  have B1 : Hid _ := (Below.refl _ w).alloc (Nat.le_refl _) (.cells #[.int .i64 2, .int .i64 num, .int .i64 0] 45)
  have HS1 : Hid _ := h.fresh B1.out
  have hfd := field_ob0
  have HW : Hid _ := hw
  clear h hw
  by_cases hz : unZ (obG L 0 num).h t = 0
  · have q1 : (unZ (obG L 0 num).h t == 0) = true := beq_iff_eq.2 hz
    by_cases hn : 0 ≤ unN (obG L 0 num).h (obG L 0 num).l t
    · have q2 : decide (0 ≤ unN (obG L 0 num).h (obG L 0 num).l t) = true := decide_eq_true hn
      rw [if_pos ⟨hz, hn⟩]
      have hlt := HW.out hz hn
      have HZ : Hid _ := hz
      have HN : Hid _ := hn
      clear hz hn HW
      go_enter Try.func39, Try.ntmps39
      go_wp2_with (first
        | (go_at_call 36; refine (sk_wake (l := [unN (obG L 0 num).h (obG L 0 num).l t]) (hs3.out.fresh ((Below.refl _ w3).alloc (Nat.le_refl _) _)) (RowAt.built (heap_alloc_new w3 _) rfl 1 rfl rfl) (by simp) (fun x hx => by rw [List.mem_singleton.1 hx]; exact ⟨HN.out, hlt⟩) (fun bk off n cap _ e e0 => by cases e; have := (hs3.out.bd _ (by rw [e0]; simp)).2; omega)).mono ?_; rintro e w5 ⟨rfl, h5, k5⟩)
        | (go_at_call 34; refine (sk_obj0 HS1.out num hL).mono ?_; rintro e w2 ⟨ro2, vL2, od2, d, rfl, hd', h2', k2⟩; have hd : Hid _ := hd'; have h2 : Hid _ := h2'; clear hd' h2'; have hm := (h2.out.obj hd.out).mx (obG_at L 0 num).2)
        | (go_at_call 57; refine (runlock_any hm t).mono ?_; rintro e w3 ⟨rfl, S3, h3, k3⟩; obtain ⟨ro3, hs3', kk3, hn3⟩ := h2.out.did hd.out (o := mxUn (obG L 0 num) t) (obG_at L 0 num).2 (ObAt.ofMx (obG_at L 0 num).2 h3) k3; have hs3 : Hid _ := hs3'; clear hs3' hn3 h3 k3 hm))
      go_ret2
      exact ⟨rfl, ro3, vL2, od2, h5, (Kept.of B1.out).trans (k2.trans (kk3.trans ((Kept.of ((Below.refl _ w3).alloc (Nat.le_refl _) _)).trans k5)))⟩
    · have q2 : decide (0 ≤ unN (obG L 0 num).h (obG L 0 num).l t) = false := decide_eq_false hn
      rw [if_neg (fun e => hn e.2)]
      clear hz hn HW
      go_enter Try.func39, Try.ntmps39
      go_wp2_with (first
        | (go_at_call 34; refine (sk_obj0 HS1.out num hL).mono ?_; rintro e w2 ⟨ro2, vL2, od2, d, rfl, hd', h2', k2⟩; have hd : Hid _ := hd'; have h2 : Hid _ := h2'; clear hd' h2'; have hm := (h2.out.obj hd.out).mx (obG_at L 0 num).2)
        | (go_at_call 57; refine (runlock_any hm t).mono ?_; rintro e w3 ⟨rfl, S3, h3, k3⟩; obtain ⟨ro3, hs3', kk3, hn3⟩ := h2.out.did hd.out (o := mxUn (obG L 0 num) t) (obG_at L 0 num).2 (ObAt.ofMx (obG_at L 0 num).2 h3) k3; have hs3 : Hid _ := hs3'; clear hs3' hn3 h3 k3 hm))
      go_ret2
      exact ⟨rfl, ro3, vL2, od2, hs3.out, (Kept.of B1.out).trans (k2.trans kk3)⟩
  · have q1 : (unZ (obG L 0 num).h t == 0) = false := beq_eq_false_iff_ne.2 hz
    rw [if_neg (fun e => hz e.1)]
    clear hz HW
    go_enter Try.func39, Try.ntmps39
    go_wp2_with (first
      | (go_at_call 34; refine (sk_obj0 HS1.out num hL).mono ?_; rintro e w2 ⟨ro2, vL2, od2, d, rfl, hd', h2', k2⟩; have hd : Hid _ := hd'; have h2 : Hid _ := h2'; clear hd' h2'; have hm := (h2.out.obj hd.out).mx (obG_at L 0 num).2)
      | (go_at_call 57; refine (runlock_any hm t).mono ?_; rintro e w3 ⟨rfl, S3, h3, k3⟩; obtain ⟨ro3, hs3', kk3, hn3⟩ := h2.out.did hd.out (o := mxUn (obG L 0 num) t) (obG_at L 0 num).2 (ObAt.ofMx (obG_at L 0 num).2 h3) k3; have hs3 : Hid _ := hs3'; clear hs3' hn3 h3 k3 hm))
    go_ret2
    exact ⟨rfl, ro3, vL2, od2, hs3.out, (Kept.of B1.out).trans (k2.trans kk3)⟩
set_option maxHeartbeats 3200000 in
set_option maxRecDepth 100000 in
theorem lk_err1 (h : SkAt w base D ro vT vL tv od T L) (t num N : Int) (h0 : N ≠ 0) (h1 : N ≠ 1) : Calls Try.prog 39 #[.pointer (some ⟨D, 0, none⟩), .int .i64 t, .agg #[.int .i64 1, .int .i64 num, .int .i64 N]] w fun e w' => e = .returned (.tuple #[.bool false, .int .i64 1]) ∧ SkAt w' base D ro vT vL tv od T L ∧ Below w.heap.size w w' := by
  have B1 : Hid _ := (Below.refl _ w).alloc (Nat.le_refl _) (.cells #[.int .i64 1, .int .i64 num, .int .i64 N] 45)
  have HS1 : Hid _ := h.fresh B1.out
  have q0 : (N == 0) = false := beq_eq_false_iff_ne.2 h0
  have q1 : (N == 1) = false := beq_eq_false_iff_ne.2 h1
  clear h h0 h1
  go_enter Try.func39, Try.ntmps39
  go_wp2
  go_ret2
  exact ⟨rfl, HS1.out, B1.out⟩
set_option maxHeartbeats 3200000 in
set_option maxRecDepth 100000 in
theorem lk_err2 (h : SkAt w base D ro vT vL tv od T L) (t num N : Int) (h0 : N ≠ 0) (h1 : N ≠ 1) : Calls Try.prog 39 #[.pointer (some ⟨D, 0, none⟩), .int .i64 t, .agg #[.int .i64 2, .int .i64 num, .int .i64 N]] w fun e w' => e = .returned (.tuple #[.bool false, .int .i64 1]) ∧ SkAt w' base D ro vT vL tv od T L ∧ Below w.heap.size w w' := by
  have B1 : Hid _ := (Below.refl _ w).alloc (Nat.le_refl _) (.cells #[.int .i64 2, .int .i64 num, .int .i64 N] 45)
  have HS1 : Hid _ := h.fresh B1.out
  have q0 : (N == 0) = false := beq_eq_false_iff_ne.2 h0
  have q1 : (N == 1) = false := beq_eq_false_iff_ne.2 h1
  clear h h0 h1
  go_enter Try.func39, Try.ntmps39
  go_wp2
  go_ret2
  exact ⟨rfl, HS1.out, B1.out⟩
set_option maxHeartbeats 3200000 in
set_option maxRecDepth 100000 in
theorem lk_errK (h : SkAt w base D ro vT vL tv od T L) (t num K N : Int) (h1 : K ≠ 1) (h2 : K ≠ 2) (h3 : K ≠ 3) (h4 : K ≠ 4) : Calls Try.prog 39 #[.pointer (some ⟨D, 0, none⟩), .int .i64 t, .agg #[.int .i64 K, .int .i64 num, .int .i64 N]] w fun e w' => e = .returned (.tuple #[.bool false, .int .i64 1]) ∧ SkAt w' base D ro vT vL tv od T L ∧ Below w.heap.size w w' := by
  have B1 : Hid _ := (Below.refl _ w).alloc (Nat.le_refl _) (.cells #[.int .i64 K, .int .i64 num, .int .i64 N] 45)
  have HS1 : Hid _ := h.fresh B1.out
  have q1 : (K == 1) = false := beq_eq_false_iff_ne.2 h1
  have q2 : (K == 2) = false := beq_eq_false_iff_ne.2 h2
  have q3 : (K == 3) = false := beq_eq_false_iff_ne.2 h3
  have q4 : (K == 4) = false := beq_eq_false_iff_ne.2 h4
  clear h h1 h2 h3 h4
  go_enter Try.func39, Try.ntmps39
  go_wp2
  go_ret2
  exact ⟨rfl, HS1.out, B1.out⟩
set_option maxHeartbeats 3200000 in
set_option maxRecDepth 100000 in
theorem lk_lock1 (h : SkAt w base D ro vT vL tv od T L) (t num : Int) (hL : L.length < 65536) (hN : (obG L 1 num).l.length + (obG L 1 num).q.length < 65536) (ht : okI t) : Calls Try.prog 39 #[.pointer (some ⟨D, 0, none⟩), .int .i64 t, .agg #[.int .i64 1, .int .i64 num, .int .i64 1]] w fun e w' => e = .returned (.tuple #[.bool (!rwB (obG L 1 num).l (obG L 1 num).b (obG L 1 num).q t false), .int .i64 (rwZ (obG L 1 num).l (obG L 1 num).q t)]) ∧ ∃ ro' vL' od', SkAt w' base D ro' vT vL' tv od' T (obPut L 1 num (rwLk (obG L 1 num) t false)) ∧ Kept w w' (fun b => ro b ≠ none) (fun b => ro' b ≠ none) := by
  have B1 : Hid _ := (Below.refl _ w).alloc (Nat.le_refl _) (.cells #[.int .i64 1, .int .i64 num, .int .i64 1] 45)
  have HS1 : Hid _ := h.fresh B1.out
  have hbd := h.bd
  have hfd := field_ob1
  have HS2 : Hid (SkAt (w.alloc (.cells #[.int .i64 1, .int .i64 num, .int .i64 1] 45)).drew base D ro vT vL tv od T L) := HS1.out.keep (Nat.le_refl _) (fun _ _ => rfl)
  have HX : Hid ((w.alloc (.cells #[.int .i64 1, .int .i64 num, .int .i64 1] 45)).drew.heap[w.heap.size]? = some (.cells #[.int .i64 1, .int .i64 num, .int .i64 1] 45 (0, 0))) := heap_alloc_new w _
  have HK : Hid (∀ (w2 : World) (ro2 : Nat → Option Nat), Kept (w.alloc (.cells #[.int .i64 1, .int .i64 num, .int .i64 1] 45)).drew w2 (fun b => ro b ≠ none) (fun b => ro2 b ≠ none) → w2.heap[w.heap.size]? = some (.cells #[.int .i64 1, .int .i64 num, .int .i64 1] 45 (0, 0)) ∧ w.heap.size < w2.heap.size ∧ ¬ ro2 w.heap.size ≠ none) := fun w2 ro2 k2 => by
    have hs := k2.size
    have hs' : w.heap.size < w2.heap.size := by
      have : (w.alloc (.cells #[.int .i64 1, .int .i64 num, .int .i64 1] 45)).drew.heap.size = w.heap.size + 1 := by simp
      omega
    refine ⟨(k2.kept _ (by simp) (fun e => by have := (hbd _ e).2; omega)).trans HX.out, hs', fun e => ?_⟩
    rcases k2.old _ e with h1 | h1
    · have := (hbd _ h1).2
      omega
    · have : (w.alloc (.cells #[.int .i64 1, .int .i64 num, .int .i64 1] 45)).drew.heap.size = w.heap.size + 1 := by simp
      omega
  have KX0 : Hid (∀ w' : World, w'.heap[w.heap.size]? = some (.cells #[.int .i64 1, .int .i64 num, .int .i64 1] 45 (0, 0)) → w'.cell? ⟨w.heap.size, 0, none⟩ = some (.int .i64 1)) := fun w' e => by simp [World.cell?, e]
  have KX1 : Hid (∀ w' : World, w'.heap[w.heap.size]? = some (.cells #[.int .i64 1, .int .i64 num, .int .i64 1] 45 (0, 0)) → w'.cell? ⟨w.heap.size, 1, none⟩ = some (.int .i64 num)) := fun w' e => by simp [World.cell?, e]
  clear h hbd HS1
  go_enter Try.func39, Try.ntmps39
  go_wp2
  refine wp_region_held_drew (S := (fun w' : World => w'.heap[w.heap.size]? = some (.cells #[.int .i64 1, .int .i64 num, .int .i64 1] 45 (0, 0)))) (by kernel_rfl) ?_ (fun hHeld0 => ?_)
  · exact HX.out
  refine tk0 (.pointer (some ⟨D, 0, none⟩)) ?_
  try simp only [Act.put, pu1, pu2, pu3]
  refine tk1 (.pointer (some ⟨w.heap.size, 1, none⟩)) ?_
  try simp only [Act.put, pu1, pu2, pu3]
  refine tk2 (.int .i64 num) ?_ (fun w hSw => by (try dsimp only at hSw); have x1 := KX1.out w hSw; clear hSw; go_simp)
  try simp only [Act.put, pu1, pu2, pu3]
  refine tk5 (.int .i64 t) ?_
  try simp only [Act.put, pu1, pu2, pu3]
  refine tk6 (.pointer (some ⟨w.heap.size, 0, none⟩)) ?_
  try simp only [Act.put, pu1, pu2, pu3]
  refine tk7 (.int .i64 1) ?_ (fun w hSw => by (try dsimp only at hSw); have x0 := KX0.out w hSw; clear hSw; go_simp)
  try simp only [Act.put, pu1, pu2, pu3]
  refine tk8 (.bool false) ?_
  try simp only [Act.put, pu1, pu2, pu3]
  refine cl3 (by kernel_rfl) rfl (fun K hK => ?_)
  go_simp
  go_at_call 34
  refine (sk_obj1 HS2.out num hL).mono ?_
  rintro e w2 ⟨ro2, vL2, od2, d, rfl, hd', h2', k2⟩
  have hd : Hid _ := hd'
  have h2 : Hid _ := h2'
  clear hd' h2'
  have hm := (h2.out.obj hd.out).rw (obG_at L 1 num).2
  have hX2 := HK.out w2 ro2 k2
  refine hK.out _ _ ?_ (fun hHeld => ?_)
  · exact hX2.1
  clear hK K
  try simp only [Act.put, pu1, pu2, pu3]
  refine tk4 (.pointer (some ⟨d, 0, none⟩)) ?_
  try simp only [Act.put, pu1, pu2, pu3]
  refine cl9 (by kernel_rfl) rfl (fun K hK => ?_)
  go_simp
  go_at_call 56
  refine (rwlock_any hm t ht false (by omega) (by omega)).mono ?_
  rintro e w3 ⟨rfl, S3, h3, k3⟩
  obtain ⟨ro3, hs3', kk3, _⟩ := h2.out.did hd.out (o := rwLk (obG L 1 num) t false) (obG_at L 1 num).2 (ObAt.ofRw (obG_at L 1 num).2 h3) k3
  have hs3 : Hid _ := hs3'
  have hX3 : w3.heap[w.heap.size]? = _ := (k3.kept _ hX2.2.1 (fun e => hX2.2.2 (by rw [e]; simp))).trans hX2.1
  clear hs3' h3 k3 hm
  refine hK.out _ _ ?_ (fun hHeld => ?_)
  · exact hX3
  clear hK K
  try simp only [Act.put, pu1, pu2, pu3]
  refine tk10 (.tuple #[.bool (rwB (obG L 1 num).l (obG L 1 num).b (obG L 1 num).q t false), .int .i64 (rwZ (obG L 1 num).l (obG L 1 num).q t)]) ?_
  try simp only [Act.put, pu1, pu2, pu3]
  refine tk11 (.bool (rwB (obG L 1 num).l (obG L 1 num).b (obG L 1 num).q t false)) ?_
  try simp only [Act.put, pu1, pu2, pu3]
  refine tk12 (.int .i64 (rwZ (obG L 1 num).l (obG L 1 num).q t)) ?_
  try simp only [Act.put, pu1, pu2, pu3]
  refine tk13 (.bool (rwB (obG L 1 num).l (obG L 1 num).b (obG L 1 num).q t false)) ?_
  try simp only [Act.put, pu1, pu2, pu3]
  refine tk14 (.int .i64 (rwZ (obG L 1 num).l (obG L 1 num).q t)) ?_
  try simp only [Act.put, pu1, pu2, pu3]
  refine wpAnyH_done (by kernel_rfl) ?_ _
  clear hHeld hX2 hX3
  go_wp2
  go_ret2
  exact ⟨rfl, ro3, vL2, od2, hs3.out, (Kept.of B1.out.drew).trans (k2.trans kk3)⟩
set_option maxHeartbeats 3200000 in
set_option maxRecDepth 100000 in
theorem lk_rlock (h : SkAt w base D ro vT vL tv od T L) (t num N : Int) (hL : L.length < 65536) (hN : (obG L 1 num).l.length + (obG L 1 num).q.length < 65536) (ht : okI t) : Calls Try.prog 39 #[.pointer (some ⟨D, 0, none⟩), .int .i64 t, .agg #[.int .i64 3, .int .i64 num, .int .i64 N]] w fun e w' => e = .returned (.tuple #[.bool (!rwB (obG L 1 num).l (obG L 1 num).b (obG L 1 num).q t true), .int .i64 (rwZ (obG L 1 num).l (obG L 1 num).q t)]) ∧ ∃ ro' vL' od', SkAt w' base D ro' vT vL' tv od' T (obPut L 1 num (rwLk (obG L 1 num) t true)) ∧ Kept w w' (fun b => ro b ≠ none) (fun b => ro' b ≠ none) := by
  have B1 : Hid _ := (Below.refl _ w).alloc (Nat.le_refl _) (.cells #[.int .i64 3, .int .i64 num, .int .i64 N] 45)
  have HS1 : Hid _ := h.fresh B1.out
  have hbd := h.bd
  have hfd := field_ob1
  have HS2 : Hid (SkAt (w.alloc (.cells #[.int .i64 3, .int .i64 num, .int .i64 N] 45)).drew base D ro vT vL tv od T L) := HS1.out.keep (Nat.le_refl _) (fun _ _ => rfl)
  have HX : Hid ((w.alloc (.cells #[.int .i64 3, .int .i64 num, .int .i64 N] 45)).drew.heap[w.heap.size]? = some (.cells #[.int .i64 3, .int .i64 num, .int .i64 N] 45 (0, 0))) := heap_alloc_new w _
  have HK : Hid (∀ (w2 : World) (ro2 : Nat → Option Nat), Kept (w.alloc (.cells #[.int .i64 3, .int .i64 num, .int .i64 N] 45)).drew w2 (fun b => ro b ≠ none) (fun b => ro2 b ≠ none) → w2.heap[w.heap.size]? = some (.cells #[.int .i64 3, .int .i64 num, .int .i64 N] 45 (0, 0)) ∧ w.heap.size < w2.heap.size ∧ ¬ ro2 w.heap.size ≠ none) := fun w2 ro2 k2 => by
    have hs := k2.size
    have hs' : w.heap.size < w2.heap.size := by
      have : (w.alloc (.cells #[.int .i64 3, .int .i64 num, .int .i64 N] 45)).drew.heap.size = w.heap.size + 1 := by simp
      omega
    refine ⟨(k2.kept _ (by simp) (fun e => by have := (hbd _ e).2; omega)).trans HX.out, hs', fun e => ?_⟩
    rcases k2.old _ e with h1 | h1
    · have := (hbd _ h1).2
      omega
    · have : (w.alloc (.cells #[.int .i64 3, .int .i64 num, .int .i64 N] 45)).drew.heap.size = w.heap.size + 1 := by simp
      omega
  have KX0 : Hid (∀ w' : World, w'.heap[w.heap.size]? = some (.cells #[.int .i64 3, .int .i64 num, .int .i64 N] 45 (0, 0)) → w'.cell? ⟨w.heap.size, 0, none⟩ = some (.int .i64 3)) := fun w' e => by simp [World.cell?, e]
  have KX1 : Hid (∀ w' : World, w'.heap[w.heap.size]? = some (.cells #[.int .i64 3, .int .i64 num, .int .i64 N] 45 (0, 0)) → w'.cell? ⟨w.heap.size, 1, none⟩ = some (.int .i64 num)) := fun w' e => by simp [World.cell?, e]
  clear h hbd HS1
  go_enter Try.func39, Try.ntmps39
  go_wp2
  refine wp_region_held_drew (S := (fun w' : World => w'.heap[w.heap.size]? = some (.cells #[.int .i64 3, .int .i64 num, .int .i64 N] 45 (0, 0)))) (by kernel_rfl) ?_ (fun hHeld0 => ?_)
  · exact HX.out
  refine tk0 (.pointer (some ⟨D, 0, none⟩)) ?_
  try simp only [Act.put, pu1, pu2, pu3]
  refine tk1 (.pointer (some ⟨w.heap.size, 1, none⟩)) ?_
  try simp only [Act.put, pu1, pu2, pu3]
  refine tk2 (.int .i64 num) ?_ (fun w hSw => by (try dsimp only at hSw); have x1 := KX1.out w hSw; clear hSw; go_simp)
  try simp only [Act.put, pu1, pu2, pu3]
  refine tk5 (.int .i64 t) ?_
  try simp only [Act.put, pu1, pu2, pu3]
  refine tk6 (.pointer (some ⟨w.heap.size, 0, none⟩)) ?_
  try simp only [Act.put, pu1, pu2, pu3]
  refine tk7 (.int .i64 3) ?_ (fun w hSw => by (try dsimp only at hSw); have x0 := KX0.out w hSw; clear hSw; go_simp)
  try simp only [Act.put, pu1, pu2, pu3]
  refine tk8 (.bool true) ?_
  try simp only [Act.put, pu1, pu2, pu3]
  refine cl3 (by kernel_rfl) rfl (fun K hK => ?_)
  go_simp
  go_at_call 34
  refine (sk_obj1 HS2.out num hL).mono ?_
  rintro e w2 ⟨ro2, vL2, od2, d, rfl, hd', h2', k2⟩
  have hd : Hid _ := hd'
  have h2 : Hid _ := h2'
  clear hd' h2'
  have hm := (h2.out.obj hd.out).rw (obG_at L 1 num).2
  have hX2 := HK.out w2 ro2 k2
  refine hK.out _ _ ?_ (fun hHeld => ?_)
  · exact hX2.1
  clear hK K
  try simp only [Act.put, pu1, pu2, pu3]
  refine tk4 (.pointer (some ⟨d, 0, none⟩)) ?_
  try simp only [Act.put, pu1, pu2, pu3]
  refine cl9 (by kernel_rfl) rfl (fun K hK => ?_)
  go_simp
  go_at_call 56
  refine (rwlock_any hm t ht true (by omega) (by omega)).mono ?_
  rintro e w3 ⟨rfl, S3, h3, k3⟩
  obtain ⟨ro3, hs3', kk3, _⟩ := h2.out.did hd.out (o := rwLk (obG L 1 num) t true) (obG_at L 1 num).2 (ObAt.ofRw (obG_at L 1 num).2 h3) k3
  have hs3 : Hid _ := hs3'
  have hX3 : w3.heap[w.heap.size]? = _ := (k3.kept _ hX2.2.1 (fun e => hX2.2.2 (by rw [e]; simp))).trans hX2.1
  clear hs3' h3 k3 hm
  refine hK.out _ _ ?_ (fun hHeld => ?_)
  · exact hX3
  clear hK K
  try simp only [Act.put, pu1, pu2, pu3]
  refine tk10 (.tuple #[.bool (rwB (obG L 1 num).l (obG L 1 num).b (obG L 1 num).q t true), .int .i64 (rwZ (obG L 1 num).l (obG L 1 num).q t)]) ?_
  try simp only [Act.put, pu1, pu2, pu3]
  refine tk11 (.bool (rwB (obG L 1 num).l (obG L 1 num).b (obG L 1 num).q t true)) ?_
  try simp only [Act.put, pu1, pu2, pu3]
  refine tk12 (.int .i64 (rwZ (obG L 1 num).l (obG L 1 num).q t)) ?_
  try simp only [Act.put, pu1, pu2, pu3]
  refine tk13 (.bool (rwB (obG L 1 num).l (obG L 1 num).b (obG L 1 num).q t true)) ?_
  try simp only [Act.put, pu1, pu2, pu3]
  refine tk14 (.int .i64 (rwZ (obG L 1 num).l (obG L 1 num).q t)) ?_
  try simp only [Act.put, pu1, pu2, pu3]
  refine wpAnyH_done (by kernel_rfl) ?_ _
  clear hHeld hX2 hX3
  go_wp2
  go_ret2
  exact ⟨rfl, ro3, vL2, od2, hs3.out, (Kept.of B1.out.drew).trans (k2.trans kk3)⟩
set_option maxHeartbeats 3200000 in
set_option maxRecDepth 100000 in
theorem lk_un1 (h : SkAt w base D ro vT vL tv od T L) (t num : Int) (hL : L.length < 65536) (hN : (obG L 1 num).l.length + (obG L 1 num).q.length < 65536) (hw : (rwU (obG L 1 num).l (obG L 1 num).b (obG L 1 num).q t false).1.length ≤ 65536 ∧ ∀ x ∈ (rwU (obG L 1 num).l (obG L 1 num).b (obG L 1 num).q t false).1, 0 ≤ x ∧ x < (T.length : Int)) : Calls Try.prog 39 #[.pointer (some ⟨D, 0, none⟩), .int .i64 t, .agg #[.int .i64 2, .int .i64 num, .int .i64 1]] w fun e w' => e = .returned (.tuple #[.bool false, .int .i64 (rwUZ (obG L 1 num).l (obG L 1 num).b t false)]) ∧ ∃ ro' vL' od', SkAt w' base D ro' vT vL' tv od' (wakeT T (rwU (obG L 1 num).l (obG L 1 num).b (obG L 1 num).q t false).1) (obPut L 1 num (rwUn (obG L 1 num) t false)) ∧ Kept w w' (fun b => ro b ≠ none) (fun b => ro' b ≠ none) := by
  have B1 : Hid _ := (Below.refl _ w).alloc (Nat.le_refl _) (.cells #[.int .i64 2, .int .i64 num, .int .i64 1] 45)
  have HS1 : Hid _ := h.fresh B1.out
  have hbd := h.bd
  have hfd := field_ob1
  have HS2 : Hid (SkAt (w.alloc (.cells #[.int .i64 2, .int .i64 num, .int .i64 1] 45)).drew base D ro vT vL tv od T L) := HS1.out.keep (Nat.le_refl _) (fun _ _ => rfl)
  have HX : Hid ((w.alloc (.cells #[.int .i64 2, .int .i64 num, .int .i64 1] 45)).drew.heap[w.heap.size]? = some (.cells #[.int .i64 2, .int .i64 num, .int .i64 1] 45 (0, 0))) := heap_alloc_new w _
  have HK : Hid (∀ (w2 : World) (ro2 : Nat → Option Nat), Kept (w.alloc (.cells #[.int .i64 2, .int .i64 num, .int .i64 1] 45)).drew w2 (fun b => ro b ≠ none) (fun b => ro2 b ≠ none) → w2.heap[w.heap.size]? = some (.cells #[.int .i64 2, .int .i64 num, .int .i64 1] 45 (0, 0)) ∧ w.heap.size < w2.heap.size ∧ ¬ ro2 w.heap.size ≠ none) := fun w2 ro2 k2 => by
    have hs := k2.size
    have hs' : w.heap.size < w2.heap.size := by
      have : (w.alloc (.cells #[.int .i64 2, .int .i64 num, .int .i64 1] 45)).drew.heap.size = w.heap.size + 1 := by simp
      omega
    refine ⟨(k2.kept _ (by simp) (fun e => by have := (hbd _ e).2; omega)).trans HX.out, hs', fun e => ?_⟩
    rcases k2.old _ e with h1 | h1
    · have := (hbd _ h1).2
      omega
    · have : (w.alloc (.cells #[.int .i64 2, .int .i64 num, .int .i64 1] 45)).drew.heap.size = w.heap.size + 1 := by simp
      omega
  have KX0 : Hid (∀ w' : World, w'.heap[w.heap.size]? = some (.cells #[.int .i64 2, .int .i64 num, .int .i64 1] 45 (0, 0)) → w'.cell? ⟨w.heap.size, 0, none⟩ = some (.int .i64 2)) := fun w' e => by simp [World.cell?, e]
  have KX1 : Hid (∀ w' : World, w'.heap[w.heap.size]? = some (.cells #[.int .i64 2, .int .i64 num, .int .i64 1] 45 (0, 0)) → w'.cell? ⟨w.heap.size, 1, none⟩ = some (.int .i64 num)) := fun w' e => by simp [World.cell?, e]
  have hW : Hid _ := hw
  clear hw
  clear h hbd HS1
  go_enter Try.func39, Try.ntmps39
  go_wp2
  refine wp_region_held_drew (S := (fun w' : World => w'.heap[w.heap.size]? = some (.cells #[.int .i64 2, .int .i64 num, .int .i64 1] 45 (0, 0)))) (by kernel_rfl) ?_ (fun hHeld0 => ?_)
  · exact HX.out
  refine tk0 (.pointer (some ⟨D, 0, none⟩)) ?_
  try simp only [Act.put, pu1, pu2, pu3]
  refine tk1 (.pointer (some ⟨w.heap.size, 1, none⟩)) ?_
  try simp only [Act.put, pu1, pu2, pu3]
  refine tk2 (.int .i64 num) ?_ (fun w hSw => by (try dsimp only at hSw); have x1 := KX1.out w hSw; clear hSw; go_simp)
  try simp only [Act.put, pu1, pu2, pu3]
  refine tk5 (.int .i64 t) ?_
  try simp only [Act.put, pu1, pu2, pu3]
  refine tk6 (.pointer (some ⟨w.heap.size, 0, none⟩)) ?_
  try simp only [Act.put, pu1, pu2, pu3]
  refine tk7 (.int .i64 2) ?_ (fun w hSw => by (try dsimp only at hSw); have x0 := KX0.out w hSw; clear hSw; go_simp)
  try simp only [Act.put, pu1, pu2, pu3]
  refine tk8 (.bool false) ?_
  try simp only [Act.put, pu1, pu2, pu3]
  refine cl3 (by kernel_rfl) rfl (fun K hK => ?_)
  go_simp
  go_at_call 34
  refine (sk_obj1 HS2.out num hL).mono ?_
  rintro e w2 ⟨ro2, vL2, od2, d, rfl, hd', h2', k2⟩
  have hd : Hid _ := hd'
  have h2 : Hid _ := h2'
  clear hd' h2'
  have hm := (h2.out.obj hd.out).rw (obG_at L 1 num).2
  have hX2 := HK.out w2 ro2 k2
  refine hK.out _ _ ?_ (fun hHeld => ?_)
  · exact hX2.1
  clear hK K
  try simp only [Act.put, pu1, pu2, pu3]
  refine tk4 (.pointer (some ⟨d, 0, none⟩)) ?_
  try simp only [Act.put, pu1, pu2, pu3]
  refine cl9 (by kernel_rfl) rfl (fun K hK => ?_)
  go_simp
  go_at_call 58
  refine (rwunlock_out hm t false hN).mono ?_
  rintro e w3 ⟨u4, rfl, ⟨hrow, hout⟩, S3, h3, k3⟩
  obtain ⟨ro3, hs3', kk3, hn3'⟩ := h2.out.did hd.out (o := rwUn (obG L 1 num) t false) (obG_at L 1 num).2 (ObAt.ofRw (obG_at L 1 num).2 h3) k3
  have hn3 : Hid _ := hn3' u4 hout
  clear hn3' hout
  have hs3 : Hid _ := hs3'
  have hX3 : w3.heap[w.heap.size]? = _ := (k3.kept _ hX2.2.1 (fun e => hX2.2.2 (by rw [e]; simp))).trans hX2.1
  clear hs3' h3 k3 hm
  refine hK.out _ _ ?_ (fun hHeld => ?_)
  · exact hX3
  clear hK K
  try simp only [Act.put, pu1, pu2, pu3]
  refine tk10 (.tuple #[u4, .int .i64 (rwUZ (obG L 1 num).l (obG L 1 num).b t false)]) ?_
  try simp only [Act.put, pu1, pu2, pu3]
  refine tk11 (u4) ?_
  try simp only [Act.put, pu1, pu2, pu3]
  refine tk12 (.int .i64 (rwUZ (obG L 1 num).l (obG L 1 num).b t false)) ?_
  try simp only [Act.put, pu1, pu2, pu3]
  refine tk13 (u4) ?_
  try simp only [Act.put, pu1, pu2, pu3]
  refine tk14 (.int .i64 (rwUZ (obG L 1 num).l (obG L 1 num).b t false)) ?_
  try simp only [Act.put, pu1, pu2, pu3]
  refine wpAnyH_done (by kernel_rfl) ?_ _
  clear hHeld hX2 hX3
  go_wp2_with (go_at_call 36; refine (sk_wake hs3.out hrow (hW.out.1) (hW.out.2) hn3.out).mono ?_; rintro e w5 ⟨rfl, h5, k5⟩)
  go_ret2
  exact ⟨rfl, ro3, vL2, od2, h5, (Kept.of B1.out.drew).trans (k2.trans (kk3.trans k5))⟩
set_option maxHeartbeats 3200000 in
set_option maxRecDepth 100000 in
theorem lk_run (h : SkAt w base D ro vT vL tv od T L) (t num N : Int) (hL : L.length < 65536) (hN : (obG L 1 num).l.length + (obG L 1 num).q.length < 65536) (hw : (rwU (obG L 1 num).l (obG L 1 num).b (obG L 1 num).q t true).1.length ≤ 65536 ∧ ∀ x ∈ (rwU (obG L 1 num).l (obG L 1 num).b (obG L 1 num).q t true).1, 0 ≤ x ∧ x < (T.length : Int)) : Calls Try.prog 39 #[.pointer (some ⟨D, 0, none⟩), .int .i64 t, .agg #[.int .i64 4, .int .i64 num, .int .i64 N]] w fun e w' => e = .returned (.tuple #[.bool false, .int .i64 (rwUZ (obG L 1 num).l (obG L 1 num).b t true)]) ∧ ∃ ro' vL' od', SkAt w' base D ro' vT vL' tv od' (wakeT T (rwU (obG L 1 num).l (obG L 1 num).b (obG L 1 num).q t true).1) (obPut L 1 num (rwUn (obG L 1 num) t true)) ∧ Kept w w' (fun b => ro b ≠ none) (fun b => ro' b ≠ none) := by
  have B1 : Hid _ := (Below.refl _ w).alloc (Nat.le_refl _) (.cells #[.int .i64 4, .int .i64 num, .int .i64 N] 45)
  have HS1 : Hid _ := h.fresh B1.out
  have hbd := h.bd
  have hfd := field_ob1
  have HS2 : Hid (SkAt (w.alloc (.cells #[.int .i64 4, .int .i64 num, .int .i64 N] 45)).drew base D ro vT vL tv od T L) := HS1.out.keep (Nat.le_refl _) (fun _ _ => rfl)
  have HX : Hid ((w.alloc (.cells #[.int .i64 4, .int .i64 num, .int .i64 N] 45)).drew.heap[w.heap.size]? = some (.cells #[.int .i64 4, .int .i64 num, .int .i64 N] 45 (0, 0))) := heap_alloc_new w _
  have HK : Hid (∀ (w2 : World) (ro2 : Nat → Option Nat), Kept (w.alloc (.cells #[.int .i64 4, .int .i64 num, .int .i64 N] 45)).drew w2 (fun b => ro b ≠ none) (fun b => ro2 b ≠ none) → w2.heap[w.heap.size]? = some (.cells #[.int .i64 4, .int .i64 num, .int .i64 N] 45 (0, 0)) ∧ w.heap.size < w2.heap.size ∧ ¬ ro2 w.heap.size ≠ none) := fun w2 ro2 k2 => by
    have hs := k2.size
    have hs' : w.heap.size < w2.heap.size := by
      have : (w.alloc (.cells #[.int .i64 4, .int .i64 num, .int .i64 N] 45)).drew.heap.size = w.heap.size + 1 := by simp
      omega
    refine ⟨(k2.kept _ (by simp) (fun e => by have := (hbd _ e).2; omega)).trans HX.out, hs', fun e => ?_⟩
    rcases k2.old _ e with h1 | h1
    · have := (hbd _ h1).2
      omega
    · have : (w.alloc (.cells #[.int .i64 4, .int .i64 num, .int .i64 N] 45)).drew.heap.size = w.heap.size + 1 := by simp
      omega
  have KX0 : Hid (∀ w' : World, w'.heap[w.heap.size]? = some (.cells #[.int .i64 4, .int .i64 num, .int .i64 N] 45 (0, 0)) → w'.cell? ⟨w.heap.size, 0, none⟩ = some (.int .i64 4)) := fun w' e => by simp [World.cell?, e]
  have KX1 : Hid (∀ w' : World, w'.heap[w.heap.size]? = some (.cells #[.int .i64 4, .int .i64 num, .int .i64 N] 45 (0, 0)) → w'.cell? ⟨w.heap.size, 1, none⟩ = some (.int .i64 num)) := fun w' e => by simp [World.cell?, e]
  have hW : Hid _ := hw
  clear hw
  clear h hbd HS1
  go_enter Try.func39, Try.ntmps39
  go_wp2
  refine wp_region_held_drew (S := (fun w' : World => w'.heap[w.heap.size]? = some (.cells #[.int .i64 4, .int .i64 num, .int .i64 N] 45 (0, 0)))) (by kernel_rfl) ?_ (fun hHeld0 => ?_)
  · exact HX.out
  refine tk0 (.pointer (some ⟨D, 0, none⟩)) ?_
  try simp only [Act.put, pu1, pu2, pu3]
  refine tk1 (.pointer (some ⟨w.heap.size, 1, none⟩)) ?_
  try simp only [Act.put, pu1, pu2, pu3]
  refine tk2 (.int .i64 num) ?_ (fun w hSw => by (try dsimp only at hSw); have x1 := KX1.out w hSw; clear hSw; go_simp)
  try simp only [Act.put, pu1, pu2, pu3]
  refine tk5 (.int .i64 t) ?_
  try simp only [Act.put, pu1, pu2, pu3]
  refine tk6 (.pointer (some ⟨w.heap.size, 0, none⟩)) ?_
  try simp only [Act.put, pu1, pu2, pu3]
  refine tk7 (.int .i64 4) ?_ (fun w hSw => by (try dsimp only at hSw); have x0 := KX0.out w hSw; clear hSw; go_simp)
  try simp only [Act.put, pu1, pu2, pu3]
  refine tk8 (.bool true) ?_
  try simp only [Act.put, pu1, pu2, pu3]
  refine cl3 (by kernel_rfl) rfl (fun K hK => ?_)
  go_simp
  go_at_call 34
  refine (sk_obj1 HS2.out num hL).mono ?_
  rintro e w2 ⟨ro2, vL2, od2, d, rfl, hd', h2', k2⟩
  have hd : Hid _ := hd'
  have h2 : Hid _ := h2'
  clear hd' h2'
  have hm := (h2.out.obj hd.out).rw (obG_at L 1 num).2
  have hX2 := HK.out w2 ro2 k2
  refine hK.out _ _ ?_ (fun hHeld => ?_)
  · exact hX2.1
  clear hK K
  try simp only [Act.put, pu1, pu2, pu3]
  refine tk4 (.pointer (some ⟨d, 0, none⟩)) ?_
  try simp only [Act.put, pu1, pu2, pu3]
  refine cl9 (by kernel_rfl) rfl (fun K hK => ?_)
  go_simp
  go_at_call 58
  refine (rwunlock_out hm t true hN).mono ?_
  rintro e w3 ⟨u4, rfl, ⟨hrow, hout⟩, S3, h3, k3⟩
  obtain ⟨ro3, hs3', kk3, hn3'⟩ := h2.out.did hd.out (o := rwUn (obG L 1 num) t true) (obG_at L 1 num).2 (ObAt.ofRw (obG_at L 1 num).2 h3) k3
  have hn3 : Hid _ := hn3' u4 hout
  clear hn3' hout
  have hs3 : Hid _ := hs3'
  have hX3 : w3.heap[w.heap.size]? = _ := (k3.kept _ hX2.2.1 (fun e => hX2.2.2 (by rw [e]; simp))).trans hX2.1
  clear hs3' h3 k3 hm
  refine hK.out _ _ ?_ (fun hHeld => ?_)
  · exact hX3
  clear hK K
  try simp only [Act.put, pu1, pu2, pu3]
  refine tk10 (.tuple #[u4, .int .i64 (rwUZ (obG L 1 num).l (obG L 1 num).b t true)]) ?_
  try simp only [Act.put, pu1, pu2, pu3]
  refine tk11 (u4) ?_
  try simp only [Act.put, pu1, pu2, pu3]
  refine tk12 (.int .i64 (rwUZ (obG L 1 num).l (obG L 1 num).b t true)) ?_
  try simp only [Act.put, pu1, pu2, pu3]
  refine tk13 (u4) ?_
  try simp only [Act.put, pu1, pu2, pu3]
  refine tk14 (.int .i64 (rwUZ (obG L 1 num).l (obG L 1 num).b t true)) ?_
  try simp only [Act.put, pu1, pu2, pu3]
  refine wpAnyH_done (by kernel_rfl) ?_ _
  clear hHeld hX2 hX3
  go_wp2_with (go_at_call 36; refine (sk_wake hs3.out hrow (hW.out.1) (hW.out.2) hn3.out).mono ?_; rintro e w5 ⟨rfl, h5, k5⟩)
  go_ret2
  exact ⟨rfl, ro3, vL2, od2, h5, (Kept.of B1.out.drew).trans (k2.trans (kk3.trans k5))⟩
end
end Go.Proofs.Ythhlglbohibekaa
namespace Go.Proofs.Ythhlglbohibekaa
open Go.RowKit

theorem zip_set_left {α β : Type} : ∀ (a : List α) (b : List β) (i : Nat) (x : α) (y : β), (a.set i x).zip (b.set i y) = (a.zip b).set i (x, y)
  | [], b, i, _, _ => by simp
  | _ :: _, [], i, _, _ => by simp
  | _ :: a, _ :: b, 0, _, _ => by simp
  | z :: a, v :: b, i + 1, x, y => by
    have ih := zip_set_left a b i x y
    rw [List.set_cons_succ, List.set_cons_succ, List.zip_cons_cons, List.zip_cons_cons, List.set_cons_succ, ih]
section
variable {w w1 : World} {base D : Nat} {ro : Nat → Option Nat} {vT vL : Value} {tv : List Tv} {od : List Nat} {T : List Tk} {L : List (Int × Ob)}
theorem SkAt.setRuns (h : SkAt w base D ro vT vL tv od T L) (b1 : Below w.heap.size w w1) {bT off n cap : Nat} (e : vT = .slice (some ⟨bT, off, none⟩) n cap) (i : Nat) (hi : i < T.length) (hit : i < tv.length) (u : Value) (r : List Int) (hu : Slid intC 1 3 w1 u r) (hn : ∀ g, u.ownBlock = some g → w.heap.size ≤ g ∨ ro g = some 0) :
    SkAt (w1.setCell ⟨bT, off + i * 4 + 3, none⟩ u) base D (fun b => if u.ownBlock = some b then some 0 else ro b) vT vL (tv.set i (tv[i].1, u)) od (T.set i { T[i] with runs := r }) L ∧ Kept w (w1.setCell ⟨bT, off + i * 4 + 3, none⟩ u) (fun b => ro b ≠ none) (fun b => (if u.ownBlock = some b then some 0 else ro b) ≠ none) := by
  subst e
  have hz : i < (tv.zip T).length := by rw [List.length_zip, h.tl, Nat.min_self]; exact hi
  have ez : (tv.zip T)[i] = (tv[i], T[i]) := List.getElem_zip
  have h1 := h.fresh b1
  obtain ⟨cur, hb⟩ := h1.ts.at'.slot
  have hoT : ro bT = some 0 := h.ts.own bT rfl
  have hot : ∀ x, x ≠ bT → (w1.setCell ⟨bT, off + i * 4 + 3, none⟩ u).heap[x]? = w1.heap[x]? := fun x hx => heap_setCell_other _ _ _ _ (by simpa using hx)
  have huT : u.ownBlock ≠ some bT := hu.ne hb (by decide)
  have hr0 : ∀ b, ro b = some 0 → (if u.ownBlock = some b then some 0 else ro b) = some 0 := fun b hb => by
    split
    · rfl
    · exact hb
  have hm : ∀ {α : Type} {enc : α → List Value} {k : Nat} {E : TypeId} {v : Value} {l : List α}, E ≠ TkT → Mine enc k E w1 ro v l → Mine enc k E (w1.setCell ⟨bT, off + i * 4 + 3, none⟩ u) (fun b => if u.ownBlock = some b then some 0 else ro b) v l := fun hE h => h.keep (fun g cs fr hg hr => ⟨hot g (fun e => by
    rw [e, hb] at hg
    simp only [Option.some.injEq, Obj.cells.injEq] at hg
    exact hE hg.2.1.symm), hr0 g hr⟩)
  have hzs : (tv.set i (tv[i].1, u)).zip (T.set i { T[i] with runs := r }) = (tv.zip T).set i ((tv[i].1, u), { T[i] with runs := r }) := zip_set_left tv T i _ _
  have hob : ∀ j, (fun b => (if u.ownBlock = some b then some 0 else ro b) = some (j + 1)) = fun b => ro b = some (j + 1) := fun j => by
    funext b
    apply propext
    by_cases hbu : u.ownBlock = some b
    · rw [if_pos hbu]
      constructor
      · intro e
        simp at e
      · intro e
        rcases hn b hbu with h9 | h9
        · have := (h.bd b (by rw [e]; simp)).2
          omega
        · rw [h9] at e
          simp at e
    · rw [if_neg hbu]
  refine ⟨⟨?_, by rw [List.length_set, List.length_set]; exact h.tl, h.ol, ⟨?_, fun g hg => hr0 g (h.ts.own g hg)⟩, hm (by decide) h1.os, fun j g1 g2 => ?_, fun j g1 g2 => ?_, fun j g1 g2 => ?_, hr0 D h.sD, fun b hb2 => ?_, fun b j hj => ?_⟩, ⟨b1.os, b1.tape, b1.output, by simpa using b1.size, fun b hb2 => ?_, fun b hbl hnb => ?_⟩⟩
  · rw [hot D (fun e => by
      have := h1.hd
      rw [e, hb] at this
      simp only [Option.some.injEq, Obj.cells.injEq] at this
      exact absurd this.2.1 (by decide))]
    exact h1.hd
  · rw [hzs]
    refine h1.ts.at'.set tkC_len i hz 3 (by decide) _ u ?_
    rw [ez]
    simp [tkC]
  · have g1' : j < tv.length := by rw [List.length_set] at g1; exact g1
    have g2' : j < T.length := by rw [List.length_set] at g2; exact g2
    have := hm (E := 45) (by decide) (h1.op j g1' g2')
    rw [List.getElem_set, List.getElem_set]
    split
    · rename_i ej
      subst ej
      exact this
    · exact this
  · have g1' : j < tv.length := by rw [List.length_set] at g1; exact g1
    have g2' : j < T.length := by rw [List.length_set] at g2; exact g2
    rw [List.getElem_set, List.getElem_set]
    split
    · exact ⟨hu.keep (fun g hg => hot g (fun e => huT (by rw [hg, e]))), fun g hg => if_pos hg⟩
    · exact hm (E := 3) (by decide) (h1.ru j g1' g2')
  · rw [hob j]
    exact (h1.ob j g1 g2).keep (by simp) (fun b hb2 => hot b (fun e => by rw [e, hoT] at hb2; simp at hb2))
  · have hsz : (w1.setCell ⟨bT, off + i * 4 + 3, none⟩ u).heap.size = w1.heap.size := by simp
    rw [hsz]
    by_cases hbu : u.ownBlock = some b
    · have h8 := hu.lt hbu
      have h7 := (h.bd D (by rw [h.sD]; simp)).1
      have h6 := lt_of_block h.hd
      rcases hn b hbu with h9 | h9
      · omega
      · have := (h.bd b (by rw [h9]; simp)).1
        omega
    · rw [if_neg hbu] at hb2
      exact h1.bd b hb2
  · by_cases hbu : u.ownBlock = some b
    · rw [if_pos hbu] at hj
      have := Option.some.inj hj
      omega
    · rw [if_neg hbu] at hj
      exact h.rb b j hj
  · by_cases hbu : u.ownBlock = some b
    · rcases hn b hbu with h9 | h9
      · exact Or.inr h9
      · left
        rw [h9]
        simp
    · rw [if_neg hbu] at hb2
      exact Or.inl hb2
  · rw [hot b (fun e => hnb (by rw [e, hoT]; simp)), b1.block b hbl]
theorem Slid.front {α : Type} {k : Nat} {enc : α → List Value} {E : TypeId} {a : Option Addr} {l : List α} {n cap : Nat} (hk : ∀ x, (enc x).length = k) (h : Slid enc k E w (.slice a n cap) l) (m : Nat) (hm : m ≤ l.length) (hl : 0 < l.length) : Slid enc k E w (.slice a m cap) (l.take m) := by
  rcases h.ex with ⟨_, h2⟩ | ⟨g, off, cap', cur, h1, h2, h3, h4, h5, h6⟩
  · rw [h2] at hl
    exact absurd hl (Nat.lt_irrefl _)
  · simp only [Value.slice.injEq] at h1
    obtain ⟨rfl, _, rfl⟩ := h1
    have e1 : (l.take m).length = m := by rw [List.length_take]; omega
    refine ⟨Or.inr ⟨g, off, cap, cur, by rw [e1], h2, by omega, h4, h5, ?_⟩⟩
    rw [e1]
    have e2 : (cur.toList.drop off).take (m * k) = ((cur.toList.drop off).take (l.length * k)).take (m * k) := by
      rw [List.take_take, Nat.min_eq_left (Nat.mul_le_mul_right k hm)]
    rw [e2, h6]
    have e3 : rowL enc l = rowL enc (l.take m) ++ rowL enc (l.drop m) := by
      rw [← rowL_append, List.take_append_drop]
    rw [e3, ← e1, ← rowL_length hk (l.take m)]
    rw [List.length_take, Nat.min_eq_left hm]
    exact List.take_left
end
end Go.Proofs.Ythhlglbohibekaa
namespace Go.Proofs.Ythhlglbohibekaa
open Go.RowKit

def onDo (o : Ob) (t : Int) : Ob := { o with h := oDH o.h o.b o.l t, l := oDL o.h o.b o.l t }
def onEnd (o : Ob) (t : Int) : Ob := { o with h := oEH o.h t, b := oEV o.h o.b t, l := oEL o.h o.l t }
theorem ObAt.ofOn {w : World} {base D : Nat} {S : Nat → Prop} {o : Ob} (hk : o.k = 3) (h : OnAt w base D S o.h o.b o.l) : ObAt w base D S o :=
  ⟨fun e => absurd (hk.symm.trans e) (by decide), fun e => absurd (hk.symm.trans e) (by decide), fun e => absurd (hk.symm.trans e) (by decide), fun _ => h, h.bd, by rw [hk]; decide⟩
theorem ObAt.ofGr {w : World} {base D : Nat} {S : Nat → Prop} {o : Ob} (hk : o.k = 2) (h : GrAt w base D S o.h o.l) (hn : 0 ≤ o.h ∧ o.h ≤ 1073741824) : ObAt w base D S o :=
  ⟨fun e => absurd (hk.symm.trans e) (by decide), fun e => absurd (hk.symm.trans e) (by decide), fun _ => ⟨h, hn⟩, fun e => absurd (hk.symm.trans e) (by decide), h.bd, by rw [hk]; decide⟩
theorem slice_front (g off len c n : Nat) (hn : n ≤ c) (w : World) : (Instr.sliceAt 23 (.slice (some ⟨g, off, none⟩) len c) none (some (.int .i64 (n : Int))) none).run Try.prog w = .ok (.slice (some ⟨g, off, none⟩) n c) w := by
  obtain ⟨i0, hi, _, hz1, _⟩ := info_parts infoI
  have hu := Try.underlying23
  have he : Try.prog.elem 23 = 3 := by kernel_rfl
  have hu2 : Try.prog.underlying 23 = some (.slice (Try.prog.elem 23)) := by rw [he]; exact hu
  have hsz : ∀ w, (sizeOf 3).run Try.prog w = .ok 1 w := fun w => by simp [sizeOf, typeInfo, hi, hz1]
  rw [run_sliceAt_slice _ _ _ _ _ _ hu2, run_slice_h _ _ _ _ _ hu2 _ _ (by omega) (by omega), he, hsz]
  simp only [Result.andThen_ok, sliced, Int.toNat_natCast]
  by_cases hc : c = 0
  · rw [if_pos hc]
    simp
  · rw [if_neg hc]
    simp [Addr.add_mid]
section
variable {w w1 : World} {base D : Nat} {ro : Nat → Option Nat} {vT vL : Value} {tv : List Tv} {od : List Nat} {T : List Tk} {L : List (Int × Ob)}
theorem SkAt.lastRun (h : SkAt w base D ro vT vL tv od T L) (i : Nat) (hi : i < T.length) (m : Nat) (hm : T[i].runs.length = m + 1) : ∃ bT off cap br ofr cr last, vT = .slice (some ⟨bT, off, none⟩) T.length cap ∧ tv[i]'(by rw [h.tl]; exact hi) = ((tv[i]'(by rw [h.tl]; exact hi)).1, .slice (some ⟨br, ofr, none⟩) (m + 1) cr) ∧ w.cell? ⟨D, 0, none⟩ = some (.slice (some ⟨bT, off, none⟩) T.length cap) ∧ w.cell? ⟨bT, off + i * 4 + 3, none⟩ = some (.slice (some ⟨br, ofr, none⟩) (m + 1) cr) ∧ w.cell? ⟨br, ofr + m, none⟩ = some (.int .i64 last) ∧ T[i].runs.getLast? = some last ∧ m + 1 ≤ cr ∧ bT < w.heap.size ∧ br < w.heap.size ∧ w.frozen? ⟨bT, off + i * 4 + 3, none⟩ = false := by
  have hit : i < tv.length := by rw [h.tl]; exact hi
  have e1 : (tv.zip T).length = T.length := by rw [List.length_zip, h.tl, Nat.min_self]
  obtain ⟨bT, off, cap, ev, _, hb, hx⟩ := (h.ts.at'.row tkC_len).cells tkC_len (by omega)
  have hz : (tv.zip T)[i]'(by omega) = (tv[i], T[i]) := List.getElem_zip
  have hr := (h.ru i hit hi)
  obtain ⟨br, ofr, cr, er, hcr, hbr, hxr⟩ := (hr.at'.row intC_len).cells intC_len (by omega)
  rw [e1] at ev
  have z3 : w.cell? ⟨bT, off + i * 4 + 3, none⟩ = some tv[i].2 := hx i (by omega) 3 _ (by decide) (by rw [hz]; rfl)
  rw [er, hm] at z3
  have hl : m < T[i].runs.length := by omega
  have z4 : w.cell? ⟨br, ofr + m * 1 + 0, none⟩ = some (.int .i64 T[i].runs[m]) := hxr m hl 0 _ (by decide) rfl
  obtain ⟨_, _, c0, _⟩ := h.cells
  rw [ev] at c0
  have hf := h.ts.at'
  rw [ev] at hf
  refine ⟨bT, off, cap, br, ofr, cr, T[i].runs[m], ev, Prod.ext rfl (by rw [er, hm]), c0, z3, by simpa using z4, ?_, by omega, hb, hbr, hf.free _⟩
  rw [List.getLast?_eq_getElem?, hm]
  exact List.getElem?_eq_getElem hl
set_option maxHeartbeats 3200000 in
set_option maxRecDepth 100000 in
theorem on_err0 (h : SkAt w base D ro vT vL tv od T L) (i : Nat) (hi : i < T.length) (num N : Int) (hm : T[i].runs = []) : Calls Try.prog 38 #[.pointer (some ⟨D, 0, none⟩), .int .i64 (i : Int), .agg #[.int .i64 8, .int .i64 num, .int .i64 N]] w fun e w' => e = .returned (.tuple #[.bool false, .int .i64 1]) ∧ ∃ ro' vL' tv' od', SkAt w' base D ro' vT vL' tv' od' (T) (L) ∧ Kept w w' (fun b => ro b ≠ none) (fun b => ro' b ≠ none) := by
  have B1 : Hid _ := (Below.refl _ w).alloc (Nat.le_refl _) (.cells #[.int .i64 8, .int .i64 num, .int .i64 N] 45)
  have HS1 : Hid _ := h.fresh B1.out
  have hDl := lt_of_block h.hd
  obtain ⟨bT, off, cap, ao, co, ar, cr, ev, hb, z0, z1, z2, z3'⟩ := HS1.out.task i hi
  obtain ⟨_, _, c0, _⟩ := HS1.out.cells
  rw [ev] at c0
  have z3 := z3'
  rw [hm] at z3
  simp only [List.length_nil] at z3
  clear h z0 z1 z2 z3' hm
  go_enter Try.func38, Try.ntmps38
  go_wp2
  refine wp_region_held_drew (S := (fun _ : World => True)) (by kernel_rfl) ?_ (fun hHeld0 => ?_)
  · trivial
  refine tk0 (.int .i64 0) ?_
  try simp only [Act.put, pu1, pu2, pu3]
  refine tk1 (.bool true) ?_
  try simp only [Act.put, pu1, pu2, pu3]
  refine tk2 (.bool true) ?_
  try simp only [Act.put, pu1, pu2, pu3]
  refine sk3 ?_
  try simp only [Act.put, pu1, pu2, pu3]
  refine sk4 ?_
  try simp only [Act.put, pu1, pu2, pu3]
  refine sk5 ?_
  try simp only [Act.put, pu1, pu2, pu3]
  refine sk6 ?_
  try simp only [Act.put, pu1, pu2, pu3]
  refine sk7 ?_
  try simp only [Act.put, pu1, pu2, pu3]
  refine sk8 ?_
  try simp only [Act.put, pu1, pu2, pu3]
  refine sk9 ?_
  try simp only [Act.put, pu1, pu2, pu3]
  refine sk10 ?_
  try simp only [Act.put, pu1, pu2, pu3]
  refine sk11 ?_
  try simp only [Act.put, pu1, pu2, pu3]
  refine sk12 ?_
  try simp only [Act.put, pu1, pu2, pu3]
  refine sk13 ?_
  try simp only [Act.put, pu1, pu2, pu3]
  refine tk14 (.bool true) ?_
  try simp only [Act.put, pu1, pu2, pu3]
  refine wpAnyH_done (by kernel_rfl) ?_ _
  go_wp2
  go_ret2
  exact ⟨rfl, ro, vL, tv, od, HS1.out.keep (Nat.le_refl _) (fun _ _ => rfl), Kept.of B1.out.drew⟩
set_option maxHeartbeats 3200000 in
set_option maxRecDepth 100000 in
theorem on_err1 (h : SkAt w base D ro vT vL tv od T L) (i : Nat) (hi : i < T.length) (num N : Int) (last : Int) (hl : T[i].runs.getLast? = some last) (hn : last ≠ num) : Calls Try.prog 38 #[.pointer (some ⟨D, 0, none⟩), .int .i64 (i : Int), .agg #[.int .i64 8, .int .i64 num, .int .i64 N]] w fun e w' => e = .returned (.tuple #[.bool false, .int .i64 1]) ∧ ∃ ro' vL' tv' od', SkAt w' base D ro' vT vL' tv' od' (T) (L) ∧ Kept w w' (fun b => ro b ≠ none) (fun b => ro' b ≠ none) := by
  have B1 : Hid _ := (Below.refl _ w).alloc (Nat.le_refl _) (.cells #[.int .i64 8, .int .i64 num, .int .i64 N] 45)
  have HS1 : Hid (SkAt (w.alloc (.cells #[.int .i64 8, .int .i64 num, .int .i64 N] 45)).drew base D ro vT vL tv od T L) := (h.fresh B1.out).keep (Nat.le_refl _) (fun _ _ => rfl)
  have hDl := lt_of_block h.hd
  have hit : i < tv.length := by rw [h.tl]; exact hi
  obtain ⟨m, hm⟩ : ∃ m, T[i].runs.length = m + 1 := by
    cases hc : T[i].runs with
    | nil => rw [hc] at hl; cases hl
    | cons a r => exact ⟨r.length, rfl⟩
  obtain ⟨bT, off, cap, br, ofr, cr, last', ev, etv, c0', z3', zl', hlast, hcr, hb', hbr', hfz'⟩ := h.lastRun i hi m hm
  have e0 : last = last' := by rw [hl] at hlast; exact Option.some.inj hlast
  subst e0
  have c0 : (w.alloc (.cells #[.int .i64 8, .int .i64 num, .int .i64 N] 45)).cell? ⟨D, 0, none⟩ = _ := (B1.out.cell (p := ⟨D, 0, none⟩) hDl).trans c0'
  have z3 : (w.alloc (.cells #[.int .i64 8, .int .i64 num, .int .i64 N] 45)).cell? ⟨bT, off + i * 4 + 3, none⟩ = _ := (B1.out.cell (p := ⟨bT, off + i * 4 + 3, none⟩) hb').trans z3'
  have zl : (w.alloc (.cells #[.int .i64 8, .int .i64 num, .int .i64 N] 45)).cell? ⟨br, ofr + m, none⟩ = _ := (B1.out.cell (p := ⟨br, ofr + m, none⟩) hbr').trans zl'
  have hfz : (w.alloc (.cells #[.int .i64 8, .int .i64 num, .int .i64 N] 45)).frozen? ⟨bT, off + i * 4 + 3, none⟩ = _ := (B1.out.frozen (p := ⟨bT, off + i * 4 + 3, none⟩) hb').trans hfz'
  have zx : (w.alloc (.cells #[.int .i64 8, .int .i64 num, .int .i64 N] 45)).cell? ⟨w.heap.size, 1, none⟩ = some (.int .i64 num) := by
    have := heap_alloc_new w (.cells #[.int .i64 8, .int .i64 num, .int .i64 N] 45)
    simp only [World.cell?, this]
    rfl
  obtain ⟨len, hlen⟩ : ∃ len, len = m + 1 := ⟨_, rfl⟩
  rw [← hlen] at z3 z3'
  have hml : m < len := by omega
  have q1 : ((len : Int) == 0) = false := beq_eq_false_iff_ne.2 (by omega)
  have hmx : m + 1 ≤ maxLen := by
    have := (h.ru i hit hi).at'
    rw [etv] at this
    rcases this.ex with ⟨e9, _⟩ | ⟨_, _, c9, _, e9, _, h9, h8, _⟩
    · cases e9
    · simp only [Value.slice.injEq] at e9
      omega
  have q8 : IntKind.i64.wrap ((len : Int) - 1) = (m : Int) := by unfold maxLen at hmx; rw [IntKind.wrap_i64]; omega
  have q13 : (last == num) = false := beq_eq_false_iff_ne.2 hn
  have q14 : (last != num) = true := by rw [bne, q13]; rfl
  have HSX : Hid ((w.alloc (.cells #[.int .i64 8, .int .i64 num, .int .i64 N] 45)).drew.cell? ⟨bT, off + i * 4 + 3, none⟩ = some (.slice (some ⟨br, ofr, none⟩) len cr) ∧ (w.alloc (.cells #[.int .i64 8, .int .i64 num, .int .i64 N] 45)).drew.cell? ⟨br, ofr + m, none⟩ = some (.int .i64 last) ∧ (w.alloc (.cells #[.int .i64 8, .int .i64 num, .int .i64 N] 45)).drew.cell? ⟨w.heap.size, 1, none⟩ = some (.int .i64 num)) := ⟨z3, zl, zx⟩
  clear h hl hlast hm hlen hmx hn etv c0' z3' zl' hfz' hfz
  subst ev
  go_enter Try.func38, Try.ntmps38
  go_wp2
  refine wp_region_held_drew (S := (fun w' : World => w'.cell? ⟨bT, off + i * 4 + 3, none⟩ = some (.slice (some ⟨br, ofr, none⟩) len cr) ∧ w'.cell? ⟨br, ofr + m, none⟩ = some (.int .i64 last) ∧ w'.cell? ⟨w.heap.size, 1, none⟩ = some (.int .i64 num))) (by kernel_rfl) ?_ (fun hHeld0 => ?_)
  · exact HSX.out
  refine tk0 (.int .i64 (len : Int)) ?_ (fun w hSw => by (try dsimp only at hSw); obtain ⟨y0, y1, y2⟩ := hSw; go_simp)
  try simp only [Act.put, pu1, pu2, pu3]
  refine tk1 (.bool false) ?_ (fun w hSw => by (try dsimp only at hSw); obtain ⟨y0, y1, y2⟩ := hSw; go_simp)
  try simp only [Act.put, pu1, pu2, pu3]
  refine tk2 (.bool false) ?_ (fun w hSw => by (try dsimp only at hSw); obtain ⟨y0, y1, y2⟩ := hSw; go_simp)
  try simp only [Act.put, pu1, pu2, pu3]
  refine tk3 (.pointer (some ⟨bT, off + i * 4, none⟩)) ?_ (fun w hSw => by (try dsimp only at hSw); obtain ⟨y0, y1, y2⟩ := hSw; go_simp)
  try simp only [Act.put, pu1, pu2, pu3]
  refine tk4 (.pointer (some ⟨bT, off + i * 4, none⟩)) ?_ (fun w hSw => by (try dsimp only at hSw); obtain ⟨y0, y1, y2⟩ := hSw; go_simp)
  try simp only [Act.put, pu1, pu2, pu3]
  refine tk5 (.pointer (some ⟨bT, off + i * 4 + 3, none⟩)) ?_ (fun w hSw => by (try dsimp only at hSw); obtain ⟨y0, y1, y2⟩ := hSw; go_simp)
  try simp only [Act.put, pu1, pu2, pu3]
  refine tk6 (.slice (some ⟨br, ofr, none⟩) len cr) ?_ (fun w hSw => by (try dsimp only at hSw); obtain ⟨y0, y1, y2⟩ := hSw; go_simp)
  try simp only [Act.put, pu1, pu2, pu3]
  refine tk7 (.int .i64 (len : Int)) ?_ (fun w hSw => by (try dsimp only at hSw); obtain ⟨y0, y1, y2⟩ := hSw; go_simp)
  try simp only [Act.put, pu1, pu2, pu3]
  refine tk8 (.int .i64 (m : Int)) ?_ (fun w hSw => by (try dsimp only at hSw); obtain ⟨y0, y1, y2⟩ := hSw; go_simp)
  try simp only [Act.put, pu1, pu2, pu3]
  refine tk9 (.pointer (some ⟨br, ofr + m, none⟩)) ?_ (fun w hSw => by (try dsimp only at hSw); obtain ⟨y0, y1, y2⟩ := hSw; go_simp)
  try simp only [Act.put, pu1, pu2, pu3]
  refine tk10 (.int .i64 last) ?_ (fun w hSw => by (try dsimp only at hSw); obtain ⟨y0, y1, y2⟩ := hSw; go_simp)
  try simp only [Act.put, pu1, pu2, pu3]
  refine tk11 (.pointer (some ⟨w.heap.size, 1, none⟩)) ?_ (fun w hSw => by (try dsimp only at hSw); obtain ⟨y0, y1, y2⟩ := hSw; go_simp)
  try simp only [Act.put, pu1, pu2, pu3]
  refine tk12 (.int .i64 num) ?_ (fun w hSw => by (try dsimp only at hSw); obtain ⟨y0, y1, y2⟩ := hSw; go_simp)
  try simp only [Act.put, pu1, pu2, pu3]
  refine tk13 (.bool true) ?_ (fun w hSw => by (try dsimp only at hSw); obtain ⟨y0, y1, y2⟩ := hSw; go_simp)
  try simp only [Act.put, pu1, pu2, pu3]
  refine tk14 (.bool true) ?_ (fun w hSw => by (try dsimp only at hSw); obtain ⟨y0, y1, y2⟩ := hSw; go_simp)
  try simp only [Act.put, pu1, pu2, pu3]
  refine wpAnyH_done (by kernel_rfl) ?_ _
  go_wp2
  go_ret2
  exact ⟨rfl, ro, _, tv, od, HS1.out, Kept.of B1.out.drew⟩
set_option maxHeartbeats 3200000 in
set_option maxRecDepth 100000 in
theorem on_end (h : SkAt w base D ro vT vL tv od T L) (i : Nat) (hi : i < T.length) (num N : Int) (hl : T[i].runs.getLast? = some num) (hL : L.length < 65536) (hw : (oEO (obG L 3 num).h (obG L 3 num).l (i : Int)).length ≤ 65536 ∧ ∀ x ∈ (oEO (obG L 3 num).h (obG L 3 num).l (i : Int)), 0 ≤ x ∧ x < (T.length : Int)) : Calls Try.prog 38 #[.pointer (some ⟨D, 0, none⟩), .int .i64 (i : Int), .agg #[.int .i64 8, .int .i64 num, .int .i64 N]] w fun e w' => e = .returned (.tuple #[.bool false, .int .i64 (oEZ (obG L 3 num).h (i : Int))]) ∧ ∃ ro' vL' tv' od', SkAt w' base D ro' vT vL' tv' od' (wakeT (T.set i { T[i] with runs := T[i].runs.dropLast }) (oEO (obG L 3 num).h (obG L 3 num).l (i : Int))) (obPut L 3 num (onEnd (obG L 3 num) (i : Int))) ∧ Kept w w' (fun b => ro b ≠ none) (fun b => ro' b ≠ none) := by
  obtain ⟨last, hlq⟩ : ∃ last, last = num := ⟨_, rfl⟩
  have hn := hlq
  rw [← hlq] at hl
  have B1 : Hid _ := (Below.refl _ w).alloc (Nat.le_refl _) (.cells #[.int .i64 8, .int .i64 num, .int .i64 N] 45)
  have HS1 : Hid (SkAt (w.alloc (.cells #[.int .i64 8, .int .i64 num, .int .i64 N] 45)).drew base D ro vT vL tv od T L) := (h.fresh B1.out).keep (Nat.le_refl _) (fun _ _ => rfl)
  have hDl := lt_of_block h.hd
  have hit : i < tv.length := by rw [h.tl]; exact hi
  obtain ⟨m, hm⟩ : ∃ m, T[i].runs.length = m + 1 := by
    cases hc : T[i].runs with
    | nil => rw [hc] at hl; cases hl
    | cons a r => exact ⟨r.length, rfl⟩
  obtain ⟨bT, off, cap, br, ofr, cr, last', ev, etv, c0', z3', zl', hlast, hcr, hb', hbr', hfz'⟩ := h.lastRun i hi m hm
  have e0 : last = last' := by rw [hl] at hlast; exact Option.some.inj hlast
  subst e0
  have c0 : (w.alloc (.cells #[.int .i64 8, .int .i64 num, .int .i64 N] 45)).cell? ⟨D, 0, none⟩ = _ := (B1.out.cell (p := ⟨D, 0, none⟩) hDl).trans c0'
  have z3 : (w.alloc (.cells #[.int .i64 8, .int .i64 num, .int .i64 N] 45)).cell? ⟨bT, off + i * 4 + 3, none⟩ = _ := (B1.out.cell (p := ⟨bT, off + i * 4 + 3, none⟩) hb').trans z3'
  have zl : (w.alloc (.cells #[.int .i64 8, .int .i64 num, .int .i64 N] 45)).cell? ⟨br, ofr + m, none⟩ = _ := (B1.out.cell (p := ⟨br, ofr + m, none⟩) hbr').trans zl'
  have hfz : (w.alloc (.cells #[.int .i64 8, .int .i64 num, .int .i64 N] 45)).frozen? ⟨bT, off + i * 4 + 3, none⟩ = _ := (B1.out.frozen (p := ⟨bT, off + i * 4 + 3, none⟩) hb').trans hfz'
  have zx : (w.alloc (.cells #[.int .i64 8, .int .i64 num, .int .i64 N] 45)).cell? ⟨w.heap.size, 1, none⟩ = some (.int .i64 num) := by
    have := heap_alloc_new w (.cells #[.int .i64 8, .int .i64 num, .int .i64 N] 45)
    simp only [World.cell?, this]
    rfl
  obtain ⟨len, hlen⟩ : ∃ len, len = m + 1 := ⟨_, rfl⟩
  rw [← hlen] at z3 z3'
  have hml : m < len := by omega
  have q1 : ((len : Int) == 0) = false := beq_eq_false_iff_ne.2 (by omega)
  have hmx : m + 1 ≤ maxLen := by
    have := (h.ru i hit hi).at'
    rw [etv] at this
    rcases this.ex with ⟨e9, _⟩ | ⟨_, _, c9, _, e9, _, h9, h8, _⟩
    · cases e9
    · simp only [Value.slice.injEq] at e9
      omega
  have q8 : IntKind.i64.wrap ((len : Int) - 1) = (m : Int) := by unfold maxLen at hmx; rw [IntKind.wrap_i64]; omega
  have q13 : (last == num) = true := beq_iff_eq.2 hn
  have q14 : (last != num) = false := by rw [bne, q13]; rfl
  have HSX : Hid ((w.alloc (.cells #[.int .i64 8, .int .i64 num, .int .i64 N] 45)).drew.cell? ⟨bT, off + i * 4 + 3, none⟩ = some (.slice (some ⟨br, ofr, none⟩) len cr) ∧ (w.alloc (.cells #[.int .i64 8, .int .i64 num, .int .i64 N] 45)).drew.cell? ⟨br, ofr + m, none⟩ = some (.int .i64 last) ∧ (w.alloc (.cells #[.int .i64 8, .int .i64 num, .int .i64 N] 45)).drew.cell? ⟨w.heap.size, 1, none⟩ = some (.int .i64 num)) := ⟨z3, zl, zx⟩
  have RUNS : Hid (SkAt ((w.alloc (.cells #[.int .i64 8, .int .i64 num, .int .i64 N] 45)).drew.setCell ⟨bT, off + i * 4 + 3, none⟩ (.slice (some ⟨br, ofr, none⟩) m cr)) base D (fun b => if Value.ownBlock (.slice (some ⟨br, ofr, none⟩) m cr) = some b then some 0 else ro b) vT vL (tv.set i (tv[i].1, .slice (some ⟨br, ofr, none⟩) m cr)) od (T.set i { T[i] with runs := T[i].runs.dropLast }) L ∧ Kept (w.alloc (.cells #[.int .i64 8, .int .i64 num, .int .i64 N] 45)).drew ((w.alloc (.cells #[.int .i64 8, .int .i64 num, .int .i64 N] 45)).drew.setCell ⟨bT, off + i * 4 + 3, none⟩ (.slice (some ⟨br, ofr, none⟩) m cr)) (fun b => ro b ≠ none) (fun b => (if Value.ownBlock (.slice (some ⟨br, ofr, none⟩) m cr) = some b then some 0 else ro b) ≠ none)) := by
    have hru := HS1.out.ru i hit hi
    have hs := hru.at'
    rw [etv] at hs
    have hd : T[i].runs.dropLast = T[i].runs.take m := by rw [List.dropLast_eq_take, hm]; rfl
    rw [hd]
    exact HS1.out.setRuns (Below.refl _ _) ev i hi hit _ _ (hs.front intC_len m (by omega) (by omega)) (fun g hg => Or.inr (hru.own g (by rw [etv]; exact hg)))
  have hsl := slice_front br ofr len cr m (by omega)
  have x6 : ((w.alloc (.cells #[.int .i64 8, .int .i64 num, .int .i64 N] 45)).drew.setCell ⟨bT, off + i * 4 + 3, none⟩ (.slice (some ⟨br, ofr, none⟩) m cr)).cell? ⟨w.heap.size, 1, none⟩ = some (.int .i64 num) := (World.cell?_of_block (a := ⟨w.heap.size, 1, none⟩) (heap_setCell_other _ _ _ _ (by simp; omega))).trans zx
  have B1d : Hid (Below w.heap.size w (w.alloc (.cells #[.int .i64 8, .int .i64 num, .int .i64 N] 45)).drew) := B1.out.drew
  have z3d : (w.alloc (.cells #[.int .i64 8, .int .i64 num, .int .i64 N] 45)).drew.cell? ⟨bT, off + i * 4 + 3, none⟩ = some (.slice (some ⟨br, ofr, none⟩) len cr) := z3
  have hfzd : (w.alloc (.cells #[.int .i64 8, .int .i64 num, .int .i64 N] 45)).drew.frozen? ⟨bT, off + i * 4 + 3, none⟩ = false := hfz
  have hfd := field_ob3
  have hW : Hid _ := hw
  clear h hl hlast hm hlen hmx hn etv c0' z3' zl' hfz' hw hcr
  subst ev
  go_enter Try.func38, Try.ntmps38
  go_wp2
  refine wp_region_held_drew (S := (fun w' : World => w'.cell? ⟨bT, off + i * 4 + 3, none⟩ = some (.slice (some ⟨br, ofr, none⟩) len cr) ∧ w'.cell? ⟨br, ofr + m, none⟩ = some (.int .i64 last) ∧ w'.cell? ⟨w.heap.size, 1, none⟩ = some (.int .i64 num))) (by kernel_rfl) ?_ (fun hHeld0 => ?_)
  · exact HSX.out
  refine tk0 (.int .i64 (len : Int)) ?_ (fun w hSw => by (try dsimp only at hSw); obtain ⟨y0, y1, y2⟩ := hSw; go_simp)
  try simp only [Act.put, pu1, pu2, pu3]
  refine tk1 (.bool false) ?_ (fun w hSw => by (try dsimp only at hSw); obtain ⟨y0, y1, y2⟩ := hSw; go_simp)
  try simp only [Act.put, pu1, pu2, pu3]
  refine tk2 (.bool false) ?_ (fun w hSw => by (try dsimp only at hSw); obtain ⟨y0, y1, y2⟩ := hSw; go_simp)
  try simp only [Act.put, pu1, pu2, pu3]
  refine tk3 (.pointer (some ⟨bT, off + i * 4, none⟩)) ?_ (fun w hSw => by (try dsimp only at hSw); obtain ⟨y0, y1, y2⟩ := hSw; go_simp)
  try simp only [Act.put, pu1, pu2, pu3]
  refine tk4 (.pointer (some ⟨bT, off + i * 4, none⟩)) ?_ (fun w hSw => by (try dsimp only at hSw); obtain ⟨y0, y1, y2⟩ := hSw; go_simp)
  try simp only [Act.put, pu1, pu2, pu3]
  refine tk5 (.pointer (some ⟨bT, off + i * 4 + 3, none⟩)) ?_ (fun w hSw => by (try dsimp only at hSw); obtain ⟨y0, y1, y2⟩ := hSw; go_simp)
  try simp only [Act.put, pu1, pu2, pu3]
  refine tk6 (.slice (some ⟨br, ofr, none⟩) len cr) ?_ (fun w hSw => by (try dsimp only at hSw); obtain ⟨y0, y1, y2⟩ := hSw; go_simp)
  try simp only [Act.put, pu1, pu2, pu3]
  refine tk7 (.int .i64 (len : Int)) ?_ (fun w hSw => by (try dsimp only at hSw); obtain ⟨y0, y1, y2⟩ := hSw; go_simp)
  try simp only [Act.put, pu1, pu2, pu3]
  refine tk8 (.int .i64 (m : Int)) ?_ (fun w hSw => by (try dsimp only at hSw); obtain ⟨y0, y1, y2⟩ := hSw; go_simp)
  try simp only [Act.put, pu1, pu2, pu3]
  refine tk9 (.pointer (some ⟨br, ofr + m, none⟩)) ?_ (fun w hSw => by (try dsimp only at hSw); obtain ⟨y0, y1, y2⟩ := hSw; go_simp)
  try simp only [Act.put, pu1, pu2, pu3]
  refine tk10 (.int .i64 last) ?_ (fun w hSw => by (try dsimp only at hSw); obtain ⟨y0, y1, y2⟩ := hSw; go_simp)
  try simp only [Act.put, pu1, pu2, pu3]
  refine tk11 (.pointer (some ⟨w.heap.size, 1, none⟩)) ?_ (fun w hSw => by (try dsimp only at hSw); obtain ⟨y0, y1, y2⟩ := hSw; go_simp)
  try simp only [Act.put, pu1, pu2, pu3]
  refine tk12 (.int .i64 num) ?_ (fun w hSw => by (try dsimp only at hSw); obtain ⟨y0, y1, y2⟩ := hSw; go_simp)
  try simp only [Act.put, pu1, pu2, pu3]
  refine tk13 (.bool false) ?_ (fun w hSw => by (try dsimp only at hSw); obtain ⟨y0, y1, y2⟩ := hSw; go_simp)
  try simp only [Act.put, pu1, pu2, pu3]
  refine tk14 (.bool false) ?_ (fun w hSw => by (try dsimp only at hSw); obtain ⟨y0, y1, y2⟩ := hSw; go_simp)
  try simp only [Act.put, pu1, pu2, pu3]
  refine wpAnyH_done (by kernel_rfl) ?_ _
  generalize (w.alloc (.cells #[.int .i64 8, .int .i64 num, .int .i64 N] 45)).drew = w5 at *
  clear hHeld0
  go_wp2_with (first | (go_at_call 36; refine (sk_wake hs3.out hrow hW.out.1 (fun x hx => by rw [List.length_set]; exact hW.out.2 x hx) hn3.out).mono ?_; rintro e w9 ⟨rfl, h9, k9⟩) | (go_at_call 34; refine (sk_obj3 RUNS.out.1 num hL).mono ?_; rintro e w7 ⟨ro7, vL7, od7, d, rfl, hd', h7', k7⟩; have hd : Hid _ := hd'; have h7 : Hid _ := h7'; clear hd' h7'; have hm7 := (h7.out.obj hd.out).on (obG_at L 3 num).2) | (go_at_call 52; refine (on_doneO hm7 (i : Int)).mono ?_; rintro e w8 ⟨u8, rfl, ⟨hrow, hout⟩, S8, h8, k8⟩; obtain ⟨ro8, hs8', kk8, hn8'⟩ := h7.out.did hd.out (o := onEnd (obG L 3 num) (i : Int)) (obG_at L 3 num).2 (ObAt.ofOn (obG_at L 3 num).2 h8) k8; have hn3 : Hid _ := hn8' u8 hout; have hs3 : Hid _ := hs8'; clear hn8' hs8' hout h8 k8 hm7))
  go_ret2
  exact ⟨rfl, ro8, vL7, _, od7, h9, (Kept.of B1d.out).trans (RUNS.out.2.trans (k7.trans (kk8.trans k9)))⟩
end
end Go.Proofs.Ythhlglbohibekaa
namespace Go.Proofs.Ythhlglbohibekaa
open Go.RowKit

section
variable {w w1 : World} {base D : Nat} {ro : Nat → Option Nat} {vT vL : Value} {tv : List Tv} {od : List Nat} {T : List Tk} {L : List (Int × Ob)}
set_option maxHeartbeats 3200000 in
set_option maxRecDepth 100000 in
theorem do_err (h : SkAt w base D ro vT vL tv od T L) (i : Nat) (hi : i < T.length) (num N : Int) (hiK : i ≤ 65536) (hL : L.length < 65536) (hq : (obG L 3 num).l.length < 65536) (hz : (oDZ (obG L 3 num).h (obG L 3 num).l (i : Int)) ≠ 0) : Calls Try.prog 38 #[.pointer (some ⟨D, 0, none⟩), .int .i64 (i : Int), .agg #[.int .i64 7, .int .i64 num, .int .i64 N]] w fun e w' => e = .returned (.tuple #[.bool false, .int .i64 (oDZ (obG L 3 num).h (obG L 3 num).l (i : Int))]) ∧ ∃ ro' vL' tv' od', SkAt w' base D ro' vT vL' tv' od' (T) (obPut L 3 num (onDo (obG L 3 num) (i : Int))) ∧ Kept w w' (fun b => ro b ≠ none) (fun b => ro' b ≠ none) := by
  have B1 : Hid _ := (Below.refl _ w).alloc (Nat.le_refl _) (.cells #[.int .i64 7, .int .i64 num, .int .i64 N] 45)
  have HS1 : Hid _ := h.fresh B1.out
  have hDl := lt_of_block h.hd
  obtain ⟨bT, off, cap, _, _, _, _, ev, hb, _, _, _, _⟩ := HS1.out.task i hi
  obtain ⟨_, _, c0, _⟩ := HS1.out.cells
  rw [ev] at c0
  have hfd := field_ob3
  have ht : okI (i : Int) := by unfold okI; omega
  have q1 : ((oDZ (obG L 3 num).h (obG L 3 num).l (i : Int)) == 0) = false := beq_eq_false_iff_ne.2 hz
  have q2 : ((oDZ (obG L 3 num).h (obG L 3 num).l (i : Int)) != 0) = true := by rw [bne, q1]; rfl
  clear h hz
  subst ev
  go_enter Try.func38, Try.ntmps38
  go_wp2_with (first | (go_at_call 34; refine (sk_obj3 HS1.out num hL).mono ?_; rintro e w7 ⟨ro7, vL7, od7, d, rfl, hd', h7', k7⟩; have hd : Hid _ := hd'; have h7 : Hid _ := h7'; clear hd' h7'; have hm7 := (h7.out.obj hd.out).on (obG_at L 3 num).2) | (go_at_call 53; refine (on_do hm7 (i : Int) ht hq).mono ?_; rintro e w8 ⟨rfl, S8, h8, k8⟩; obtain ⟨ro8, hs8', kk8, _⟩ := h7.out.did hd.out (o := onDo (obG L 3 num) (i : Int)) (obG_at L 3 num).2 (ObAt.ofOn (obG_at L 3 num).2 h8) k8; have hs8 : Hid _ := hs8'; clear hs8' h8 k8 hm7))
  go_ret2
  exact ⟨rfl, ro8, vL7, _, od7, hs8.out, (Kept.of B1.out).trans (k7.trans kk8)⟩
set_option maxHeartbeats 3200000 in
set_option maxRecDepth 100000 in
theorem do_past (h : SkAt w base D ro vT vL tv od T L) (i : Nat) (hi : i < T.length) (num N : Int) (hiK : i ≤ 65536) (hL : L.length < 65536) (hq : (obG L 3 num).l.length < 65536) (hz : (oDZ (obG L 3 num).h (obG L 3 num).l (i : Int)) = 0) (hr : oDR (obG L 3 num).h (obG L 3 num).b (obG L 3 num).l (i : Int) = false) (hpos : T[i].pos ≤ 65536) (hlo : T[i].ops.length ≤ 65536) : Calls Try.prog 38 #[.pointer (some ⟨D, 0, none⟩), .int .i64 (i : Int), .agg #[.int .i64 7, .int .i64 num, .int .i64 N]] w fun e w' => e = .returned (.tuple #[.bool (oDW (obG L 3 num).h (obG L 3 num).b (obG L 3 num).l (i : Int)), .int .i64 0]) ∧ ∃ ro' vL' tv' od', SkAt w' base D ro' vT vL' tv' od' (T.set i { T[i] with pos := (pastL (T[i].ops.drop T[i].pos) T[i].pos 1) }) (obPut L 3 num (onDo (obG L 3 num) (i : Int))) ∧ Kept w w' (fun b => ro b ≠ none) (fun b => ro' b ≠ none) := by
  have B1 : Hid _ := (Below.refl _ w).alloc (Nat.le_refl _) (.cells #[.int .i64 7, .int .i64 num, .int .i64 N] 45)
  have HS1 : Hid _ := h.fresh B1.out
  have hDl := lt_of_block h.hd
  obtain ⟨bT, off, cap, _, _, _, _, ev, hb, _, _, _, _⟩ := HS1.out.task i hi
  obtain ⟨_, _, c0, _⟩ := HS1.out.cells
  rw [ev] at c0
  have hfd := field_ob3
  have ht : okI (i : Int) := by unfold okI; omega
  have q1 : ((oDZ (obG L 3 num).h (obG L 3 num).l (i : Int)) == 0) = true := beq_iff_eq.2 hz
  have q2 : ((oDZ (obG L 3 num).h (obG L 3 num).l (i : Int)) != 0) = false := by rw [bne, q1]; rfl
  have etl := h.tl
  clear h
  subst ev
  go_enter Try.func38, Try.ntmps38
  go_wp2_with (first | (go_at_call 34; refine (sk_obj3 HS1.out num hL).mono ?_; rintro e w7 ⟨ro7, vL7, od7, d, rfl, hd', h7', k7⟩; have hd : Hid _ := hd'; have h7 : Hid _ := h7'; clear hd' h7'; have hm7 := (h7.out.obj hd.out).on (obG_at L 3 num).2) | (go_at_call 53; refine (on_do hm7 (i : Int) ht hq).mono ?_; rintro e w8 ⟨rfl, S8, h8, k8⟩; obtain ⟨ro8, hs8', kk8, _⟩ := h7.out.did hd.out (o := onDo (obG L 3 num) (i : Int)) (obG_at L 3 num).2 (ObAt.ofOn (obG_at L 3 num).2 h8) k8; have hs8 : Hid _ := hs8'; clear hs8' h8 k8 hm7))
  obtain ⟨bT2, off2, cap2, ao, co, ar, cr, ev2, hb2, z0, z1, z2, _⟩ := hs8.out.task i hi
  simp only [Value.slice.injEq, Option.some.injEq, Addr.mk.injEq] at ev2
  obtain ⟨⟨rfl, rfl, _⟩, _, rfl⟩ := ev2
  have hit : i < tv.length := by omega
  have hfz : w8.frozen? ⟨bT, off + i * 4 + 1, none⟩ = false := hs8.out.ts.at'.free _
  have HS9 : SkAt w8.drew base D ro8 (.slice (some ⟨bT, off, none⟩) T.length cap) vL7 tv od7 T (obPut L 3 num (onDo (obG L 3 num) (i : Int))) := hs8.out.keep (Nat.le_refl _) (fun _ _ => rfl)
  have HV : Hid (RowAt opC w8.drew (.slice ao T[i].ops.length co) T[i].ops) := by
    have e1 := (HS9.op i hit hi).at'.row opC_len
    have e2 : w8.cell? ⟨bT, off + i * 4, none⟩ = some tv[i].1 := by
      have e3 : (tv.zip T).length = T.length := by rw [List.length_zip, etl, Nat.min_self]
      obtain ⟨b9, o9, c9, ev9, _, _, hx⟩ := (hs8.out.ts.at'.row tkC_len).cells tkC_len (by omega)
      simp only [Value.slice.injEq, Option.some.injEq, Addr.mk.injEq] at ev9
      obtain ⟨⟨rfl, rfl, _⟩, _, rfl⟩ := ev9
      have hz9 : (tv.zip T)[i]'(by omega) = (tv[i], T[i]) := List.getElem_zip
      exact hx i (by omega) 0 _ (by decide) (by rw [hz9]; rfl)
    rw [z0] at e2
    rw [Option.some.inj e2]
    exact e1
  have FIN : Hid _ := HS9.setTask rfl i hi 1 { T[i] with pos := (pastL (T[i].ops.drop T[i].pos) T[i].pos 1) } (.int .i64 ((pastL (T[i].ops.drop T[i].pos) T[i].pos 1) : Nat)) (Or.inl ⟨rfl, rfl, rfl⟩) rfl rfl
  have HX0 : Hid (w8.drew.cell? ⟨bT, off + i * 4, none⟩ = some (.slice ao T[i].ops.length co)) := z0
  have HX1 : Hid ((w8.drew.setCell ⟨bT, off + i * 4 + 1, none⟩ (.int .i64 ((pastL (T[i].ops.drop T[i].pos) T[i].pos 1) : Nat))).cell? ⟨bT, off + i * 4, none⟩ = some (.slice ao T[i].ops.length co)) := (World.cell?_setCell_other _ _ _ _ (by simp)).trans HX0.out
  have z1d : w8.drew.cell? ⟨bT, off + i * 4 + 1, none⟩ = some (.int .i64 (T[i].pos : Int)) := z1
  have hfzd : w8.drew.frozen? ⟨bT, off + i * 4 + 1, none⟩ = false := hfz
  clear HS9 z2 z0 z1 hfz
  refine wp_region_held_drew (S := (fun w' : World => w'.cell? ⟨bT, off + i * 4, none⟩ = some (.slice ao T[i].ops.length co))) (by kernel_rfl) ?_ (fun hHeld0 => ?_)
  · exact HX0.out
  refine tk0 (.pointer (some ⟨bT, off + i * 4, none⟩)) ?_
  try simp only [Act.put, pu1, pu2, pu3]
  refine tk1 (.pointer (some ⟨bT, off + i * 4, none⟩)) ?_
  try simp only [Act.put, pu1, pu2, pu3]
  refine tk2 (.pointer (some ⟨bT, off + i * 4, none⟩)) ?_
  try simp only [Act.put, pu1, pu2, pu3]
  refine tk3 (.pointer (some ⟨bT, off + i * 4, none⟩)) ?_
  try simp only [Act.put, pu1, pu2, pu3]
  refine tk4 (.slice ao T[i].ops.length co) ?_
  try simp only [Act.put, pu1, pu2, pu3]
  refine tk5 (.pointer (some ⟨bT, off + i * 4, none⟩)) ?_
  try simp only [Act.put, pu1, pu2, pu3]
  refine tk6 (.pointer (some ⟨bT, off + i * 4, none⟩)) ?_
  try simp only [Act.put, pu1, pu2, pu3]
  refine tk7 (.pointer (some ⟨bT, off + i * 4 + 1, none⟩)) ?_
  try simp only [Act.put, pu1, pu2, pu3]
  refine cl8 (by kernel_rfl) rfl (fun K hK => ?_)
  go_simp
  refine hK.out _ _ ?_ (fun hHeld => ?_)
  · exact HX0.out
  clear hK K
  try simp only [Act.put, pu1, pu2, pu3]
  refine cl9 (by kernel_rfl) rfl (fun K hK => ?_)
  go_simp
  go_at_call 54
  refine (past_any HV.out T[i].pos hpos hlo).mono ?_
  rintro e w9 ⟨rfl, rfl⟩
  refine hK.out _ _ ?_ (fun hHeld => ?_)
  · exact HX0.out
  clear hK K
  try simp only [Act.put, pu1, pu2, pu3]
  refine tk10 (.pointer (some ⟨bT, off + i * 4, none⟩)) ?_
  try simp only [Act.put, pu1, pu2, pu3]
  refine tk11 (.pointer (some ⟨bT, off + i * 4 + 1, none⟩)) ?_
  try simp only [Act.put, pu1, pu2, pu3]
  refine cl12 (by kernel_rfl) rfl (fun K hK => ?_)
  go_simp
  refine hK.out _ _ ?_ (fun hHeld => ?_)
  · exact HX1.out
  clear hK K
  try simp only [Act.put, pu1, pu2, pu3]
  refine wpAnyH_done (by kernel_rfl) ?_ _
  clear hHeld
  go_wp2
  go_ret2
  exact ⟨rfl, ro8, ⟨_, _, od7, FIN.out.1⟩, (Kept.of B1.out).trans (k7.trans (kk8.trans ((Kept.of ((Below.refl _ w8).drew)).trans FIN.out.2)))⟩
end
end Go.Proofs.Ythhlglbohibekaa
namespace Go.Proofs.Ythhlglbohibekaa
open Go.RowKit

theorem RowAt.inn {w : World} {v : Value} {l : List Int} (h : RowAt intC w v l) : IntsIn w v l := by
  obtain ⟨a, cap, e, h1, h2, h3⟩ := h.ex
  cases a with
  | none =>
    have h4 := h2 rfl
    exact Or.inl ⟨by rw [e, h4.1, h4.2], List.length_eq_zero_iff.1 h4.1⟩
  | some x =>
    refine Or.inr ⟨x, cap, e, h1, ?_, fun j u hu => ?_⟩
    · rcases h3 with h3 | ⟨bk, off, e2, h4, _⟩
      · exact Or.inl h3
      · rw [Option.some.inj e2]
        exact Or.inr h4
    · rcases h3 with h3 | ⟨bk, off, e2, _, h5⟩
      · have : l = [] := List.length_eq_zero_iff.1 h3
        subst this
        simp [intL] at hu
      · rw [Option.some.inj e2, Addr.add_mid]
        exact h5 j u (by rw [rowL_int]; exact hu)
theorem ownsRow_low {w : World} {b b' k n : Nat} {E : TypeId} {v : Value} {xs : List Value} (h : w.ownsRow b E k v n xs) (hb : b' ≤ b) : w.ownsRow b' E k v n xs := by
  refine ⟨h.1, ?_⟩
  rcases h.2 with h1 | ⟨g, cap, cur, h1, h2, h3⟩
  · exact Or.inl h1
  · exact Or.inr ⟨g, cap, cur, h1, Nat.le_trans hb h2, h3⟩
theorem Slid.own {α : Type} {k : Nat} {enc : α → List Value} {E : TypeId} {w : World} {v : Value} {l : List α} {base : Nat} (h : w.ownsRow base E k v l.length (rowL enc l)) : Slid enc k E w v l := by
  rcases h.2 with ⟨h1, h2⟩ | ⟨g, cap, cur, h1, h2, h3, h4, h5, h6, h7⟩
  · exact ⟨Or.inl ⟨h1, List.length_eq_zero_iff.1 h2⟩⟩
  · exact ⟨Or.inr ⟨g, 0, cap, cur, h1, h3, h4, h5, by omega, by rw [List.drop_zero]; exact h7⟩⟩
section
variable {w w1 : World} {base D : Nat} {ro : Nat → Option Nat} {vT vL : Value} {tv : List Tv} {od : List Nat} {T : List Tk} {L : List (Int × Ob)}
section
variable {P : Program} {md : Region.Mode} {Q : Exit → Act → World → Prop} {S : World → Prop} {fuel : Nat} {listed : Array Bool} {a : Act} {w : World} {l : List Oper}
theorem rd4_8 {o0 o1 o2 o3 o4 o5 o6 o7 o8 : Oper} (hr : Region.ready md (o0 :: o1 :: o2 :: o3 :: o4 :: o5 :: o6 :: o7 :: o8 :: l).toArray listed = [4, 8]) (hw0 : Region.wanted o4 (yielded (o0 :: o1 :: o2 :: o3 :: o4 :: o5 :: o6 :: o7 :: o8 :: l).toArray a.tmps) = true) (hw1 : Region.wanted o8 (yielded (o0 :: o1 :: o2 :: o3 :: o4 :: o5 :: o6 :: o7 :: o8 :: l).toArray a.tmps) = true)
    (h0 : ∀ K' : Act → World → Prop, Shut (∀ a w, S w → (S w → wpAnyH P md (o0 :: o1 :: o2 :: o3 :: o4 :: o5 :: o6 :: o7 :: o8 :: l).toArray Q S fuel (listed.setIfInBounds 4 true) a w) → K' a w) → Oper.wp P o4 a w K' Q)
    (h1 : ∀ K' : Act → World → Prop, Shut (∀ a w, S w → (S w → wpAnyH P md (o0 :: o1 :: o2 :: o3 :: o4 :: o5 :: o6 :: o7 :: o8 :: l).toArray Q S fuel (listed.setIfInBounds 8 true) a w) → K' a w) → Oper.wp P o8 a w K' Q) : wpAnyH P md (o0 :: o1 :: o2 :: o3 :: o4 :: o5 :: o6 :: o7 :: o8 :: l).toArray Q S (fuel + 1) listed a w :=
  wpAnyH_ready hr (by simp) (AllReadyH.cons (o := o4) rfl (fun K hK => by rw [if_pos hw0]; exact h0 K hK) (AllReadyH.cons (o := o8) rfl (fun K hK => by rw [if_pos hw1]; exact h1 K hK) AllReadyH.nil))
theorem rd5_8 {o0 o1 o2 o3 o4 o5 o6 o7 o8 : Oper} (hr : Region.ready md (o0 :: o1 :: o2 :: o3 :: o4 :: o5 :: o6 :: o7 :: o8 :: l).toArray listed = [5, 8]) (hw0 : Region.wanted o5 (yielded (o0 :: o1 :: o2 :: o3 :: o4 :: o5 :: o6 :: o7 :: o8 :: l).toArray a.tmps) = true) (hw1 : Region.wanted o8 (yielded (o0 :: o1 :: o2 :: o3 :: o4 :: o5 :: o6 :: o7 :: o8 :: l).toArray a.tmps) = true)
    (h0 : ∀ K' : Act → World → Prop, Shut (∀ a w, S w → (S w → wpAnyH P md (o0 :: o1 :: o2 :: o3 :: o4 :: o5 :: o6 :: o7 :: o8 :: l).toArray Q S fuel (listed.setIfInBounds 5 true) a w) → K' a w) → Oper.wp P o5 a w K' Q)
    (h1 : ∀ K' : Act → World → Prop, Shut (∀ a w, S w → (S w → wpAnyH P md (o0 :: o1 :: o2 :: o3 :: o4 :: o5 :: o6 :: o7 :: o8 :: l).toArray Q S fuel (listed.setIfInBounds 8 true) a w) → K' a w) → Oper.wp P o8 a w K' Q) : wpAnyH P md (o0 :: o1 :: o2 :: o3 :: o4 :: o5 :: o6 :: o7 :: o8 :: l).toArray Q S (fuel + 1) listed a w :=
  wpAnyH_ready hr (by simp) (AllReadyH.cons (o := o5) rfl (fun K hK => by rw [if_pos hw0]; exact h0 K hK) (AllReadyH.cons (o := o8) rfl (fun K hK => by rw [if_pos hw1]; exact h1 K hK) AllReadyH.nil))
end
set_option maxHeartbeats 3200000 in
set_option maxRecDepth 100000 in
theorem do_run (h : SkAt w base D ro vT vL tv od T L) (i : Nat) (hi : i < T.length) (num N : Int) (hiK : i ≤ 65536) (hL : L.length < 65536) (hq : (obG L 3 num).l.length < 65536) (hz : (oDZ (obG L 3 num).h (obG L 3 num).l (i : Int)) = 0) (hr : oDR (obG L 3 num).h (obG L 3 num).b (obG L 3 num).l (i : Int) = true) (hlr : T[i].runs.length ≤ 65536) : Calls Try.prog 38 #[.pointer (some ⟨D, 0, none⟩), .int .i64 (i : Int), .agg #[.int .i64 7, .int .i64 num, .int .i64 N]] w fun e w' => e = .returned (.tuple #[.bool (oDW (obG L 3 num).h (obG L 3 num).b (obG L 3 num).l (i : Int)), .int .i64 0]) ∧ ∃ ro' vL' tv' od', SkAt w' base D ro' vT vL' tv' od' ((T.set i { T[i] with runs := T[i].runs ++ [num] })) (obPut L 3 num (onDo (obG L 3 num) (i : Int))) ∧ Kept w w' (fun b => ro b ≠ none) (fun b => ro' b ≠ none) := by
  have B1 : Hid _ := (Below.refl _ w).alloc (Nat.le_refl _) (.cells #[.int .i64 7, .int .i64 num, .int .i64 N] 45)
  have HS1 : Hid _ := h.fresh B1.out
  have hDl := lt_of_block h.hd
  obtain ⟨bT, off, cap, _, _, _, _, ev, hb, _, _, _, _⟩ := HS1.out.task i hi
  obtain ⟨_, _, c0, _⟩ := HS1.out.cells
  rw [ev] at c0
  have hfd := field_ob3
  have ht : okI (i : Int) := by unfold okI; omega
  have q1 : ((oDZ (obG L 3 num).h (obG L 3 num).l (i : Int)) == 0) = true := beq_iff_eq.2 hz
  have q2 : ((oDZ (obG L 3 num).h (obG L 3 num).l (i : Int)) != 0) = false := by rw [bne, q1]; rfl
  have etl := h.tl
  have HB : Hid (∀ b, ro b ≠ none → b < w.heap.size) := fun b hb => (h.bd b hb).2
  clear h
  subst ev
  go_enter Try.func38, Try.ntmps38
  go_wp2_with (first | (go_at_call 34; refine (sk_obj3 HS1.out num hL).mono ?_; rintro e w7 ⟨ro7, vL7, od7, d, rfl, hd', h7', k7⟩; have hd : Hid _ := hd'; have h7 : Hid _ := h7'; clear hd' h7'; have hm7 := (h7.out.obj hd.out).on (obG_at L 3 num).2) | (go_at_call 53; refine (on_do hm7 (i : Int) ht hq).mono ?_; rintro e w8 ⟨rfl, S8, h8, k8⟩; obtain ⟨ro8, hs8', kk8, _⟩ := h7.out.did hd.out (o := onDo (obG L 3 num) (i : Int)) (obG_at L 3 num).2 (ObAt.ofOn (obG_at L 3 num).2 h8) k8; have hs8 : Hid _ := hs8'; clear hs8' h8 k8 hm7))
  obtain ⟨bT2, off2, cap2, ao, co, ar, cr, ev2, hb2, z0, z1, z2, z3⟩ := hs8.out.task i hi
  simp only [Value.slice.injEq, Option.some.injEq, Addr.mk.injEq] at ev2
  obtain ⟨⟨rfl, rfl, _⟩, _, rfl⟩ := ev2
  have hit : i < tv.length := by omega
  have hfz : w8.frozen? ⟨bT, off + i * 4 + 3, none⟩ = false := hs8.out.ts.at'.free _
  have HS9 : SkAt w8.drew base D ro8 (.slice (some ⟨bT, off, none⟩) T.length cap) vL7 tv od7 T (obPut L 3 num (onDo (obG L 3 num) (i : Int))) := hs8.out.keep (Nat.le_refl _) (fun _ _ => rfl)
  have e2 : tv[i].2 = .slice ar T[i].runs.length cr := by
    have e3 : (tv.zip T).length = T.length := by rw [List.length_zip, etl, Nat.min_self]
    obtain ⟨b9, o9, c9, ev9, _, _, hx⟩ := (hs8.out.ts.at'.row tkC_len).cells tkC_len (by omega)
    simp only [Value.slice.injEq, Option.some.injEq, Addr.mk.injEq] at ev9
    obtain ⟨⟨rfl, rfl, _⟩, _, rfl⟩ := ev9
    have hz9 : (tv.zip T)[i]'(by omega) = (tv[i], T[i]) := List.getElem_zip
    have e4 : w8.cell? ⟨bT, off + i * 4 + 3, none⟩ = some tv[i].2 := hx i (by omega) 3 _ (by decide) (by rw [hz9]; rfl)
    rw [z3] at e4
    exact (Option.some.inj e4).symm
  have HI : Hid (IntsIn w8.drew (.slice ar T[i].runs.length cr) T[i].runs) := by
    have e1 := (HS9.ru i hit hi).at'.row intC_len
    rw [e2] at e1
    exact e1.inn
  have hX8 : w8.heap[w.heap.size]? = some (.cells #[.int .i64 7, .int .i64 num, .int .i64 N] 45 (0, 0)) := ((k7.trans kk8).kept _ (by simp) (fun e => by have := HB.out _ e; omega)).trans (heap_alloc_new w _)
  have hXl := lt_of_block hX8
  have hTl : bT < w8.drew.heap.size := hb2
  have hXT : w.heap.size ≠ bT := fun e => by
    obtain ⟨cur, hbk⟩ := hs8.out.ts.at'.slot
    rw [← e, hX8] at hbk
    simp only [Option.some.injEq, Obj.cells.injEq] at hbk
    exact absurd hbk.2.1 (by decide)
  have HX : Hid (w8.drew.heap[w.heap.size]? = some (.cells #[.int .i64 7, .int .i64 num, .int .i64 N] 45 (0, 0))) := hX8
  have HXA : Hid (∀ o, (w8.drew.alloc o).heap[w.heap.size]? = some (.cells #[.int .i64 7, .int .i64 num, .int .i64 N] 45 (0, 0))) := fun o => (Below.heap_alloc w8.drew o _ hXl).trans hX8
  have KX1 : Hid (∀ w' : World, w'.heap[w.heap.size]? = some (.cells #[.int .i64 7, .int .i64 num, .int .i64 N] 45 (0, 0)) → w'.cell? ⟨w.heap.size, 1, none⟩ = some (.int .i64 num)) := fun w' e => by simp [World.cell?, e]
  have HG : Hid (∀ w' : World, Below w8.drew.heap.size w8.drew w' → w'.cell? ⟨bT, off + i * 4 + 3, none⟩ = some (.slice ar T[i].runs.length cr) ∧ w'.frozen? ⟨bT, off + i * 4 + 3, none⟩ = false ∧ w'.heap[w.heap.size]? = some (.cells #[.int .i64 7, .int .i64 num, .int .i64 N] 45 (0, 0))) := fun w' b => ⟨(b.cell (p := ⟨bT, off + i * 4 + 3, none⟩) hb2).trans z3, (b.frozen (p := ⟨bT, off + i * 4 + 3, none⟩) hb2).trans hfz, (b.block _ hXl).trans hX8⟩
  have KD : Hid (Kept w8 w8.drew (fun b => ro8 b ≠ none) (fun b => ro8 b ≠ none)) := Kept.of (Below.refl _ w8).drew
  have FIN : Hid (∀ (u : Value) (w' : World), Below w8.drew.heap.size w8.drew w' → w'.ownsRow w8.drew.heap.size 3 1 u (0 + T[i].runs.length + [num].length) ([] ++ intL T[i].runs ++ intL [num]) → SkAt (w'.setCell ⟨bT, off + i * 4 + 3, none⟩ u) base D (fun b => if u.ownBlock = some b then some 0 else ro8 b) (.slice (some ⟨bT, off, none⟩) T.length cap) vL7 (tv.set i (tv[i].1, u)) od7 (T.set i { T[i] with runs := T[i].runs ++ [num] }) (obPut L 3 num (onDo (obG L 3 num) (i : Int))) ∧ Kept w8.drew (w'.setCell ⟨bT, off + i * 4 + 3, none⟩ u) (fun b => ro8 b ≠ none) (fun b => (if u.ownBlock = some b then some 0 else ro8 b) ≠ none)) := fun u w' b hu => by
    refine HS9.setRuns b rfl i hi hit u (T[i].runs ++ [num]) (Slid.own (base := w8.drew.heap.size) ?_) (fun g hg => Or.inl (hu.lt g hg).1)
    have e5 : rowL intC (T[i].runs ++ [num]) = [] ++ intL T[i].runs ++ intL [num] := by rw [rowL_int]; unfold intL; simp
    rw [e5, List.length_append, ← Nat.zero_add T[i].runs.length]
    exact hu
  have z3d : w8.drew.cell? ⟨bT, off + i * 4 + 3, none⟩ = some (.slice ar T[i].runs.length cr) := z3
  have za : ∀ o, (w8.drew.alloc o).cell? ⟨bT, off + i * 4 + 3, none⟩ = some (.slice ar T[i].runs.length cr) := fun o => (World.cell?_of_block (a := ⟨bT, off + i * 4 + 3, none⟩) (Below.heap_alloc w8.drew o bT hb2)).trans z3
  have hXl9 : w.heap.size < w8.drew.heap.size := hXl
  clear HS9 z2 z0 z1 z3 hfz e2 hX8
  refine wp_region_held_drew (S := (fun w' : World => w'.heap[w.heap.size]? = some (.cells #[.int .i64 7, .int .i64 num, .int .i64 N] 45 (0, 0)))) (by kernel_rfl) ?_ (fun hHeld0 => ?_)
  · exact HX.out
  generalize w8.drew = w9 at *
  clear hHeld0
  have hHeld0 := HX.out
  refine tk0 (.pointer (some ⟨bT, off + i * 4, none⟩)) ?_
  try simp only [Act.put, pu1, pu2, pu3]
  refine tk1 (.pointer (some ⟨bT, off + i * 4, none⟩)) ?_
  try simp only [Act.put, pu1, pu2, pu3]
  refine tk2 (.pointer (some ⟨bT, off + i * 4, none⟩)) ?_
  try simp only [Act.put, pu1, pu2, pu3]
  refine tk3 (.pointer (some ⟨bT, off + i * 4 + 3, none⟩)) ?_
  try simp only [Act.put, pu1, pu2, pu3]
  refine tk6 (.pointer (some ⟨w.heap.size, 1, none⟩)) ?_
  try simp only [Act.put, pu1, pu2, pu3]
  refine tk7 (.int .i64 num) ?_ (fun w hSw => by (try dsimp only at hSw); have x1 := KX1.out w hSw; clear hSw; go_simp)
  try simp only [Act.put, pu1, pu2, pu3]
  refine rd4_8 (by kernel_rfl) rfl rfl (fun K hK => ?_) (fun K hK => ?_)
  · go_simp
    refine hK.out _ _ ?_ (fun hHeld => ?_)
    · first | exact HX.out | exact HXA.out _ | exact (Below.heap_alloc w5 _ _ (by have := bb5.size; omega)).trans (HG.out w5 bb5).2.2
    clear hK K
    try simp only [Act.put, pu1, pu2, pu3]
    refine rd5_8 (by kernel_rfl) rfl rfl (fun K hK => ?_) (fun K hK => ?_)
    · refine wp_app_in (.const (.slice none 0 0)) (.tmp 87) rfl (base := w9.heap.size) rfl rfl (World.ownsRow_nil _ _ _ _) HI.out (Nat.le_refl _) (by omega) ?_
      intro u5 w5 h5 b5
      have bb5 : Below w9.heap.size w9 w5 := b5
      refine hK.out _ _ ?_ (fun hHeld => ?_)
      · exact (HG.out w5 bb5).2.2
      clear hK K
      try simp only [Act.put, pu1, pu2, pu3]
      refine cl8 (by kernel_rfl) rfl (fun K hK => ?_)
      go_simp
      refine hK.out _ _ ?_ (fun hHeld => ?_)
      · first | exact HX.out | exact HXA.out _ | exact (Below.heap_alloc w5 _ _ (by have := bb5.size; omega)).trans (HG.out w5 bb5).2.2
      clear hK K
      try simp only [Act.put, pu1, pu2, pu3]
      refine cl9 (by kernel_rfl) rfl (fun K hK => ?_)
      refine wp_app_in (.tmp 88) (.tmp 91) rfl (base := w9.heap.size) (l := [num]) rfl rfl (h5.alloc _) (RowAt.built (heap_alloc_new w5 _) rfl 1 rfl rfl).inn (by have := bb5.size; simp; omega) (by simp; omega) ?_
      intro u6 w6 h6 b6
      have bb6 : Below w9.heap.size w9 w6 := (bb5.alloc bb5.size _).trans b6
      obtain ⟨p6, n6, q6, rfl⟩ := own_form h6
      obtain ⟨y6, x6, s6⟩ := HG.out w6 bb6
      refine hK.out _ _ ?_ (fun hHeld => ?_)
      · exact s6
      clear hK K
      try simp only [Act.put, pu1, pu2, pu3]
      refine tk10 (.pointer (some ⟨bT, off + i * 4, none⟩)) ?_
      try simp only [Act.put, pu1, pu2, pu3]
      refine tk11 (.pointer (some ⟨bT, off + i * 4 + 3, none⟩)) ?_
      try simp only [Act.put, pu1, pu2, pu3]
      refine cl12 (by kernel_rfl) rfl (fun K hK => ?_)
      go_simp
      refine hK.out _ _ ?_ (fun hHeld => ?_)
      · exact (heap_setCell_other _ _ _ _ (by simpa using hXT)).trans s6
      clear hK K
      try simp only [Act.put, pu1, pu2, pu3]
      refine wpAnyH_done (by kernel_rfl) ?_ _
      clear hHeld
      go_wp2
      go_ret2
      obtain ⟨k1, k2⟩ := FIN.out _ w6 bb6 h6
      exact ⟨rfl, _, ⟨_, _, od7, k1⟩, (Kept.of B1.out).trans (k7.trans (kk8.trans (KD.out.trans k2)))⟩
    · go_simp
      refine hK.out _ _ ?_ (fun hHeld => ?_)
      · first | exact HX.out | exact HXA.out _ | exact (Below.heap_alloc w5 _ _ (by have := bb5.size; omega)).trans (HG.out w5 bb5).2.2
      clear hK K
      try simp only [Act.put, pu1, pu2, pu3]
      refine cl5 (by kernel_rfl) rfl (fun K hK => ?_)
      refine wp_app_in (.const (.slice none 0 0)) (.tmp 87) rfl (base := (w9.alloc (.cells #[.int .i64 num] 3)).heap.size) rfl rfl (World.ownsRow_nil _ _ _ _) (HI.out.fresh ((Below.refl _ w9).alloc (Nat.le_refl _) _) (Nat.le_refl _)) (Nat.le_refl _) (by omega) ?_
      intro u5 w5 h5 b5
      have bb5 : Below w9.heap.size w9 w5 := ((Below.refl _ w9).alloc (Nat.le_refl _) _).trans (b5.mono (by simp))
      refine hK.out _ _ ?_ (fun hHeld => ?_)
      · exact (HG.out w5 bb5).2.2
      clear hK K
      try simp only [Act.put, pu1, pu2, pu3]
      refine cl9 (by kernel_rfl) rfl (fun K hK => ?_)
      refine wp_app_in (.tmp 88) (.tmp 91) rfl (base := w9.heap.size) (l := [num]) rfl rfl (ownsRow_low h5 (by simp)) (IntsIn.fresh (RowAt.built (heap_alloc_new w9 _) rfl 1 rfl rfl).inn b5 (Nat.le_refl _)) bb5.size (by simp; omega) ?_
      intro u6 w6 h6 b6
      have bb6 : Below w9.heap.size w9 w6 := bb5.trans b6
      obtain ⟨p6, n6, q6, rfl⟩ := own_form h6
      obtain ⟨y6, x6, s6⟩ := HG.out w6 bb6
      refine hK.out _ _ ?_ (fun hHeld => ?_)
      · exact s6
      clear hK K
      try simp only [Act.put, pu1, pu2, pu3]
      refine tk10 (.pointer (some ⟨bT, off + i * 4, none⟩)) ?_
      try simp only [Act.put, pu1, pu2, pu3]
      refine tk11 (.pointer (some ⟨bT, off + i * 4 + 3, none⟩)) ?_
      try simp only [Act.put, pu1, pu2, pu3]
      refine cl12 (by kernel_rfl) rfl (fun K hK => ?_)
      go_simp
      refine hK.out _ _ ?_ (fun hHeld => ?_)
      · exact (heap_setCell_other _ _ _ _ (by simpa using hXT)).trans s6
      clear hK K
      try simp only [Act.put, pu1, pu2, pu3]
      refine wpAnyH_done (by kernel_rfl) ?_ _
      clear hHeld
      go_wp2
      go_ret2
      obtain ⟨k1, k2⟩ := FIN.out _ w6 bb6 h6
      exact ⟨rfl, _, ⟨_, _, od7, k1⟩, (Kept.of B1.out).trans (k7.trans (kk8.trans (KD.out.trans k2)))⟩
  · go_simp
    refine hK.out _ _ ?_ (fun hHeld => ?_)
    · first | exact HX.out | exact HXA.out _ | exact (Below.heap_alloc w5 _ _ (by have := bb5.size; omega)).trans (HG.out w5 bb5).2.2
    clear hK K
    try simp only [Act.put, pu1, pu2, pu3]
    refine cl4 (by kernel_rfl) rfl (fun K hK => ?_)
    go_simp
    refine hK.out _ _ ?_ (fun hHeld => ?_)
    · first | exact HX.out | exact HXA.out _ | exact (Below.heap_alloc w5 _ _ (by have := bb5.size; omega)).trans (HG.out w5 bb5).2.2
    clear hK K
    try simp only [Act.put, pu1, pu2, pu3]
    refine cl5 (by kernel_rfl) rfl (fun K hK => ?_)
    refine wp_app_in (.const (.slice none 0 0)) (.tmp 87) rfl (base := (w9.alloc (.cells #[.int .i64 num] 3)).heap.size) rfl rfl (World.ownsRow_nil _ _ _ _) (HI.out.fresh ((Below.refl _ w9).alloc (Nat.le_refl _) _) (Nat.le_refl _)) (Nat.le_refl _) (by omega) ?_
    intro u5 w5 h5 b5
    have bb5 : Below w9.heap.size w9 w5 := ((Below.refl _ w9).alloc (Nat.le_refl _) _).trans (b5.mono (by simp))
    refine hK.out _ _ ?_ (fun hHeld => ?_)
    · exact (HG.out w5 bb5).2.2
    clear hK K
    try simp only [Act.put, pu1, pu2, pu3]
    refine cl9 (by kernel_rfl) rfl (fun K hK => ?_)
    refine wp_app_in (.tmp 88) (.tmp 91) rfl (base := w9.heap.size) (l := [num]) rfl rfl (ownsRow_low h5 (by simp)) (IntsIn.fresh (RowAt.built (heap_alloc_new w9 _) rfl 1 rfl rfl).inn b5 (Nat.le_refl _)) bb5.size (by simp; omega) ?_
    intro u6 w6 h6 b6
    have bb6 : Below w9.heap.size w9 w6 := bb5.trans b6
    obtain ⟨p6, n6, q6, rfl⟩ := own_form h6
    obtain ⟨y6, x6, s6⟩ := HG.out w6 bb6
    refine hK.out _ _ ?_ (fun hHeld => ?_)
    · exact s6
    clear hK K
    try simp only [Act.put, pu1, pu2, pu3]
    refine tk10 (.pointer (some ⟨bT, off + i * 4, none⟩)) ?_
    try simp only [Act.put, pu1, pu2, pu3]
    refine tk11 (.pointer (some ⟨bT, off + i * 4 + 3, none⟩)) ?_
    try simp only [Act.put, pu1, pu2, pu3]
    refine cl12 (by kernel_rfl) rfl (fun K hK => ?_)
    go_simp
    refine hK.out _ _ ?_ (fun hHeld => ?_)
    · exact (heap_setCell_other _ _ _ _ (by simpa using hXT)).trans s6
    clear hK K
    try simp only [Act.put, pu1, pu2, pu3]
    refine wpAnyH_done (by kernel_rfl) ?_ _
    clear hHeld
    go_wp2
    go_ret2
    obtain ⟨k1, k2⟩ := FIN.out _ w6 bb6 h6
    exact ⟨rfl, _, ⟨_, _, od7, k1⟩, (Kept.of B1.out).trans (k7.trans (kk8.trans (KD.out.trans k2)))⟩
end
end Go.Proofs.Ythhlglbohibekaa
namespace Go.Proofs.Ythhlglbohibekaa
open Go.RowKit

structure ObOk (n k : Nat) (o : Ob) : Prop where
  ln : o.l.length + o.q.length ≤ k
  li : ∀ x ∈ o.l, 0 ≤ x ∧ x < (n : Int)
  qi : ∀ y ∈ o.q, 0 ≤ y.1 ∧ y.1 < (n : Int)
  gh : o.k = 2 → 0 ≤ o.h ∧ o.h ≤ 1073741824
theorem ObOk.new (n k : Nat) (j : Int) : ObOk n k (obNew j) := ⟨Nat.zero_le _, fun _ h => (by cases h), fun _ h => (by cases h), fun e => by
  have e1 : j = 2 := e
  subst e1
  decide⟩
theorem ObOk.get {n k : Nat} {L : List (Int × Ob)} (h : ∀ p ∈ L, ObOk n k p.2) (j num : Int) : ObOk n k (obG L j num) := by
  have h1 := (obG_at L j num).1
  unfold obAdd at h1
  split at h1
  · exact h _ (List.mem_of_getElem? h1)
  · have h2 := List.mem_of_getElem? h1
    rw [List.mem_append] at h2
    rcases h2 with h2 | h2
    · exact h _ h2
    · have h3 := List.mem_singleton.1 h2
      have h4 : obG L j num = obNew j := congrArg Prod.snd h3
      rw [h4]
      exact ObOk.new n k j
theorem rwGo_got : ∀ (q : List Wt) (L : List Int) (wt : Bool), (rwGo L wt q).1.length ≤ q.length ∧ ∀ x ∈ (rwGo L wt q).1, ∃ y ∈ q, y.1 = x
  | [], L, wt => by simp [rwGo]
  | y :: q, L, wt => by
    rw [rwGo]
    split
    · obtain ⟨h1, h2⟩ := rwGo_got q (putL L y.1) (!y.2.1)
      refine ⟨by simp; omega, fun x hx => ?_⟩
      simp only [List.mem_cons] at hx
      rcases hx with rfl | hx
      · exact ⟨y, List.mem_cons_self, rfl⟩
      · obtain ⟨z, h3, h4⟩ := h2 x hx
        exact ⟨z, List.mem_cons_of_mem _ h3, h4⟩
    · exact ⟨Nat.zero_le _, fun x hx => by cases hx⟩
theorem rwU_got {n k : Nat} {o : Ob} (h : ObOk n k o) (t : Int) (rd : Bool) : (rwU o.l o.b o.q t rd).1.length ≤ k ∧ ∀ x ∈ (rwU o.l o.b o.q t rd).1, 0 ≤ x ∧ x < (n : Int) := by
  unfold rwU
  split
  · exact ⟨Nat.zero_le _, fun x hx => by cases hx⟩
  · obtain ⟨h1, h2⟩ := rwGo_got o.q (dropL o.l t) o.b
    refine ⟨by have := h.ln; omega, fun x hx => ?_⟩
    obtain ⟨y, h3, h4⟩ := h2 x hx
    rw [← h4]
    exact h.qi y h3
theorem unN_got {n k : Nat} {o : Ob} (h : ObOk n k o) (t : Int) (hz : unZ o.h t = 0) (hn : 0 ≤ unN o.h o.l t) : unN o.h o.l t < (n : Int) := by
  unfold unZ at hz
  unfold unN at hn ⊢
  split at hz
  · exact absurd hz (by decide)
  · rename_i h0
    rw [if_neg h0] at hn ⊢
    cases hl : o.l with
    | nil =>
      rw [hl] at hn
      exact absurd hn (by decide)
    | cons x r => exact (h.li x (by rw [hl]; exact List.mem_cons_self)).2
def lkR (T : List Tk) (L : List (Int × Ob)) (t : Int) (o : Opx) : Bool × Int × List Tk × List (Int × Ob) :=
  if o.1 = 1 ∧ o.2.2 = 0 then (!lockB (obG L 0 o.2.1).h (obG L 0 o.2.1).l t, lockZ (obG L 0 o.2.1).h (obG L 0 o.2.1).l t, T, obPut L 0 o.2.1 (mxLk (obG L 0 o.2.1) t))
  else if o.1 = 1 ∧ o.2.2 = 1 ∨ o.1 = 3 then (!rwB (obG L 1 o.2.1).l (obG L 1 o.2.1).b (obG L 1 o.2.1).q t (decide (o.1 = 3)), rwZ (obG L 1 o.2.1).l (obG L 1 o.2.1).q t, T, obPut L 1 o.2.1 (rwLk (obG L 1 o.2.1) t (decide (o.1 = 3))))
  else if o.1 = 2 ∧ o.2.2 = 0 then (false, unZ (obG L 0 o.2.1).h t, (if unZ (obG L 0 o.2.1).h t = 0 ∧ 0 ≤ unN (obG L 0 o.2.1).h (obG L 0 o.2.1).l t then wakeT T [unN (obG L 0 o.2.1).h (obG L 0 o.2.1).l t] else T), obPut L 0 o.2.1 (mxUn (obG L 0 o.2.1) t))
  else if o.1 = 2 ∧ o.2.2 = 1 ∨ o.1 = 4 then (false, rwUZ (obG L 1 o.2.1).l (obG L 1 o.2.1).b t (decide (o.1 = 4)), wakeT T (rwU (obG L 1 o.2.1).l (obG L 1 o.2.1).b (obG L 1 o.2.1).q t (decide (o.1 = 4))).1, obPut L 1 o.2.1 (rwUn (obG L 1 o.2.1) t (decide (o.1 = 4))))
  else (false, 1, T, L)
def ocR (T : List Tk) (L : List (Int × Ob)) (i : Nat) (o : Opx) : Bool × Int × List Tk × List (Int × Ob) :=
  match T[i]? with
  | none => (false, 1, T, L)
  | some t =>
    if o.1 = 8 then (if t.runs.getLast? = some o.2.1 then (false, oEZ (obG L 3 o.2.1).h (i : Int), wakeT (T.set i { t with runs := t.runs.dropLast }) (oEO (obG L 3 o.2.1).h (obG L 3 o.2.1).l (i : Int)), obPut L 3 o.2.1 (onEnd (obG L 3 o.2.1) (i : Int))) else (false, 1, T, L))
    else if oDZ (obG L 3 o.2.1).h (obG L 3 o.2.1).l (i : Int) ≠ 0 then (false, oDZ (obG L 3 o.2.1).h (obG L 3 o.2.1).l (i : Int), T, obPut L 3 o.2.1 (onDo (obG L 3 o.2.1) (i : Int)))
    else (oDW (obG L 3 o.2.1).h (obG L 3 o.2.1).b (obG L 3 o.2.1).l (i : Int), 0, (if oDR (obG L 3 o.2.1).h (obG L 3 o.2.1).b (obG L 3 o.2.1).l (i : Int) = true then T.set i { t with runs := t.runs ++ [o.2.1] } else T.set i { t with pos := pastL (t.ops.drop t.pos) t.pos 1 }), obPut L 3 o.2.1 (onDo (obG L 3 o.2.1) (i : Int)))
section
variable {w : World} {base D : Nat} {ro : Nat → Option Nat} {vT vL : Value} {tv : List Tv} {od : List Nat} {T : List Tk} {L : List (Int × Ob)}
theorem sk_lock (h : SkAt w base D ro vT vL tv od T L) (t : Int) (ht : okI t) (k : Nat) (hk : k < 65536) (hL : L.length ≤ k) (hO : ∀ p ∈ L, ObOk T.length k p.2) (o : Opx) : Calls Try.prog 39 #[.pointer (some ⟨D, 0, none⟩), .int .i64 t, .agg #[.int .i64 o.1, .int .i64 o.2.1, .int .i64 o.2.2]] w fun e w' => e = .returned (.tuple #[.bool (lkR T L t o).1, .int .i64 (lkR T L t o).2.1]) ∧ ∃ ro' vL' od', SkAt w' base D ro' vT vL' tv od' (lkR T L t o).2.2.1 (lkR T L t o).2.2.2 ∧ Kept w w' (fun b => ro b ≠ none) (fun b => ro' b ≠ none) := by
  obtain ⟨K, num, N⟩ := o
  have h0 := ObOk.get hO 0 num
  have h1 := ObOk.get hO 1 num
  have l0 := h0.ln
  have l1 := h1.ln
  have herr : ∀ (hc : lkR T L t (K, num, N) = (false, 1, T, L)), (Calls Try.prog 39 #[.pointer (some ⟨D, 0, none⟩), .int .i64 t, .agg #[.int .i64 K, .int .i64 num, .int .i64 N]] w fun e w' => e = .returned (.tuple #[.bool false, .int .i64 1]) ∧ SkAt w' base D ro vT vL tv od T L ∧ Below w.heap.size w w') → Calls Try.prog 39 #[.pointer (some ⟨D, 0, none⟩), .int .i64 t, .agg #[.int .i64 K, .int .i64 num, .int .i64 N]] w fun e w' => e = .returned (.tuple #[.bool (lkR T L t (K, num, N)).1, .int .i64 (lkR T L t (K, num, N)).2.1]) ∧ ∃ ro' vL' od', SkAt w' base D ro' vT vL' tv od' (lkR T L t (K, num, N)).2.2.1 (lkR T L t (K, num, N)).2.2.2 ∧ Kept w w' (fun b => ro b ≠ none) (fun b => ro' b ≠ none) := fun hc hw => by
    rw [hc]
    exact hw.mono (fun e w' ⟨e1, e2, e3⟩ => ⟨e1, ro, vL, od, e2, Kept.of e3⟩)
  by_cases k1 : K = 1
  · subst k1
    by_cases n0 : N = 0
    · subst n0
      exact lk_lock0 h t num ht (by omega) (by omega)
    · by_cases n1 : N = 1
      · subst n1
        exact lk_lock1 h t num (by omega) (by omega) ht
      · exact herr (by unfold lkR; rw [if_neg (fun e => n0 e.2), if_neg (fun e => e.elim (fun e => n1 e.2) (by simp)), if_neg (by simp), if_neg (by simp)]) (lk_err1 h t num N n0 n1)
  by_cases k2 : K = 2
  · subst k2
    by_cases n0 : N = 0
    · subst n0
      exact lk_un0 h t num (by omega) (unN_got h0 t)
    · by_cases n1 : N = 1
      · subst n1
        exact lk_un1 h t num (by omega) (by omega) (by have := rwU_got h1 t false; exact ⟨by omega, this.2⟩)
      · exact herr (by unfold lkR; rw [if_neg (by simp), if_neg (by simp), if_neg (fun e => n0 e.2), if_neg (fun e => e.elim (fun e => n1 e.2) (by simp))]) (lk_err2 h t num N n0 n1)
  by_cases k3 : K = 3
  · subst k3
    exact lk_rlock h t num N (by omega) (by omega) ht
  by_cases k4 : K = 4
  · subst k4
    exact lk_run h t num N (by omega) (by omega) (by have := rwU_got h1 t true; exact ⟨by omega, this.2⟩)
  exact herr (by unfold lkR; rw [if_neg (fun e => k1 e.1), if_neg (fun e => e.elim (fun e => k1 e.1) k3), if_neg (fun e => k2 e.1), if_neg (fun e => e.elim (fun e => k2 e.1) k4)]) (lk_errK h t num K N k1 k2 k3 k4)
theorem sk_once (h : SkAt w base D ro vT vL tv od T L) (i : Nat) (hi : i < T.length) (hT : T.length ≤ 65536) (k : Nat) (hk : k < 65536) (hL : L.length ≤ k) (hO : ∀ p ∈ L, ObOk T.length k p.2) (hp : T[i].pos ≤ 65536) (hlo : T[i].ops.length ≤ 65536) (hlr : T[i].runs.length ≤ 65536) (o : Opx) (ho : o.1 = 7 ∨ o.1 = 8) : Calls Try.prog 38 #[.pointer (some ⟨D, 0, none⟩), .int .i64 (i : Int), .agg #[.int .i64 o.1, .int .i64 o.2.1, .int .i64 o.2.2]] w fun e w' => e = .returned (.tuple #[.bool (ocR T L i o).1, .int .i64 (ocR T L i o).2.1]) ∧ ∃ ro' vL' tv' od', SkAt w' base D ro' vT vL' tv' od' (ocR T L i o).2.2.1 (ocR T L i o).2.2.2 ∧ Kept w w' (fun b => ro b ≠ none) (fun b => ro' b ≠ none) := by
  obtain ⟨K, num, N⟩ := o
  have h3 := ObOk.get hO 3 num
  have l3 := h3.ln
  unfold ocR
  rw [List.getElem?_eq_getElem hi]
  simp only at ho ⊢
  rcases ho with rfl | rfl
  · rw [if_neg (by decide)]
    by_cases hz : oDZ (obG L 3 num).h (obG L 3 num).l (i : Int) = 0
    · rw [if_neg (fun e => e hz)]
      cases hr : oDR (obG L 3 num).h (obG L 3 num).b (obG L 3 num).l (i : Int) with
      | true => exact do_run h i hi num N (by omega) (by omega) (by omega) hz hr hlr
      | false => exact do_past h i hi num N (by omega) (by omega) (by omega) hz hr hp hlo
    · rw [if_pos hz]
      exact do_err h i hi num N (by omega) (by omega) (by omega) hz
  · rw [if_pos rfl]
    by_cases hl : T[i].runs.getLast? = some num
    · rw [if_pos hl]
      refine on_end h i hi num N hl (by omega) ?_
      unfold oEO
      split
      · exact ⟨Nat.zero_le _, fun x hx => by cases hx⟩
      · exact ⟨by omega, h3.li⟩
    · rw [if_neg hl]
      cases hg : T[i].runs.getLast? with
      | none => exact on_err0 h i hi num N (List.getLast?_eq_none_iff.1 hg)
      | some last => exact on_err1 h i hi num N last hg (fun e => hl (by rw [hg, e]))
end
end Go.Proofs.Ythhlglbohibekaa
