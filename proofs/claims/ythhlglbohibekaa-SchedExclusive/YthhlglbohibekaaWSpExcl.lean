/-
  Tasks that lock a mutex, yield some times, and unlock it, by the plain function: whatever picks, no two are within at once, no error comes, and all come to their ends. No condition.
-/
import Derived.Test.YthhlglbohibekaaWPackK
namespace Go.Proofs.Ythhlglbohibekaa
open Go.RowKit

def exOps (y : Nat) : List Opx := (1, 1, 0) :: (List.replicate y (9, 0, 0) ++ [(2, 1, 0)])
theorem exOps_len (y : Nat) : (exOps y).length = y + 2 := by simp [exOps]
/-- A task: how often it yields, where it is, whether it is blocked. -/
def exT (x : Nat × Nat × Bool) : Tk := ⟨exOps x.1, x.2.1, x.2.2, []⟩
def mxO (h : Int) (l : List Int) : Ob := ⟨0, h, false, l, []⟩
theorem exOps_yield {y p : Nat} (h1 : 1 ≤ p) (h2 : p ≤ y) : (exOps y)[p]? = some (9, 0, 0) := by
  obtain ⟨q, rfl⟩ : ∃ q, p = q + 1 := ⟨p - 1, by omega⟩
  unfold exOps
  rw [List.getElem?_cons_succ, List.getElem?_append_left (by simp; omega), List.getElem?_replicate, if_pos (by omega)]
theorem exOps_last (y : Nat) : (exOps y)[y + 1]? = some (2, 1, 0) := by
  unfold exOps
  rw [List.getElem?_cons_succ, List.getElem?_append_right (by simp)]
  simp
/-- What holds behind k steps; 'inn': who was within last. -/
structure EI (inn : Int) (k : Nat) (ys : List Nat) (T : List Tk) (L : List (Int × Ob)) : Prop where
  ex : ∃ xs : List (Nat × Nat × Bool), T = xs.map exT ∧ xs.map (·.1) = ys ∧ k = (xs.map (·.2.1)).sum ∧
    ((∀ x ∈ xs, x.2.2 = false ∧ (x.2.1 = 0 ∨ x.2.1 = x.1 + 2)) ∧ inn = -1 ∧ (L = [] ∨ L = [(1, mxO (-1) [])]) ∨
     ∃ (r : Nat) (l : List Int) (yr pr : Nat), xs[r]? = some (yr, pr, false) ∧ 1 ≤ pr ∧ pr ≤ yr + 1 ∧ (∀ j x, j ≠ r → xs[j]? = some x → x.2.1 = 0 ∧ x.2.2 = false ∨ x.2.1 = 1 ∧ x.2.2 = true ∨ x.2.1 = x.1 + 2 ∧ x.2.2 = false) ∧ (∀ j : Nat, (j : Int) ∈ l ↔ ∃ x, xs[j]? = some x ∧ x.2.2 = true) ∧ (∀ x ∈ l, 0 ≤ x) ∧ l.Nodup ∧ L = [(1, mxO (r : Int) l)] ∧ (inn = -1 ∨ inn = (r : Int)))
theorem ex_get (xs : List (Nat × Nat × Bool)) (j : Nat) : (xs.map exT)[j]? = (xs[j]?).map exT := List.getElem?_map
theorem ex_set (xs : List (Nat × Nat × Bool)) (j : Nat) (x : Nat × Nat × Bool) : (xs.map exT).set j (exT x) = (xs.set j x).map exT := by rw [List.map_set]
theorem xs_set_ne {xs : List (Nat × Nat × Bool)} {i j : Nat} {x : Nat × Nat × Bool} (h : j ≠ i) : (xs.set i x)[j]? = xs[j]? := List.getElem?_set_ne (fun e => h e.symm)
theorem mx_obG {L : List (Int × Ob)} {h : Int} {l : List Int} (hL : L = [] ∧ h = -1 ∧ l = [] ∨ L = [(1, mxO h l)]) : obG L 0 1 = mxO h l := by
  rcases hL with ⟨rfl, rfl, rfl⟩ | rfl
  · simp [obG, obAdd, obFind, obNew, mxO]
  · exact obG_one 1 (mxO h l)
theorem mx_obPut {L : List (Int × Ob)} {h : Int} {l : List Int} (hL : L = [] ∧ h = -1 ∧ l = [] ∨ L = [(1, mxO h l)]) (o : Ob) : obPut L 0 1 o = [(1, o)] := by
  rcases hL with ⟨rfl, rfl, rfl⟩ | rfl
  · simp [obPut, obAdd, obFind]
  · exact obPut_one 1 (mxO h l) o
theorem ex_lock_free {L : List (Int × Ob)} (hL : L = [] ∨ L = [(1, mxO (-1) [])]) (T : List Tk) (i : Nat) : acR T L i (1, 1, 0) = (false, 0, T, [(1, mxO (i : Int) [])]) := by
  have hL' : L = [] ∧ (-1 : Int) = -1 ∧ ([] : List Int) = [] ∨ L = [(1, mxO (-1) [])] := hL.imp (fun e => ⟨e, rfl, rfl⟩) id
  unfold acR
  rw [if_neg (by decide), if_neg (by decide), if_neg (by decide), if_neg (by decide)]
  unfold lkR
  rw [if_pos ⟨rfl, rfl⟩]
  simp only [mx_obG hL', mx_obPut hL']
  have e1 : lockB (mxO (-1) []).h (mxO (-1) []).l (i : Int) = true := decide_eq_true ⟨by omega, by show ¬ (-1 : Int) = (i : Int); omega, (by intro e; cases e), by show (-1 : Int) < 0; decide⟩
  have e2 : lockZ (mxO (-1) []).h (mxO (-1) []).l (i : Int) = 0 := by
    unfold lockZ
    rw [if_neg (by omega), if_neg (fun e => e.elim (fun e => by have : (-1 : Int) = (i : Int) := e; omega) (fun e => by cases e))]
  have e3 : mxLk (mxO (-1) []) (i : Int) = mxO (i : Int) [] := by
    have eW : lockW (mxO (-1) []).h (mxO (-1) []).l (i : Int) = (i : Int) := by unfold lockW; rw [e1]; rfl
    have eL : lockL (mxO (-1) []).h (mxO (-1) []).l (i : Int) = [] := by unfold lockL; rw [if_neg (fun e => e.2 (by show (-1 : Int) < 0; decide))]; rfl
    unfold mxLk
    rw [eW, eL]
    rfl
  rw [e1, e2, e3]
  rfl
theorem ex_lock_wait (r : Nat) (l : List Int) (T : List Tk) (i : Nat) (hir : i ≠ r) (hil : (i : Int) ∉ l) : acR T [(1, mxO (r : Int) l)] i (1, 1, 0) = (true, 0, T, [(1, mxO (r : Int) (l ++ [(i : Int)]))]) := by
  have hG : obG [(1, mxO (r : Int) l)] 0 1 = mxO (r : Int) l := mx_obG (Or.inr rfl)
  have hP : ∀ o, obPut [(1, mxO (r : Int) l)] 0 1 o = [(1, o)] := fun o => mx_obPut (h := (r : Int)) (l := l) (Or.inr rfl) o
  unfold acR
  rw [if_neg (by decide), if_neg (by decide), if_neg (by decide), if_neg (by decide)]
  unfold lkR
  rw [if_pos ⟨rfl, rfl⟩]
  simp only [hG, hP]
  have e1 : lockB (mxO (r : Int) l).h (mxO (r : Int) l).l (i : Int) = false := decide_eq_false (fun e => absurd e.2.2.2 (by show ¬ (r : Int) < 0; omega))
  have e2 : lockZ (mxO (r : Int) l).h (mxO (r : Int) l).l (i : Int) = 0 := by
    unfold lockZ
    rw [if_neg (by omega), if_neg (fun e => e.elim (fun e => by have : (r : Int) = (i : Int) := e; omega) hil)]
  have e3 : mxLk (mxO (r : Int) l) (i : Int) = mxO (r : Int) (l ++ [(i : Int)]) := by
    have eW : lockW (mxO (r : Int) l).h (mxO (r : Int) l).l (i : Int) = (r : Int) := by unfold lockW; rw [e1]; rfl
    have eL : lockL (mxO (r : Int) l).h (mxO (r : Int) l).l (i : Int) = l ++ [(i : Int)] := by unfold lockL; rw [if_pos ⟨e2, by show ¬ (r : Int) < 0; omega⟩]; rfl
    unfold mxLk
    rw [eW, eL]
    rfl
  rw [e1, e2, e3]
  rfl
theorem ex_unlock (r : Nat) (l : List Int) (T : List Tk) (hlp : ∀ x ∈ l, 0 ≤ x) : acR T [(1, mxO (r : Int) l)] r (2, 1, 0) = (false, 0, wakeT T (l.take 1), [(1, mxO (l.headD (-1)) l.tail)]) := by
  have hG : obG [(1, mxO (r : Int) l)] 0 1 = mxO (r : Int) l := mx_obG (Or.inr rfl)
  have hP : ∀ o, obPut [(1, mxO (r : Int) l)] 0 1 o = [(1, o)] := fun o => mx_obPut (h := (r : Int)) (l := l) (Or.inr rfl) o
  unfold acR
  rw [if_neg (by decide), if_neg (by decide), if_neg (by decide), if_neg (by decide)]
  unfold lkR
  rw [if_neg (by decide), if_neg (by decide), if_pos ⟨rfl, rfl⟩]
  simp only [hG, hP]
  have hn : ¬ ((r : Int) < 0 ∨ ¬ (mxO (r : Int) l).h = (r : Int)) := fun e => e.elim (fun e => by omega) (fun e => e rfl)
  have e1 : unZ (mxO (r : Int) l).h (r : Int) = 0 := by unfold unZ; rw [if_neg hn]
  have e2 : unN (mxO (r : Int) l).h (mxO (r : Int) l).l (r : Int) = l.headD (-1) := by unfold unN; rw [if_neg hn]; rfl
  have e3 : mxUn (mxO (r : Int) l) (r : Int) = mxO (l.headD (-1)) l.tail := by
    unfold mxUn unW unL
    rw [if_neg hn, if_neg hn]
    rfl
  rw [e1, e2, e3]
  cases l with
  | nil => rfl
  | cons x l =>
    have := hlp x (by simp)
    rw [if_pos ⟨rfl, this⟩]
    rfl
theorem ex_sum {xs : List (Nat × Nat × Bool)} {i y p : Nat} {b b' : Bool} (h : xs[i]? = some (y, p, b)) : ((xs.set i (y, p + 1, b')).map (·.2.1)).sum = (xs.map (·.2.1)).sum + 1 := by
  obtain ⟨hi, e⟩ := List.getElem?_eq_some_iff.1 h
  rw [List.map_set]
  have := sum_set (ps := xs.map (·.2.1)) (j := i) (by simpa using hi) (p + 1)
  rw [List.getElem_map, e] at this
  simp only at this ⊢
  omega
theorem ex_ys {xs : List (Nat × Nat × Bool)} {i y p : Nat} {b : Bool} (h : xs[i]? = some (y, p, b)) (p' : Nat) (b' : Bool) : (xs.set i (y, p', b')).map (·.1) = xs.map (·.1) := by
  obtain ⟨hi, e⟩ := List.getElem?_eq_some_iff.1 h
  rw [List.map_set]
  apply List.ext_getElem
  · simp
  · intro j h1 h2
    rw [List.getElem_set]
    split
    · rename_i ej
      subst ej
      rw [List.getElem_map, e]
    · rfl
theorem EI.end_ {inn : Int} {k : Nat} {ys : List Nat} {T : List Tk} {L : List (Int × Ob)} (h : EI inn k ys T L) (hr : readyL T = []) : endedB T = true := by
  have hn := readyL_nil hr
  obtain ⟨xs, rfl, hy, hk, ⟨h1, _⟩ | ⟨r, l, yr, pr, hx, h1, h2, _⟩⟩ := h.ex
  · refine endedB_of fun t ht => ?_
    obtain ⟨x, hx, rfl⟩ := List.mem_map.1 ht
    obtain ⟨hb, hp⟩ := h1 x hx
    refine ⟨hb, ?_⟩
    rcases hp with hp | hp
    · have := hn _ ht
      unfold tkR exT at this
      rw [hb, hp, exOps_len] at this
      simp at this
    · show ¬ x.2.1 < (exOps x.1).length
      rw [exOps_len]
      omega
  · have := hn (exT (yr, pr, false)) (List.mem_map.2 ⟨_, List.mem_of_getElem? hx, rfl⟩)
    unfold tkR exT at this
    simp only [exOps_len] at this
    rw [decide_eq_true (by omega)] at this
    cases this
theorem EI.few {inn : Int} {k : Nat} {ys : List Nat} {T : List Tk} {L : List (Int × Ob)} (h : EI inn k ys T L) (h8 : ys.length ≤ 8) (h5 : ∀ y ∈ ys, y ≤ 5) : k ≤ 56 := by
  obtain ⟨xs, rfl, rfl, rfl, hc⟩ := h.ex
  have hall : ∀ x ∈ xs, x.2.1 ≤ 7 := fun x hx => by
    have h6 := h5 x.1 (List.mem_map.2 ⟨x, hx, rfl⟩)
    rcases hc with ⟨h1, _⟩ | ⟨r, l, yr, pr, hxr, h1, h2, h3, _⟩
    · rcases (h1 x hx).2 with e | e <;> omega
    · obtain ⟨j, hj, rfl⟩ := List.getElem_of_mem hx
      have hg : xs[j]? = some xs[j] := List.getElem?_eq_getElem hj
      by_cases hjr : j = r
      · subst hjr
        rw [hxr] at hg
        rw [← Option.some.inj hg] at h6 ⊢
        simp only at h6 ⊢
        omega
      · rcases h3 j _ hjr hg with e | e | e <;> omega
  have hlen : xs.length ≤ 8 := by simpa using h8
  have hsum : ∀ q : List (Nat × Nat × Bool), (∀ x ∈ q, x.2.1 ≤ 7) → (q.map (·.2.1)).sum ≤ 7 * q.length := by
    intro q
    induction q with
    | nil => intro _; simp
    | cons a q ih =>
      intro hq
      have := hq a (by simp)
      have := ih (fun x hx => hq x (by simp [hx]))
      simp only [List.map_cons, List.sum_cons, List.length_cons]
      omega
  have := hsum xs hall
  omega
theorem ex_go {xs : List (Nat × Nat × Bool)} {i y p : Nat} (hi : xs[i]? = some (y, p, false)) {o : Opx} (ho : (exOps y)[p]? = some o) {L L2 : List (Int × Ob)} {wt : Bool} {T2 : List Tk} {xs' : List (Nat × Nat × Bool)}
    (hac : acR ((xs.set i (y, p + 1, false)).map exT) L i o = (wt, 0, T2, L2)) (hb : setBl T2 i (wt && ((0 : Int) == 0)) = xs'.map exT) : spR (xs.map exT) L (i : Int) = (((i : Int), (p : Int), 0), 0, xs'.map exT, L2) :=
  spR_to (t := exT (y, p, false)) (T1 := (xs.set i (y, p + 1, false)).map exT) (o := o) (by rw [ex_get, hi]; rfl) rfl ho (ex_set xs i (y, p + 1, false)) hac hb
theorem ex_p_same {xs : List (Nat × Nat × Bool)} {i y p : Nat} {b : Bool} (h : xs[i]? = some (y, p, b)) (b' : Bool) : (xs.set i (y, p, b')).map (·.2.1) = xs.map (·.2.1) := by
  obtain ⟨hi, e⟩ := List.getElem?_eq_some_iff.1 h
  rw [List.map_set]
  apply List.ext_getElem
  · simp
  · intro j h1 h2
    rw [List.getElem_set]
    split
    · rename_i ej
      subst ej
      rw [List.getElem_map, e]
    · rfl
theorem EI.step {inn : Int} {k : Nat} {ys : List Nat} {T : List Tk} {L : List (Int × Ob)} (h : EI inn k ys T L) {z : Int} (hz : z ∈ readyL T) : ∃ (i y p : Nat) (inn' : Int) (T2 : List Tk) (L2 : List (Int × Ob)), z = (i : Int) ∧ ys[i]? = some y ∧ spR T L z = (((i : Int), (p : Int), 0), 0, T2, L2) ∧ EI inn' (k + 1) ys T2 L2 ∧
    (0 < p ∧ p < y + 1 ∧ (inn = -1 ∨ inn = (i : Int)) ∧ inn' = (i : Int) ∨ 0 < p ∧ ¬ p < y + 1 ∧ inn = (i : Int) ∧ inn' = -1 ∨ 0 < p ∧ ¬ p < y + 1 ∧ inn ≠ (i : Int) ∧ inn' = inn ∨ p = 0 ∧ inn' = inn) := by
  obtain ⟨xs, rfl, hy, hk, hc⟩ := h.ex
  obtain ⟨i, hi, rfl, hr⟩ := readyL_mem hz
  have his : i < xs.length := by simpa using hi
  obtain ⟨⟨y, p, b⟩, hx⟩ : ∃ x, xs[i]? = some x := ⟨xs[i], List.getElem?_eq_getElem his⟩
  have hat : (xs.map exT)[i] = exT (y, p, b) := by
    have : (xs.map exT)[i]? = some (exT (y, p, b)) := by rw [ex_get, hx]; rfl
    rw [List.getElem?_eq_getElem hi] at this
    exact Option.some.inj this
  rw [hat] at hr
  obtain ⟨hb0, hp0⟩ := tkR_is hr
  have hb : b = false := hb0
  subst hb
  have hp : p < y + 2 := by
    have : p < (exOps y).length := hp0
    rw [exOps_len] at this
    exact this
  have hyi : ys[i]? = some y := by rw [← hy, List.getElem?_map, hx]; rfl
  have hself : ∀ x, (xs.set i x)[i]? = some x := fun x => List.getElem?_set_self his
  have hsame : ∀ x : Nat × Nat × Bool, x.2.2 = false → setBl ((xs.set i x).map exT) i false = (xs.set i x).map exT := fun x hb => setBl_same (t := exT x) (by rw [ex_get, hself]; rfl) hb
  have hys : ∀ p' b', (xs.set i (y, p', b')).map (·.1) = ys := fun p' b' => by rw [ex_ys hx]; exact hy
  have hsum : ∀ b', k + 1 = ((xs.set i (y, p + 1, b')).map (·.2.1)).sum := fun b' => by rw [ex_sum hx, ← hk]
  rcases hc with ⟨h1, hin, hL⟩ | ⟨r, l, yr, pr, hxr, h1, h2, ho, hil, hlp, hnd, rfl, hin⟩
  · have hp1 : p = 0 := by
      rcases (h1 _ (List.mem_of_getElem? hx)).2 with e | e
      · exact e
      · have e : p = y + 2 := e
        omega
    subst hp1
    refine ⟨i, y, 0, inn, _, _, rfl, hyi, ex_go (xs' := xs.set i (y, 1, false)) hx (o := (1, 1, 0)) rfl (ex_lock_free hL _ i) (hsame _ rfl), ⟨_, rfl, hys 1 false, hsum false, Or.inr ⟨i, [], y, 1, hself _, Nat.le_refl _, by omega, fun j x hj hxj => ?_, fun j => ?_, fun x hx => (by cases hx), List.nodup_nil, rfl, Or.inl hin⟩⟩, Or.inr (Or.inr (Or.inr ⟨rfl, rfl⟩))⟩
    · rw [xs_set_ne hj] at hxj
      obtain ⟨e1, e2⟩ := h1 x (List.mem_of_getElem? hxj)
      exact e2.elim (fun e2 => Or.inl ⟨e2, e1⟩) (fun e2 => Or.inr (Or.inr ⟨e2, e1⟩))
    · refine ⟨fun e => (by cases e), fun ⟨x, hxj, e⟩ => ?_⟩
      exfalso
      by_cases hj : j = i
      · subst hj
        rw [hself] at hxj
        rw [← Option.some.inj hxj] at e
        cases e
      · rw [xs_set_ne hj] at hxj
        rw [(h1 x (List.mem_of_getElem? hxj)).1] at e
        cases e
  · have hrl : (r : Int) ∉ l := fun e => by
      obtain ⟨x, hx2, e2⟩ := (hil r).1 e
      rw [hxr] at hx2
      rw [← Option.some.inj hx2] at e2
      cases e2
    by_cases hir : i = r
    · subst hir
      rw [hxr] at hx
      simp only [Option.some.injEq, Prod.mk.injEq, and_true] at hx
      obtain ⟨rfl, rfl⟩ := hx
      by_cases hpy : pr ≤ yr
      · refine ⟨i, yr, pr, (i : Int), _, _, rfl, hyi, ex_go (xs' := xs.set i (yr, pr + 1, false)) hxr (exOps_yield h1 hpy) (ac_yield _ _ i) (hsame _ rfl), ⟨_, rfl, hys (pr + 1) false, hsum false, Or.inr ⟨i, l, yr, pr + 1, hself _, by omega, by omega, fun j x hj hxj => ?_, fun j => ?_, hlp, hnd, rfl, Or.inr rfl⟩⟩, Or.inl ⟨by omega, by omega, hin, rfl⟩⟩
        · rw [xs_set_ne hj] at hxj
          exact ho j x hj hxj
        · by_cases hj : j = i
          · subst hj
            refine ⟨fun e => absurd e hrl, fun ⟨x, hxj, e⟩ => ?_⟩
            rw [hself] at hxj
            rw [← Option.some.inj hxj] at e
            cases e
          · rw [xs_set_ne hj]
            exact hil j
      · obtain rfl : pr = yr + 1 := by omega
        have hinn : ∃ inn', inn' = -1 ∧ (0 < yr + 1 ∧ yr + 1 < yr + 1 ∧ (inn = -1 ∨ inn = (i : Int)) ∧ inn' = (i : Int) ∨ 0 < yr + 1 ∧ ¬ yr + 1 < yr + 1 ∧ inn = (i : Int) ∧ inn' = -1 ∨ 0 < yr + 1 ∧ ¬ yr + 1 < yr + 1 ∧ inn ≠ (i : Int) ∧ inn' = inn ∨ yr + 1 = 0 ∧ inn' = inn) := by
          by_cases e : inn = (i : Int)
          · exact ⟨-1, rfl, Or.inr (Or.inl ⟨by omega, by omega, e, rfl⟩)⟩
          · rcases hin with hin | hin
            · exact ⟨-1, rfl, Or.inr (Or.inr (Or.inl ⟨by omega, by omega, e, hin.symm⟩))⟩
            · exact absurd hin e
        obtain ⟨inn', hi1, hi2⟩ := hinn
        have hun := ex_unlock i l ((xs.set i (yr, yr + 1 + 1, false)).map exT) hlp
        cases l with
        | nil =>
          refine ⟨i, yr, yr + 1, inn', _, _, rfl, hyi, ex_go (xs' := xs.set i (yr, yr + 1 + 1, false)) hxr (exOps_last yr) hun (hsame _ rfl), ⟨_, rfl, hys (yr + 2) false, hsum false, Or.inl ⟨fun x hx => ?_, hi1, Or.inr rfl⟩⟩, hi2⟩
          obtain ⟨j, hj, e⟩ := List.getElem_of_mem hx
          have hxj : (xs.set i (yr, yr + 1 + 1, false))[j]? = some x := by rw [List.getElem?_eq_getElem hj, e]
          by_cases hji : j = i
          · subst hji
            rw [hself] at hxj
            rw [← Option.some.inj hxj]
            exact ⟨rfl, Or.inr rfl⟩
          · rw [xs_set_ne hji] at hxj
            rcases ho j x hji hxj with e2 | e2 | e2
            · exact ⟨e2.2, Or.inl e2.1⟩
            · exact absurd ((hil j).2 ⟨x, hxj, e2.2⟩) (by intro e; cases e)
            · exact ⟨e2.2, Or.inr e2.1⟩
        | cons x l =>
          have hx0 := hlp x (by simp)
          obtain ⟨jx, rfl⟩ : ∃ jx : Nat, x = (jx : Int) := ⟨x.toNat, by omega⟩
          obtain ⟨⟨yx, px, bx⟩, hxx, hbx⟩ := (hil jx).1 (by simp)
          have hbx : bx = true := hbx
          subst hbx
          have hji : jx ≠ i := fun e => by
            rw [e, hxr] at hxx
            cases hxx
          have hpx : px = 1 := by
            rcases ho jx _ hji hxx with e | e | e
            · cases e.2
            · exact e.1
            · cases e.2
          subst hpx
          have hxx1 : (xs.set i (yr, yr + 1 + 1, false))[jx]? = some (yx, 1, true) := by rw [xs_set_ne hji]; exact hxx
          have hjl : jx < (xs.set i (yr, yr + 1 + 1, false)).length := (List.getElem?_eq_some_iff.1 hxx1).1
          have hself2 : ((xs.set i (yr, yr + 1 + 1, false)).set jx (yx, 1, false))[jx]? = some (yx, 1, false) := List.getElem?_set_self hjl
          have hother : ∀ j, j ≠ jx → j ≠ i → ((xs.set i (yr, yr + 1 + 1, false)).set jx (yx, 1, false))[j]? = xs[j]? := fun j h1 h2 => by rw [xs_set_ne h1, xs_set_ne h2]
          have hati : ((xs.set i (yr, yr + 1 + 1, false)).set jx (yx, 1, false))[i]? = some (yr, yr + 2, false) := by rw [xs_set_ne (fun e => hji e.symm), hself]
          have hwk : wakeT ((xs.set i (yr, yr + 1 + 1, false)).map exT) (((jx : Int) :: l).take 1) = ((xs.set i (yr, yr + 1 + 1, false)).set jx (yx, 1, false)).map exT := by
            show wake1 _ ((jx : Int)).toNat = _
            rw [Int.toNat_natCast]
            unfold wake1
            rw [ex_get, hxx1]
            exact ex_set _ jx (yx, 1, false)
          refine ⟨i, yr, yr + 1, inn', _, _, rfl, hyi, ex_go (xs' := (xs.set i (yr, yr + 1 + 1, false)).set jx (yx, 1, false)) hxr (exOps_last yr) hun (by
            rw [hwk]
            exact setBl_same (t := exT (yr, yr + 2, false)) (by rw [ex_get, hati]; rfl) rfl), ⟨_, rfl, ?_, ?_, Or.inr ⟨jx, l, yx, 1, hself2, Nat.le_refl _, by omega, fun j x hj hxj => ?_, fun j => ?_, fun x hx => hlp x (by simp [hx]), (List.nodup_cons.1 hnd).2, rfl, Or.inl hi1⟩⟩, hi2⟩
          · rw [ex_ys hxx1]
            exact hys _ _
          · rw [ex_p_same hxx1]
            exact hsum false
          · by_cases hj2 : j = i
            · subst hj2
              rw [hati] at hxj
              rw [← Option.some.inj hxj]
              exact Or.inr (Or.inr ⟨rfl, rfl⟩)
            · rw [hother j hj hj2] at hxj
              exact ho j x hj2 hxj
          · by_cases hj : j = jx
            · subst hj
              refine ⟨fun e => absurd e (List.nodup_cons.1 hnd).1, fun ⟨x, hxj, e⟩ => ?_⟩
              rw [hself2] at hxj
              rw [← Option.some.inj hxj] at e
              cases e
            · by_cases hj2 : j = i
              · subst hj2
                refine ⟨fun e => absurd (List.mem_cons_of_mem _ e) hrl, fun ⟨x, hxj, e⟩ => ?_⟩
                rw [hati] at hxj
                rw [← Option.some.inj hxj] at e
                cases e
              · rw [hother j hj hj2, ← hil j, List.mem_cons]
                exact ⟨Or.inr, fun e => e.elim (fun e => absurd (Int.ofNat.inj e) hj) id⟩
    · have hp1 : p = 0 := by
        rcases ho i _ hir hx with e | e | e
        · exact e.1
        · cases e.2
        · have e : p = y + 2 := e.1
          omega
      subst hp1
      have hni : (i : Int) ∉ l := fun e => by
        obtain ⟨x, hx2, e2⟩ := (hil i).1 e
        rw [hx] at hx2
        rw [← Option.some.inj hx2] at e2
        cases e2
      refine ⟨i, y, 0, inn, _, _, rfl, hyi, ex_go (xs' := xs.set i (y, 1, true)) hx (o := (1, 1, 0)) rfl (ex_lock_wait r l _ i hir hni) (by
        rw [setBl_at _ i (by simpa using his)]
        have e0 : ((xs.set i (y, 0 + 1, false)).map exT)[i]'(by simpa using his) = exT (y, 1, false) := by simp
        rw [e0]
        show ((xs.set i (y, 0 + 1, false)).map exT).set i (exT (y, 1, true)) = _
        rw [ex_set, List.set_set]), ⟨_, rfl, hys 1 true, hsum true, Or.inr ⟨r, l ++ [(i : Int)], yr, pr, by rw [xs_set_ne (fun e => hir e.symm)]; exact hxr, h1, h2, fun j x hj hxj => ?_, fun j => ?_, fun x hx => ?_, ?_, rfl, hin⟩⟩, Or.inr (Or.inr (Or.inr ⟨rfl, rfl⟩))⟩
      · by_cases hji : j = i
        · subst hji
          rw [hself] at hxj
          rw [← Option.some.inj hxj]
          exact Or.inr (Or.inl ⟨rfl, rfl⟩)
        · rw [xs_set_ne hji] at hxj
          exact ho j x hj hxj
      · by_cases hji : j = i
        · subst hji
          rw [hself]
          simp
        · rw [xs_set_ne hji, ← hil j, List.mem_append, List.mem_singleton]
          exact ⟨fun e => e.elim id (fun e => absurd (Int.ofNat.inj e) hji), Or.inl⟩
      · rcases List.mem_append.1 hx with hx | hx
        · exact hlp x hx
        · rw [List.mem_singleton] at hx
          omega
      · exact List.nodup_append.2 ⟨hnd, by simp, fun a ha c hc => by
          rw [List.mem_singleton] at hc
          subst hc
          exact fun e => hni (by rw [← e]; exact ha)⟩
theorem EI.start (ys : List Nat) : EI (-1) 0 ys ((ys.map exOps).map tkNew) [] :=
  ⟨ys.map fun y => (y, 0, false), by rw [List.map_map, List.map_map]; rfl, by rw [List.map_map]; exact List.map_id ys, by
    induction ys with
    | nil => rfl
    | cons y ys ih => simpa using ih, Or.inl ⟨fun x hx => by
      obtain ⟨y, _, rfl⟩ := List.mem_map.1 hx
      exact ⟨rfl, Or.inl rfl⟩, rfl, Or.inl rfl⟩⟩
end Go.Proofs.Ythhlglbohibekaa
