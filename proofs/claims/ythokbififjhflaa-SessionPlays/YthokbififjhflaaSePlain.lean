/-
  Sessions as plain data: what each call answers and leaves, and the bytes. No condition.
-/
import Derived.Test.YthokbififjhflaaPlain
namespace Go.Proofs.Ythokbififjhflaa

/-- A reply. -/
structure SeR where
  session : Int
  seq : Int
  err : Int
  token : Int
  n : Int
def SeR.zero : SeR := ⟨0, 0, 0, 0, 0⟩
/-- A session; its id is its place and 1. -/
structure SeX where
  client : Int
  life : Int
  op : Bool
  seq : Int
  said : Bool
  r : SeR
/-- At an id. -/
def seAt (l : List SeX) (id : Int) : Option SeX := if 1 ≤ id then l[id.toNat - 1]? else none
/-- A client's latest session; 0: none. -/
def seLatC : List Int → Int → Nat
  | [], _ => 0
  | x :: r, c => if x = c then r.length + 1 else seLatC r c
def seLat (l : List SeX) (c : Int) : Nat := seLatC (l.map (·.client)).reverse c
/-- Its life; 0: none. -/
def seLif (l : List SeX) (c : Int) : Int := if seLat l c = 0 then 0 else ((l[seLat l c - 1]?).map (·.life)).getD 0
/-- Which are open, of the first n. -/
def seOne (l : List SeX) (i : Nat) : Option Int := match l[i]? with | some x => if x.op = true then some ((i : Int) + 1) else none | none => none
def seAllN (l : List SeX) (n : Nat) : List Int := (List.range n).filterMap (seOne l)
def seAll (l : List SeX) : List Int := seAllN l l.length
/-- What each call leaves and answers. -/
def seMay (client life : Int) : Bool := decide (0 ≤ client) && decide (client < 8) && decide (1 ≤ life) && decide (life ≤ 1073741824)
def seNew (client life : Int) : SeX := ⟨client, life, true, 0, false, SeR.zero⟩
def seOpn (l : List SeX) (client life : Int) : List SeX × Int × Bool × Int :=
  if seMay client life = false then (l, 0, false, 1)
  else if life < seLif l client then (l, 0, false, 18)
  else if seLif l client = life then (l, (seLat l client : Int), false, 0)
  else if 256 ≤ (seAll l).length then (l, 0, false, 17)
  else (l ++ [seNew client life], (l.length : Int) + 1, true, 0)
def seCli (l : List SeX) (id : Int) : Int × Int × Bool := match seAt l id with | some x => (x.client, x.life, true) | none => (0, 0, false)
def seClo (l : List SeX) (id : Int) : List SeX × Bool := match seAt l id with | some x => (if x.op = true then (l.set (id.toNat - 1) { x with op := false }, true) else (l, false)) | none => (l, false)
def seBeg (l : List SeX) (id q : Int) : List SeX × SeR × Int := match seAt l id with
  | none => (l, SeR.zero, 4)
  | some x => if x.said = true ∧ x.seq = q then (l, x.r, 1) else if x.op = false then (l, SeR.zero, 4) else if q = x.seq then (l, SeR.zero, 2) else if q < x.seq then (l, SeR.zero, 3) else if 0 < x.seq ∧ x.said = false then (l, SeR.zero, 5) else (l.set (id.toNat - 1) { x with seq := q, said := false, r := SeR.zero }, SeR.zero, 0)
def seEnd (l : List SeX) (r : SeR) : List SeX × Bool := match seAt l r.session with
  | none => (l, false)
  | some x => if x.seq = 0 ∨ x.seq ≠ r.seq ∨ x.said = true then (l, false) else (l.set (r.session.toNat - 1) { x with said := true, r := r }, true)
/-- The bytes. -/
def seI (n : Int) : List UInt8 := enc (zig n)
def seBit (b : Bool) : Int := if b = true then 1 else 0
def seRow (i : Int) (x : SeX) : List UInt8 := seI i ++ seI x.client ++ seI x.life ++ seI (seBit x.op) ++ seI x.seq ++ seI (seBit x.said) ++ seI x.r.err ++ enc x.r.token.toNat ++ seI x.r.n
def seRowN (l : List SeX) (i : Nat) : List UInt8 := match l[i]? with | some x => seRow ((i : Int) + 1) x | none => []
def seRows (l : List SeX) (n : Nat) : List UInt8 := (List.range n).flatMap (seRowN l)
def seEndC (l : List SeX) (c : Nat) : List UInt8 := if 0 < seLat l c then seI c ++ seI (seLif l c) ++ seI (seLat l c) else []
def seEnds (l : List SeX) (n : Nat) : List UInt8 := (List.range n).flatMap (seEndC l)
def seCnt (l : List SeX) : Nat → Nat
  | 0 => 0
  | n + 1 => seCnt l n + if 0 < seLat l n then 1 else 0
def seEnc (l : List SeX) : List UInt8 := seI l.length ++ seRows l l.length ++ seI (seCnt l 8) ++ seEnds l 8
/-- What replies and sessions hold to. -/
structure SeR.Ok (r : SeR) : Prop where
  e0 : 0 ≤ r.err
  e1 : r.err ≤ 255
  t0 : 0 ≤ r.token
  t1 : r.token < 18446744073709551616
  n0 : -1073741824 ≤ r.n
  n1 : r.n ≤ 1073741824
structure SeX.Ok (x : SeX) (id : Int) : Prop where
  c0 : 0 ≤ x.client
  c1 : x.client < 8
  l0 : 1 ≤ x.life
  l1 : x.life ≤ 1073741824
  q0 : 0 ≤ x.seq
  q1 : x.seq ≤ 9223372036854775807
  no : x.said = false → x.r = SeR.zero
  yes : x.said = true → 0 < x.seq ∧ x.r.session = id ∧ x.r.seq = x.seq
  r : x.r.Ok
structure SeOk (l : List SeX) : Prop where
  each : ∀ (i : Nat) (x : SeX), l[i]? = some x → x.Ok ((i : Int) + 1)
  rise : ∀ (i j : Nat) (x y : SeX), i < j → l[i]? = some x → l[j]? = some y → x.client = y.client → x.life < y.life
  few : (seAll l).length ≤ 256

theorem SeR.zero_ok : SeR.zero.Ok := ⟨by decide, by decide, by decide, by decide, by decide, by decide⟩
/-- The latest. -/
theorem seLatC_le (c : Int) : ∀ L : List Int, seLatC L c ≤ L.length
  | [] => Nat.le_refl _
  | x :: r => by
    have := seLatC_le c r
    unfold seLatC
    split
    · simp
    · simp only [List.length_cons]; omega
theorem seLat_le (l : List SeX) (c : Int) : seLat l c ≤ l.length := by
  have := seLatC_le c (l.map (·.client)).reverse
  simpa [seLat] using this
theorem seLat_nil (c : Int) : seLat [] c = 0 := rfl
theorem seLif_nil (c : Int) : seLif [] c = 0 := rfl
theorem seLat_app (l : List SeX) (x : SeX) (c : Int) : seLat (l ++ [x]) c = if x.client = c then l.length + 1 else seLat l c := by
  unfold seLat
  rw [List.map_append, List.reverse_append]
  show (if x.client = c then _ else _) = _
  simp
theorem seLatC_at (c : Int) : ∀ L : List Int, seLatC L c = 0 ∧ (∀ x ∈ L, x ≠ c) ∨ ∃ k, seLatC L c = k + 1 ∧ k < L.length ∧ L.reverse[k]? = some c ∧ ∀ j, k < j → ∀ x, L.reverse[j]? = some x → x ≠ c
  | [] => Or.inl ⟨rfl, fun x hx => by cases hx⟩
  | y :: r => by
    by_cases hy : y = c
    · refine Or.inr ⟨r.length, by unfold seLatC; rw [if_pos hy], by simp, ?_, fun j hj x hx => ?_⟩
      · rw [List.reverse_cons, List.getElem?_append_right (by simp)]
        simp [hy]
      · rw [List.getElem?_eq_none (by simp; omega)] at hx
        cases hx
    · have e : seLatC (y :: r) c = seLatC r c := by rw [seLatC, if_neg hy]
      rw [e]
      rcases seLatC_at c r with ⟨h1, h2⟩ | ⟨k, h1, h2, h3, h4⟩
      · exact Or.inl ⟨h1, fun x hx => by rcases List.mem_cons.1 hx with rfl | hx; exact hy; exact h2 x hx⟩
      · refine Or.inr ⟨k, h1, by simp; omega, ?_, fun j hj x hx => ?_⟩
        · rw [List.reverse_cons, List.getElem?_append_left (by simpa using h2)]
          exact h3
        · rw [List.reverse_cons] at hx
          by_cases hjl : j < r.reverse.length
          · rw [List.getElem?_append_left hjl] at hx
            exact h4 j hj x hx
          · rw [List.getElem?_append_right (by omega)] at hx
            have : j - r.reverse.length = 0 := by
              rcases Nat.eq_zero_or_pos (j - r.reverse.length) with h | h
              · exact h
              · rw [List.getElem?_eq_none (by simp at h ⊢; omega)] at hx
                cases hx
            rw [this] at hx
            simp only [List.getElem?_cons_zero, Option.some.injEq] at hx
            rw [← hx]
            exact hy
theorem seLat_at (l : List SeX) (c : Int) : seLat l c = 0 ∧ (∀ (i : Nat) (x : SeX), l[i]? = some x → x.client ≠ c) ∨ ∃ (k : Nat) (x : SeX), seLat l c = k + 1 ∧ l[k]? = some x ∧ x.client = c ∧ ∀ (j : Nat), k < j → ∀ y : SeX, l[j]? = some y → y.client ≠ c := by
  rcases seLatC_at c (l.map (·.client)).reverse with ⟨h1, h2⟩ | ⟨k, h1, h2, h3, h4⟩
  · exact Or.inl ⟨h1, fun i x hx => h2 _ (by rw [List.mem_reverse]; exact List.mem_map.2 ⟨x, List.mem_of_getElem? hx, rfl⟩)⟩
  · rw [List.reverse_reverse, List.getElem?_map] at h3
    cases hx : l[k]? with
    | none => rw [hx] at h3; cases h3
    | some x =>
      rw [hx] at h3
      refine Or.inr ⟨k, x, h1, hx, by simpa using h3, fun j hj y hy => h4 j hj _ ?_⟩
      rw [List.reverse_reverse, List.getElem?_map, hy]
      rfl
theorem seLif_eq {l : List SeX} {c : Int} {k : Nat} {x : SeX} (h : seLat l c = k + 1) (hx : l[k]? = some x) : seLif l c = x.life := by
  unfold seLif
  rw [h, if_neg (by omega), Nat.add_sub_cancel, hx]
  rfl
theorem seLif_zero {l : List SeX} {c : Int} (h : seLat l c = 0) : seLif l c = 0 := by
  unfold seLif
  rw [if_pos h]
theorem seLif_app (l : List SeX) (x : SeX) (c : Int) : seLif (l ++ [x]) c = if x.client = c then x.life else seLif l c := by
  by_cases hc : x.client = c
  · rw [if_pos hc]
    exact seLif_eq (k := l.length) (by rw [seLat_app, if_pos hc]) (by simp)
  · rw [if_neg hc]
    have e : seLat (l ++ [x]) c = seLat l c := by rw [seLat_app, if_neg hc]
    rcases seLat_at l c with ⟨h1, _⟩ | ⟨k, y, h1, h2, _, _⟩
    · rw [seLif_zero (e.trans h1), seLif_zero h1]
    · rw [seLif_eq (e.trans h1) (x := y) (by rw [List.getElem?_append_left (List.getElem?_eq_some_iff.1 h2).1]; exact h2), seLif_eq h1 h2]
theorem set_at {α : Type} {l : List α} {k : Nat} {x y : α} (h : l[k]? = some x) (i : Nat) : (l.set k y)[i]? = if i = k then some y else l[i]? := by
  rw [List.getElem?_set]
  by_cases e : k = i
  · subst e
    rw [if_pos rfl, if_pos rfl, if_pos (List.getElem?_eq_some_iff.1 h).1]
  · rw [if_neg e, if_neg (fun h => e h.symm)]
theorem seLat_set {l : List SeX} {k : Nat} {x y : SeX} (h : l[k]? = some x) (hc : y.client = x.client) (c : Int) : seLat (l.set k y) c = seLat l c := by
  unfold seLat
  have e : (l.set k y).map (·.client) = l.map (·.client) := by
    apply List.ext_getElem?
    intro i
    rw [List.getElem?_map, List.getElem?_map, set_at h]
    by_cases hi : i = k
    · subst hi
      rw [if_pos rfl, h]
      simp [hc]
    · rw [if_neg hi]
  rw [e]
theorem seLif_set {l : List SeX} {k : Nat} {x y : SeX} (h : l[k]? = some x) (hc : y.client = x.client) (hf : y.life = x.life) (c : Int) : seLif (l.set k y) c = seLif l c := by
  rcases seLat_at l c with ⟨h1, _⟩ | ⟨j, z, h1, h2, _, _⟩
  · rw [seLif_zero ((seLat_set h hc c).trans h1), seLif_zero h1]
  · rw [seLif_eq h1 h2]
    by_cases hj : j = k
    · subst hj
      rw [h] at h2
      cases h2
      rw [seLif_eq ((seLat_set h hc c).trans h1) (x := y) (by rw [set_at h, if_pos rfl]), hf]
    · exact seLif_eq ((seLat_set h hc c).trans h1) (by rw [set_at h, if_neg hj]; exact h2)
/-- A client's latest life is the greatest of its lives. -/
theorem SeOk.top {l : List SeX} (h : SeOk l) {i : Nat} {x : SeX} (hx : l[i]? = some x) : x.life ≤ seLif l x.client := by
  rcases seLat_at l x.client with ⟨h1, h2⟩ | ⟨k, y, h1, h2, h3, h4⟩
  · exact absurd rfl (h2 i x hx)
  · rw [seLif_eq h1 h2]
    rcases Nat.lt_trichotomy i k with c | c | c
    · exact Int.le_of_lt (h.rise i k x y c hx h2 h3.symm)
    · subst c
      rw [hx] at h2
      cases h2
      exact Int.le_refl _
    · exact absurd rfl (h4 i c x hx)
theorem SeOk.lat {l : List SeX} (h : SeOk l) (c : Int) : 0 < seLat l c ↔ 0 < seLif l c := by
  rcases seLat_at l c with ⟨h1, _⟩ | ⟨k, y, h1, h2, _, _⟩
  · rw [seLif_zero h1, h1]
    omega
  · rw [seLif_eq h1 h2, h1]
    have := (h.each k y h2).l0
    omega
theorem SeOk.lif {l : List SeX} (h : SeOk l) (c : Int) : 0 ≤ seLif l c ∧ seLif l c ≤ 1073741824 := by
  rcases seLat_at l c with ⟨h1, _⟩ | ⟨k, y, h1, h2, _, _⟩
  · rw [seLif_zero h1]
    omega
  · rw [seLif_eq h1 h2]
    have := (h.each k y h2).l0
    have := (h.each k y h2).l1
    omega
/-- Which are open. -/
theorem seOne_mem {l : List SeX} {i : Nat} {a : Int} : seOne l i = some a ↔ a = (i : Int) + 1 ∧ ∃ x, l[i]? = some x ∧ x.op = true := by
  unfold seOne
  cases h : l[i]? with
  | none => simp
  | some x =>
    cases ho : x.op
    · simp [ho]
    · simp only [ho, if_true, Option.some.injEq]
      exact ⟨fun h => ⟨h.symm, x, rfl, ho⟩, fun h => h.1.symm⟩
theorem seAllN_succ (l : List SeX) (n : Nat) : seAllN l (n + 1) = seAllN l n ++ (seOne l n).toList := by
  unfold seAllN
  rw [List.range_succ, List.filterMap_append]
  cases h : seOne l n with
  | none => simp [h]
  | some a => simp [h]
theorem seAllN_mem {l : List SeX} {n : Nat} {a : Int} : a ∈ seAllN l n ↔ ∃ i, i < n ∧ a = (i : Int) + 1 ∧ ∃ x, l[i]? = some x ∧ x.op = true := by
  unfold seAllN
  rw [List.mem_filterMap]
  constructor
  · rintro ⟨i, hi, h⟩
    exact ⟨i, List.mem_range.1 hi, seOne_mem.1 h⟩
  · rintro ⟨i, hi, h⟩
    exact ⟨i, List.mem_range.2 hi, seOne_mem.2 h⟩
theorem seAll_mem {l : List SeX} {a : Int} : a ∈ seAll l ↔ ∃ x, seAt l a = some x ∧ x.op = true := by
  unfold seAll
  rw [seAllN_mem]
  constructor
  · rintro ⟨i, hi, rfl, x, hx, ho⟩
    refine ⟨x, ?_, ho⟩
    unfold seAt
    rw [if_pos (by omega), show ((i : Int) + 1).toNat - 1 = i by omega]
    exact hx
  · rintro ⟨x, hx, ho⟩
    unfold seAt at hx
    by_cases h1 : 1 ≤ a
    · rw [if_pos h1] at hx
      exact ⟨a.toNat - 1, (List.getElem?_eq_some_iff.1 hx).1, by omega, x, hx, ho⟩
    · rw [if_neg h1] at hx
      cases hx
theorem seAllN_rise (l : List SeX) : ∀ n, (seAllN l n).Pairwise (· < ·)
  | 0 => List.Pairwise.nil
  | n + 1 => by
    rw [seAllN_succ, List.pairwise_append]
    refine ⟨seAllN_rise l n, ?_, fun a ha b hb => ?_⟩
    · cases seOne l n with
      | none => exact List.Pairwise.nil
      | some a => simp
    · obtain ⟨i, hi, rfl, _⟩ := seAllN_mem.1 ha
      cases h : seOne l n with
      | none => rw [h] at hb; cases hb
      | some c =>
        rw [h] at hb
        simp only [Option.toList, List.mem_singleton] at hb
        obtain ⟨e, _⟩ := seOne_mem.1 h
        omega
theorem seAllN_nodup (l : List SeX) (n : Nat) : (seAllN l n).Nodup := (seAllN_rise l n).imp fun h => by omega
theorem seAllN_len (l : List SeX) : ∀ n, (seAllN l n).length ≤ n
  | 0 => Nat.le_refl _
  | n + 1 => by
    have := seAllN_len l n
    rw [seAllN_succ, List.length_append]
    cases seOne l n <;> simp <;> omega
theorem seAllN_congr {l l' : List SeX} : ∀ {n : Nat}, (∀ i, i < n → seOne l i = seOne l' i) → seAllN l n = seAllN l' n
  | 0, _ => rfl
  | n + 1, h => by rw [seAllN_succ, seAllN_succ, seAllN_congr (fun i hi => h i (by omega)), h n (by omega)]
theorem seAll_app (l : List SeX) (x : SeX) : seAll (l ++ [x]) = seAll l ++ (if x.op = true then [(l.length : Int) + 1] else []) := by
  unfold seAll
  rw [List.length_append, List.length_singleton, seAllN_succ]
  congr 1
  · refine seAllN_congr fun i hi => ?_
    unfold seOne
    rw [List.getElem?_append_left hi]
  · unfold seOne
    rw [List.getElem?_append_right (Nat.le_refl _), Nat.sub_self]
    cases h : x.op <;> simp [h]
/-- Fewer are open where one is closed. -/
theorem seAll_fewer {l l' : List SeX} (hl : l'.length = l.length) (h : ∀ (i : Nat) (x : SeX), l'[i]? = some x → x.op = true → ∃ y : SeX, l[i]? = some y ∧ y.op = true) : (seAll l').length ≤ (seAll l).length := by
  unfold seAll
  rw [hl]
  generalize l.length = n
  induction n with
  | zero => exact Nat.le_refl _
  | succ n ih =>
    rw [seAllN_succ, seAllN_succ, List.length_append, List.length_append]
    have : (seOne l' n).toList.length ≤ (seOne l n).toList.length := by
      cases h1 : seOne l' n with
      | none => simp
      | some a =>
        obtain ⟨e, x, hx, ho⟩ := seOne_mem.1 h1
        have := seOne_mem.2 ⟨e, h n x hx ho⟩
        rw [this]
        simp
    omega
theorem seAll_set {l : List SeX} {k : Nat} {x y : SeX} (h : l[k]? = some x) (ho : y.op = x.op) : seAll (l.set k y) = seAll l := by
  unfold seAll
  rw [List.length_set]
  refine seAllN_congr fun i hi => ?_
  unfold seOne
  rw [set_at h]
  by_cases e : i = k
  · subst e
    rw [if_pos rfl, h]
    simp [ho]
  · rw [if_neg e]
/-- One set in place of another, of the same client and life. -/
theorem SeOk.set {l : List SeX} (h : SeOk l) {k : Nat} {x y : SeX} (hx : l[k]? = some x) (hc : y.client = x.client) (hf : y.life = x.life) (ho : y.op = true → x.op = true) (hy : y.Ok ((k : Int) + 1)) : SeOk (l.set k y) := by
  refine ⟨fun i z hz => ?_, fun i j a b hij ha hb e => ?_, ?_⟩
  · rw [set_at hx] at hz
    by_cases e : i = k
    · subst e
      rw [if_pos rfl] at hz
      cases hz
      exact hy
    · rw [if_neg e] at hz
      exact h.each i z hz
  · rw [set_at hx] at ha hb
    by_cases e1 : i = k
    · subst e1
      rw [if_pos rfl] at ha
      rw [if_neg (by omega)] at hb
      cases ha
      rw [hf]
      exact h.rise i j x b hij hx hb (by rw [← hc]; exact e)
    · rw [if_neg e1] at ha
      by_cases e2 : j = k
      · subst e2
        rw [if_pos rfl] at hb
        cases hb
        rw [hf]
        exact h.rise i j a x hij ha hx (by rw [← hc]; exact e)
      · rw [if_neg e2] at hb
        exact h.rise i j a b hij ha hb e
  · refine Nat.le_trans (seAll_fewer (by rw [List.length_set]) fun i z hz hzo => ?_) h.few
    rw [set_at hx] at hz
    by_cases e : i = k
    · subst e
      rw [if_pos rfl] at hz
      cases hz
      exact ⟨x, hx, ho hzo⟩
    · rw [if_neg e] at hz
      exact ⟨z, hz, hzo⟩
theorem SeOk.nil : SeOk [] := ⟨fun i x h => by simp at h, fun i j x y _ h => by simp at h, by decide⟩
theorem SeOk.app {l : List SeX} (h : SeOk l) {x : SeX} (hx : x.Ok ((l.length : Int) + 1)) (hf : seLif l x.client < x.life) (ho : x.op = true → (seAll l).length < 256) : SeOk (l ++ [x]) := by
  refine ⟨fun i z hz => ?_, fun i j a b hij ha hb e => ?_, ?_⟩
  · by_cases hi : i < l.length
    · rw [List.getElem?_append_left hi] at hz
      exact h.each i z hz
    · have := (List.getElem?_eq_some_iff.1 hz).1
      rw [List.length_append, List.length_singleton] at this
      obtain rfl : i = l.length := by omega
      simp at hz
      subst hz
      exact hx
  · have hj := (List.getElem?_eq_some_iff.1 hb).1
    rw [List.length_append, List.length_singleton] at hj
    rw [List.getElem?_append_left (by omega)] at ha
    by_cases hjl : j < l.length
    · rw [List.getElem?_append_left hjl] at hb
      exact h.rise i j a b hij ha hb e
    · obtain rfl : j = l.length := by omega
      simp at hb
      subst hb
      have := h.top ha
      rw [e] at this
      omega
  · rw [seAll_app]
    have := h.few
    cases hop : x.op with
    | false => simpa using this
    | true =>
      have := ho hop
      simp
      omega
theorem seAt_some {l : List SeX} {id : Int} {x : SeX} (h : seAt l id = some x) : 1 ≤ id ∧ id ≤ (l.length : Int) ∧ l[id.toNat - 1]? = some x := by
  unfold seAt at h
  by_cases h1 : 1 ≤ id
  · rw [if_pos h1] at h
    have := (List.getElem?_eq_some_iff.1 h).1
    exact ⟨h1, by omega, h⟩
  · rw [if_neg h1] at h
    cases h
theorem seAt_nat {l : List SeX} (k : Nat) : seAt l ((k : Int) + 1) = l[k]? := by
  unfold seAt
  rw [if_pos (by omega), show ((k : Int) + 1).toNat - 1 = k by omega]
theorem SeOk.at {l : List SeX} (h : SeOk l) {id : Int} {x : SeX} (hx : seAt l id = some x) : x.Ok id := by
  obtain ⟨h1, h2, h3⟩ := seAt_some hx
  have := h.each _ _ h3
  rw [show ((id.toNat - 1 : Nat) : Int) + 1 = id by omega] at this
  exact this
theorem SeOk.take {l : List SeX} (h : SeOk l) (n : Nat) : SeOk (l.take n) := by
  have ht : ∀ i x, (l.take n)[i]? = some x → l[i]? = some x ∧ i < n := fun i x hx => by
    rw [List.getElem?_take] at hx
    by_cases c : i < n
    · rw [if_pos c] at hx
      exact ⟨hx, c⟩
    · rw [if_neg c] at hx
      cases hx
  refine ⟨fun i x hx => h.each i x (ht i x hx).1, fun i j x y hij hx hy => h.rise i j x y hij (ht i x hx).1 (ht j y hy).1, Nat.le_trans ?_ h.few⟩
  have : ∀ m, m ≤ n → m ≤ l.length → (seAllN (l.take n) m).length ≤ (seAll l).length := by
    intro m hm hml
    have e : seAllN (l.take n) m = seAllN l m := seAllN_congr fun i hi => by
      unfold seOne
      rw [List.getElem?_take, if_pos (by omega)]
    rw [e]
    unfold seAll
    generalize l.length = L at hml
    induction L with
    | zero => rw [show m = 0 by omega]; exact Nat.le_refl _
    | succ L ih =>
      by_cases c : m = L + 1
      · rw [c]; exact Nat.le_refl _
      · have := ih (by omega)
        rw [seAllN_succ, List.length_append]
        omega
  exact this _ (by rw [List.length_take]; omega) (by rw [List.length_take]; omega)
/-- What calls leave is in order. -/
theorem SeOk.opn {l : List SeX} (h : SeOk l) (c f : Int) : SeOk (seOpn l c f).1 := by
  unfold seOpn
  by_cases h1 : seMay c f = false
  · rw [if_pos h1]; exact h
  rw [if_neg h1]
  by_cases h2 : f < seLif l c
  · rw [if_pos h2]; exact h
  rw [if_neg h2]
  by_cases h3 : seLif l c = f
  · rw [if_pos h3]; exact h
  rw [if_neg h3]
  by_cases h4 : 256 ≤ (seAll l).length
  · rw [if_pos h4]; exact h
  rw [if_neg h4]
  have h1' : seMay c f = true := by simpa using h1
  simp only [seMay, Bool.and_eq_true, decide_eq_true_eq] at h1'
  exact h.app (x := seNew c f) ⟨h1'.1.1.1, h1'.1.1.2, h1'.1.2, h1'.2, by show (0 : Int) ≤ 0; omega, by show (0 : Int) ≤ _; omega, fun _ => rfl, fun e => (by cases e), SeR.zero_ok⟩ (by show seLif l c < f; omega) (fun _ => by omega)
theorem SeOk.clo {l : List SeX} (h : SeOk l) (id : Int) : SeOk (seClo l id).1 := by
  unfold seClo
  cases hx : seAt l id with
  | none => exact h
  | some x =>
    obtain ⟨h1, h2, h3⟩ := seAt_some hx
    have ho := h.each _ _ h3
    show SeOk (if x.op = true then _ else _ : List SeX × Bool).1
    by_cases c : x.op = true
    · rw [if_pos c]
      exact h.set h3 rfl rfl (fun e => (by cases e)) ⟨ho.c0, ho.c1, ho.l0, ho.l1, ho.q0, ho.q1, ho.no, ho.yes, ho.r⟩
    · rw [if_neg c]; exact h
theorem SeOk.beg {l : List SeX} (h : SeOk l) (id q : Int) (hq : q ≤ 9223372036854775807) : SeOk (seBeg l id q).1 := by
  unfold seBeg
  cases hx : seAt l id with
  | none => exact h
  | some x =>
    obtain ⟨h1, h2, h3⟩ := seAt_some hx
    have ho := h.each _ _ h3
    show SeOk (if x.said = true ∧ x.seq = q then _ else _ : List SeX × SeR × Int).1
    by_cases c1 : x.said = true ∧ x.seq = q
    · rw [if_pos c1]; exact h
    rw [if_neg c1]
    by_cases c2 : x.op = false
    · rw [if_pos c2]; exact h
    rw [if_neg c2]
    by_cases c3 : q = x.seq
    · rw [if_pos c3]; exact h
    rw [if_neg c3]
    by_cases c4 : q < x.seq
    · rw [if_pos c4]; exact h
    rw [if_neg c4]
    by_cases c5 : 0 < x.seq ∧ x.said = false
    · rw [if_pos c5]; exact h
    rw [if_neg c5]
    have := ho.q0
    exact h.set h3 rfl rfl (fun e => e) ⟨ho.c0, ho.c1, ho.l0, ho.l1, by show 0 ≤ q; omega, hq, fun _ => rfl, fun e => (by cases e), SeR.zero_ok⟩
theorem SeOk.fin {l : List SeX} (h : SeOk l) {r : SeR} (hr : r.Ok) : SeOk (seEnd l r).1 := by
  unfold seEnd
  cases hx : seAt l r.session with
  | none => exact h
  | some x =>
    obtain ⟨h1, h2, h3⟩ := seAt_some hx
    have ho := h.each _ _ h3
    show SeOk (if x.seq = 0 ∨ x.seq ≠ r.seq ∨ x.said = true then _ else _ : List SeX × Bool).1
    by_cases c : x.seq = 0 ∨ x.seq ≠ r.seq ∨ x.said = true
    · rw [if_pos c]; exact h
    · rw [if_neg c]
      simp only [not_or, ne_eq, Decidable.not_not, Bool.not_eq_true] at c
      have := ho.q0
      exact h.set h3 rfl rfl (fun e => e) ⟨ho.c0, ho.c1, ho.l0, ho.l1, ho.q0, ho.q1, fun e => (by cases e), fun _ => ⟨by show 0 < x.seq; omega, by show r.session = _; omega, c.2.1.symm⟩, hr⟩
theorem seOpn_len (l : List SeX) (c f : Int) : (seOpn l c f).1.length ≤ l.length + 1 := by
  unfold seOpn
  repeat' split
  all_goals simp
theorem seClo_len (l : List SeX) (id : Int) : (seClo l id).1.length = l.length := by
  unfold seClo
  repeat' split
  all_goals simp
theorem seBeg_len (l : List SeX) (id q : Int) : (seBeg l id q).1.length = l.length := by
  unfold seBeg
  repeat' split
  all_goals simp
theorem seEnd_len (l : List SeX) (r : SeR) : (seEnd l r).1.length = l.length := by
  unfold seEnd
  repeat' split
  all_goals simp
/-- How many bytes. -/
theorem seI_len {n : Int} (h1 : -9223372036854775808 ≤ n) (h2 : n ≤ 9223372036854775807) : (seI n).length ≤ 10 := enc_len_ten (zig_bound h1 h2)
theorem seBit_le (b : Bool) : 0 ≤ seBit b ∧ seBit b ≤ 1 := by cases b <;> decide
theorem SeX.Ok.len {x : SeX} {i : Int} (h : x.Ok i) (h1 : 0 ≤ i) (h2 : i ≤ 1000000) : (seRow i x).length ≤ 90 := by
  have b1 := seBit_le x.op
  have b2 := seBit_le x.said
  have := h.c0; have := h.c1; have := h.l0; have := h.l1; have := h.q0; have := h.q1; have := h.r.e0; have := h.r.e1; have := h.r.t0; have := h.r.t1; have := h.r.n0; have := h.r.n1
  have a1 := seI_len (n := i) (by omega) (by omega)
  have a2 := seI_len (n := x.client) (by omega) (by omega)
  have a3 := seI_len (n := x.life) (by omega) (by omega)
  have a4 := seI_len (n := seBit x.op) (by omega) (by omega)
  have a5 := seI_len (n := x.seq) (by omega) (by omega)
  have a6 := seI_len (n := seBit x.said) (by omega) (by omega)
  have a7 := seI_len (n := x.r.err) (by omega) (by omega)
  have a8 := enc_len_ten (n := x.r.token.toNat) (by omega)
  have a9 := seI_len (n := x.r.n) (by omega) (by omega)
  unfold seRow
  simp only [List.length_append]
  omega
theorem seRows_succ (l : List SeX) (n : Nat) : seRows l (n + 1) = seRows l n ++ seRowN l n := by
  unfold seRows
  rw [List.range_succ, List.flatMap_append]
  simp
theorem seRows_one {l : List SeX} {n : Nat} {x : SeX} (h : l[n]? = some x) : seRows l (n + 1) = seRows l n ++ seRow ((n : Int) + 1) x := by
  rw [seRows_succ]
  unfold seRowN
  rw [h]
theorem SeOk.rows_len {l : List SeX} (h : SeOk l) (hl : l.length ≤ 100000) : ∀ n, n ≤ l.length → (seRows l n).length ≤ 90 * n
  | 0, _ => Nat.le_refl _
  | n + 1, hn => by
    obtain ⟨x, hx⟩ : ∃ x, l[n]? = some x := ⟨l[n], List.getElem?_eq_getElem (by omega)⟩
    have h1 := h.rows_len hl n (by omega)
    have h2 := (h.each n x hx).len (by omega) (by omega)
    rw [seRows_one hx, List.length_append]
    omega
theorem seEnds_succ (l : List SeX) (n : Nat) : seEnds l (n + 1) = seEnds l n ++ seEndC l n := by
  unfold seEnds
  rw [List.range_succ, List.flatMap_append]
  simp
theorem SeOk.endC_len {l : List SeX} (h : SeOk l) (hl : l.length ≤ 100000) (c : Nat) (hc : c ≤ 8) : (seEndC l c).length ≤ 30 := by
  unfold seEndC
  split
  · have b1 := h.lif c
    have b2 := seLat_le l c
    have a1 := seI_len (n := (c : Int)) (by omega) (by omega)
    have a2 := seI_len (n := seLif l c) (by omega) (by omega)
    have a3 := seI_len (n := (seLat l c : Int)) (by omega) (by omega)
    simp only [List.length_append]
    omega
  · simp
theorem SeOk.ends_len {l : List SeX} (h : SeOk l) (hl : l.length ≤ 100000) : ∀ n, n ≤ 8 → (seEnds l n).length ≤ 30 * n
  | 0, _ => Nat.le_refl _
  | n + 1, hn => by
    have h1 := h.ends_len hl n (by omega)
    have h2 := h.endC_len hl n (by omega)
    rw [seEnds_succ, List.length_append]
    omega
theorem seCnt_le (l : List SeX) : ∀ n, seCnt l n ≤ n
  | 0 => Nat.le_refl _
  | n + 1 => by
    have := seCnt_le l n
    unfold seCnt
    split <;> omega
theorem SeOk.enc_len {l : List SeX} (h : SeOk l) (hl : l.length ≤ 100000) : (seEnc l).length ≤ 90 * l.length + 260 := by
  have h1 := h.rows_len hl l.length (Nat.le_refl _)
  have h2 := h.ends_len hl 8 (Nat.le_refl _)
  have h3 := seCnt_le l 8
  have a1 := seI_len (n := (l.length : Int)) (by omega) (by omega)
  have a2 := seI_len (n := (seCnt l 8 : Int)) (by omega) (by omega)
  unfold seEnc
  simp only [List.length_append]
  omega
end Go.Proofs.Ythokbififjhflaa
