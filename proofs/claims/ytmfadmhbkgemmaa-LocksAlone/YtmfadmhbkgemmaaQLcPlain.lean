/-
  Locks as plain data: what each call keeps: names and holders rise, who waits does not hold and does not fit, no lock is without a holder. No condition.
-/
import Derived.Test.YtmfadmhbkgemmaaQLcPDrop
import Derived.Test.YtmfadmhbkgemmaaQPackC
namespace Go.Proofs.Ytmfadmhbkgemmaa
open Go.RowKit

/-- A lock, but for that somebody holds it. -/
structure LkPre (x : Lk) : Prop where
  srt : x.h.Pairwise (· < ·)
  qd : (x.q.map (·.s)).Nodup
  ap : ∀ y ∈ x.q, hasB x.h y.s = false
  fr : ∀ y, x.q.head? = some y → fitH x.h x.wr y.rd = false
structure LkInv (x : Lk) : Prop where
  pre : LkPre x
  ne : 0 < x.h.length
structure LcOk (l : List Lk) : Prop where
  each : ∀ x ∈ l, LkInv x
  srt : l.Pairwise fun x y => befK x.name y.name = true
def lookK (l : List Lk) (nm : ByteArray) : Option Lk := l.find? fun x => decide (x.name = nm)
theorem befK_lt (x y : ByteArray) : befK x y = decide (x.data.toList < y.data.toList) := by
  unfold befK
  rw [bytesLess_eq, Lib.toList_data, Lib.toList_data]
theorem befK_irr (x : ByteArray) : befK x x = false := by
  rw [befK_lt, decide_eq_false_iff_not]
  exact List.lt_irrefl _
theorem befK_trans {x y z : ByteArray} (h1 : befK x y = true) (h2 : befK y z = true) : befK x z = true := by
  rw [befK_lt, decide_eq_true_eq] at *
  exact List.lt_trans h1 h2
theorem befK_tri {x y : ByteArray} (h1 : befK x y = false) (hne : x ≠ y) : befK y x = true := by
  rw [befK_lt, decide_eq_false_iff_not] at h1
  rw [befK_lt, decide_eq_true_eq]
  have h2 : y.data.toList ≤ x.data.toList := List.not_lt.1 h1
  rcases List.le_iff_lt_or_eq.1 h2 with h | h
  · exact h
  · exact absurd (nameK_inj (by rw [Lib.toList_data, Lib.toList_data]; exact h.symm)) hne
theorem srt_nodup {l : List Lk} (h : l.Pairwise fun x y => befK x.name y.name = true) : (l.map (·.name)).Nodup := by
  rw [List.nodup_iff_pairwise_ne, List.pairwise_map]
  exact h.imp fun {a b} hab e => by
    rw [e, befK_irr] at hab
    cases hab
section
variable {l : List Lk} {nm : ByteArray}
theorem lookK_name {x : Lk} (h : lookK l nm = some x) : x.name = nm ∧ x ∈ l := by
  unfold lookK at h
  exact ⟨by simpa using List.find?_some h, List.mem_of_find?_eq_some h⟩
theorem lookK_none (h : lookK l nm = none) : ∀ x ∈ l, x.name ≠ nm := fun x hx => by
  unfold lookK at h
  rw [List.find?_eq_none] at h
  simpa using h x hx
theorem lookK_of (hn : (l.map (·.name)).Nodup) {x : Lk} (hx : x ∈ l) : lookK l x.name = some x := by
  cases h : lookK l x.name with
  | none => exact absurd rfl (lookK_none h x hx)
  | some y =>
    obtain ⟨h1, h2⟩ := lookK_name h
    obtain ⟨i, hi, rfl⟩ := List.getElem_of_mem hx
    obtain ⟨j, hj, rfl⟩ := List.getElem_of_mem h2
    have hp := List.pairwise_iff_getElem.1 hn
    rcases Nat.lt_trichotomy i j with c | c | c
    · exact absurd (by rw [List.getElem_map, List.getElem_map, h1]) (hp i j (by simpa using hi) (by simpa using hj) c)
    · subst c; rfl
    · exact absurd (by rw [List.getElem_map, List.getElem_map, h1]) (hp j i (by simpa using hj) (by simpa using hi) c)
theorem lookK_iff (hn : (l.map (·.name)).Nodup) {x : Lk} : lookK l nm = some x ↔ x ∈ l ∧ x.name = nm :=
  ⟨fun h => ⟨(lookK_name h).2, (lookK_name h).1⟩, fun h => by rw [← h.2]; exact lookK_of hn h.1⟩
theorem lkIx_look : (match lkIx l nm with | some i => l[i]? | none => none) = lookK l nm := by
  unfold lkIx lookK
  induction l with
  | nil => rfl
  | cons x l ih =>
    rw [List.findIdx?_cons, List.find?_cons]
    by_cases e : x.name = nm
    · rw [decide_eq_true e]; rfl
    · rw [decide_eq_false e]
      simp only [Bool.false_eq_true, if_false]
      rw [← ih]
      cases List.findIdx? (fun x => decide (x.name = nm)) l <;> simp
/-- Two tables of sorted lists. -/
theorem lookK_ext {K : ByteArray → Option Lk} (hn : (l.map (·.name)).Nodup) (h : ∀ n x, K n = some x ↔ x ∈ l ∧ x.name = n) : lookK l = K := by
  funext n
  cases h1 : K n with
  | some x => exact (lookK_iff hn).2 ((h n x).1 h1)
  | none =>
    cases h2 : lookK l n with
    | none => rfl
    | some x =>
      have := (h n x).2 ((lookK_iff hn).1 h2)
      rw [h1] at this
      cases this
theorem addL_srt {x : Lk} (h : l.Pairwise fun x y => befK x.name y.name = true) (hx : lookK l x.name = none) : (addL l x).Pairwise fun x y => befK x.name y.name = true := by
  unfold addL
  have hsp := List.takeWhile_append_dropWhile (p := fun y : Lk => befK y.name x.name) (l := l)
  have h' := h
  rw [← hsp, List.pairwise_append] at h'
  obtain ⟨h1, h2, h3⟩ := h'
  have ht : ∀ y ∈ l.takeWhile (fun y => befK y.name x.name), befK y.name x.name = true := fun y hy => by
    have := List.all_takeWhile (p := fun y : Lk => befK y.name x.name) (l := l)
    rw [List.all_eq_true] at this
    exact this y hy
  have hd : ∀ y ∈ l.dropWhile (fun y => befK y.name x.name), befK x.name y.name = true := fun y hy => by
    have hyl : y ∈ l := (List.dropWhile_sublist _).subset hy
    cases hdw : l.dropWhile (fun y => befK y.name x.name) with
    | nil => rw [hdw] at hy; cases hy
    | cons z zs =>
      have hz : befK z.name x.name = false := by
        have := List.head?_dropWhile_not (fun y : Lk => befK y.name x.name) l
        rw [hdw] at this
        simpa using this
      have hzl : z ∈ l := (List.dropWhile_sublist _).subset (by rw [hdw]; exact List.mem_cons_self)
      have hzx := befK_tri hz (lookK_none hx z hzl)
      rw [hdw] at hy h2
      rcases List.mem_cons.1 hy with rfl | hy
      · exact hzx
      · exact befK_trans hzx ((List.pairwise_cons.1 h2).1 y hy)
  rw [List.pairwise_append, List.pairwise_cons]
  refine ⟨h1, ⟨hd, h2⟩, fun a ha b hb => ?_⟩
  rcases List.mem_cons.1 hb with rfl | hb
  · exact ht a ha
  · exact h3 a ha b hb
theorem addL_iff {x y : Lk} : y ∈ addL l x ↔ y = x ∨ y ∈ l := by
  unfold addL
  rw [List.mem_append, List.mem_cons]
  conv => rhs; rw [← List.takeWhile_append_dropWhile (p := fun y : Lk => befK y.name x.name) (l := l), List.mem_append]
  constructor
  · rintro (h | h | h)
    · exact Or.inr (Or.inl h)
    · exact Or.inl h
    · exact Or.inr (Or.inr h)
  · rintro (h | h | h)
    · exact Or.inr (Or.inl h)
    · exact Or.inl h
    · exact Or.inr (Or.inr h)
theorem lookK_add {x : Lk} (h : l.Pairwise fun x y => befK x.name y.name = true) (hx : lookK l x.name = none) : lookK (addL l x) = updK (lookK l) x.name (some x) := by
  refine lookK_ext (srt_nodup (addL_srt h hx)) fun n y => ?_
  rw [addL_iff]
  unfold updK
  by_cases e : n = x.name
  · rw [if_pos e]
    constructor
    · rintro ⟨⟩
      exact ⟨Or.inl rfl, e.symm⟩
    · rintro ⟨h1 | h1, h2⟩
      · rw [h1]
      · exact absurd (h2.trans e) (lookK_none hx y h1)
  · rw [if_neg e, lookK_iff (srt_nodup h)]
    constructor
    · rintro ⟨h1, h2⟩
      exact ⟨Or.inr h1, h2⟩
    · rintro ⟨h1 | h1, h2⟩
      · rw [h1] at h2
        exact absurd h2.symm e
      · exact ⟨h1, h2⟩
/-- One put in another's place. -/
theorem set_srt {i : Nat} {y z : Lk} (hi : l[i]? = some y) (hz : z.name = y.name) (h : l.Pairwise fun x y => befK x.name y.name = true) : (l.set i z).Pairwise fun x y => befK x.name y.name = true := by
  have e : (l.set i z).map (·.name) = l.map (·.name) := by
    rw [List.map_set, hz]
    obtain ⟨h1, h2⟩ := List.getElem?_eq_some_iff.1 hi
    apply List.ext_getElem?
    intro j
    rw [List.getElem?_set]
    by_cases e : i = j
    · subst e
      rw [if_pos rfl, List.length_map, if_pos h1, List.getElem?_map, hi]
      rfl
    · rw [if_neg e]
  have h1 : ((l.set i z).map (·.name)).Pairwise fun x y => befK x y = true := by rw [e, List.pairwise_map]; exact h
  rwa [List.pairwise_map] at h1
theorem set_iff {i : Nat} {y z x : Lk} (hi : l[i]? = some y) (hn : (l.map (·.name)).Nodup) : x ∈ l.set i z ↔ x = z ∨ (x ∈ l ∧ x.name ≠ y.name) := by
  obtain ⟨h1, h2⟩ := List.getElem?_eq_some_iff.1 hi
  have hp := List.pairwise_iff_getElem.1 hn
  constructor
  · intro h
    obtain ⟨j, hj, rfl⟩ := List.getElem_of_mem h
    rw [List.getElem_set]
    by_cases e : i = j
    · rw [if_pos e]; exact Or.inl rfl
    · rw [if_neg e]
      have hj' : j < l.length := by simpa using hj
      refine Or.inr ⟨List.getElem_mem hj', fun e2 => ?_⟩
      rw [← h2] at e2
      rcases Nat.lt_or_gt_of_ne e with c | c
      · exact hp i j (by simpa using h1) (by simpa using hj') c (by rw [List.getElem_map, List.getElem_map, e2])
      · exact hp j i (by simpa using hj') (by simpa using h1) c (by rw [List.getElem_map, List.getElem_map, e2])
  · rintro (h | ⟨h, h3⟩)
    · rw [h]
      exact List.mem_iff_getElem.2 ⟨i, by simpa using h1, by simp⟩
    · obtain ⟨j, hj, rfl⟩ := List.getElem_of_mem h
      have e : i ≠ j := fun e => h3 (by subst e; rw [h2])
      exact List.mem_iff_getElem.2 ⟨j, by simpa using hj, by rw [List.getElem_set, if_neg e]⟩
theorem lookK_set {i : Nat} {y z : Lk} (hi : l[i]? = some y) (hz : z.name = y.name) (h : l.Pairwise fun x y => befK x.name y.name = true) : lookK (l.set i z) = updK (lookK l) y.name (some z) := by
  refine lookK_ext (srt_nodup (set_srt hi hz h)) fun n x => ?_
  rw [set_iff hi (srt_nodup h)]
  unfold updK
  by_cases e : n = y.name
  · rw [if_pos e]
    constructor
    · rintro ⟨⟩
      exact ⟨Or.inl rfl, hz.trans e.symm⟩
    · rintro ⟨h1 | h1, h2⟩
      · rw [h1]
      · exact absurd (h2.trans e) h1.2
  · rw [if_neg e, lookK_iff (srt_nodup h)]
    constructor
    · rintro ⟨h1, h2⟩
      exact ⟨Or.inr ⟨h1, fun e2 => e (h2.symm.trans e2)⟩, h2⟩
    · rintro ⟨h1 | h1, h2⟩
      · rw [h1, hz] at h2
        exact absurd h2.symm e
      · exact ⟨h1.1, h2⟩
end
/-- Holders rise. -/
theorem putL_srt {h : List Int} {s : Int} (hs : h.Pairwise (· < ·)) (hn : hasB h s = false) : (putL h s).Pairwise (· < ·) := by
  unfold hasB at hn
  rw [decide_eq_false_iff_not] at hn
  unfold putL
  have hsp := List.takeWhile_append_dropWhile (p := fun y : Int => decide (y < s)) (l := h)
  have h' := hs
  rw [← hsp, List.pairwise_append] at h'
  obtain ⟨h1, h2, h3⟩ := h'
  have ht : ∀ y ∈ h.takeWhile (fun y => decide (y < s)), y < s := fun y hy => by
    have := List.all_takeWhile (p := fun y : Int => decide (y < s)) (l := h)
    rw [List.all_eq_true] at this
    simpa using this y hy
  have hd : ∀ y ∈ h.dropWhile (fun y => decide (y < s)), s < y := fun y hy => by
    cases hdw : h.dropWhile (fun y => decide (y < s)) with
    | nil => rw [hdw] at hy; cases hy
    | cons z zs =>
      have hz : decide (z < s) = false := by
        have := List.head?_dropWhile_not (fun y : Int => decide (y < s)) h
        rw [hdw] at this
        simpa using this
      have hzl : z ∈ h := (List.dropWhile_sublist _).subset (by rw [hdw]; exact List.mem_cons_self)
      have hzx : s < z := by
        rw [decide_eq_false_iff_not] at hz
        have : z ≠ s := fun e => hn (e ▸ hzl)
        omega
      rw [hdw] at hy h2
      rcases List.mem_cons.1 hy with rfl | hy
      · exact hzx
      · have := (List.pairwise_cons.1 h2).1 y hy
        omega
  rw [List.pairwise_append, List.pairwise_cons]
  refine ⟨h1, ⟨hd, h2⟩, fun a ha b hb => ?_⟩
  rcases List.mem_cons.1 hb with rfl | hb
  · exact ht a ha
  · exact h3 a ha b hb
theorem giveH_srt {c : Int} {h : List Int} {b : Bool} {x : Wq} (hs : h.Pairwise (· < ·)) (hn : hasB h x.s = false) : (giveH c h b x).2.1.Pairwise (· < ·) := by
  unfold giveH
  split
  · exact putL_srt hs hn
  · split
    · exact hs
    · exact putL_srt hs hn
/-- From the queue's front on: what is left. -/
theorem srv_left : ∀ (q : List Wq) (c : Int) (h : List Int) (b : Bool), h.Pairwise (· < ·) → (q.map (·.s)).Nodup → (∀ y ∈ q, hasB h y.s = false) →
    (srvH q c h b).2.1.Pairwise (· < ·) ∧ ((srvH q c h b).2.2.2.1.map (·.s)).Nodup ∧ (∀ y ∈ (srvH q c h b).2.2.2.1, hasB (srvH q c h b).2.1 y.s = false) ∧ ∀ y, (srvH q c h b).2.2.2.1.head? = some y → fitH (srvH q c h b).2.1 (srvH q c h b).2.2.1 y.rd = false
  | [], _, _, _, h1, _, _ => ⟨h1, List.nodup_nil, fun y hy => (by cases hy), fun y hy => (by cases hy)⟩
  | x :: q, c, h, b, h1, h2, h3 => by
    have h2' := h2
    rw [List.map_cons, List.nodup_cons] at h2'
    unfold srvH
    by_cases hf : fitH h b x.rd = true
    · rw [if_pos hf]
      exact srv_left q _ _ _ (giveH_srt h1 (h3 x List.mem_cons_self)) h2'.2 fun y hy => giveH_has (h3 y (List.mem_cons_of_mem _ hy)) fun e => h2'.1 (by rw [← e]; exact List.mem_map.2 ⟨y, hy, rfl⟩)
    · rw [if_neg hf]
      refine ⟨h1, h2, h3, fun y hy => ?_⟩
      simp only [List.head?_cons, Option.some.injEq] at hy
      rw [← hy]
      simpa using hf
theorem pdK_pre {x : Lk} (hx : LkInv x) (c s : Int) : LkPre (pdK x c s).2.1 ∧ (pdK x c s).2.1.name = x.name := by
  have hsub : (dropL x.h s).Sublist x.h := List.filter_sublist
  have hap : ∀ y ∈ lessQ x.q s, hasB (dropL x.h s) y.s = false := fun y hy => by
    have := hx.pre.ap y (List.mem_filter.1 hy).1
    unfold hasB at this ⊢
    rw [decide_eq_false_iff_not] at this ⊢
    exact fun e => this (List.mem_filter.1 e).1
  obtain ⟨h1, h2, h3, h4⟩ := srv_left (lessQ x.q s) c (dropL x.h s) x.wr (hx.pre.srt.sublist hsub) (hx.pre.qd.sublist (List.filter_sublist.map _)) hap
  exact ⟨⟨h1, h2, h3, h4⟩, rfl⟩
theorem liveK_pre {z : Lk} (hz : LkPre z) : liveK z = decide (0 < z.h.length) := by
  unfold liveK
  by_cases h : 0 < z.h.length
  · rw [decide_eq_true h]; rfl
  · rw [decide_eq_false h, Bool.false_or]
    cases hq : z.q with
    | nil => rfl
    | cons y q =>
      have := hz.fr y (by rw [hq]; rfl)
      unfold fitH at this
      rw [decide_eq_true (by omega)] at this
      cases this
theorem outK_eq {x : Lk} (hx : LkInv x) (c s : Int) : outK x c s = pdK x c s := by
  unfold outK pdK
  by_cases hi : inK x s = true
  · rw [if_pos hi]
  · rw [if_neg hi]
    unfold inK at hi
    simp only [Bool.or_eq_true, not_or, Bool.not_eq_true] at hi
    rw [lessQ_none hi.2]
    have hd : dropL x.h s = x.h := by
      unfold dropL
      refine List.filter_eq_self.2 fun a ha => ?_
      have : a ≠ s := fun e => by
        have h1 := hi.1
        unfold hasB at h1
        rw [decide_eq_false_iff_not] at h1
        exact h1 (e ▸ ha)
      simpa using this
    rw [hd]
    cases hq : x.q with
    | nil =>
      unfold srvH
      obtain ⟨n, h, b, q⟩ := x
      simp only at hq
      subst hq
      rfl
    | cons y q =>
      have hf := hx.pre.fr y (by rw [hq]; rfl)
      rw [srvH_stop hf]
      obtain ⟨n, h, b, q'⟩ := x
      simp only at hq
      subst hq
      rfl
section
variable {l P B : List Lk} {x y z : Lk}
theorem tidyL_ok (h : ∀ x ∈ l, LkInv x) : tidyL l = l := by
  unfold tidyL
  refine List.filter_eq_self.2 fun x hx => ?_
  rw [liveK_pre (h x hx).pre]
  exact decide_eq_true (h x hx).ne
/-- One lock turned, and struck where nobody holds it. -/
theorem LcOk.step (h : LcOk (P ++ x :: B)) (hz : LkPre z) (hn : z.name = x.name) : LcOk (P ++ (tidyL [z] ++ B)) ∧ lookK (P ++ (tidyL [z] ++ B)) = updK (lookK (P ++ x :: B)) x.name (liveO z) := by
  have hx : (P ++ x :: B)[P.length]? = some x := by simp
  have hset : (P ++ x :: B).set P.length z = P ++ z :: B := by simp
  have h1 := set_srt hx hn h.srt
  have h2 := lookK_set hx hn h.srt
  rw [hset] at h1 h2
  have hP : ∀ y ∈ P, LkInv y := fun y hy => h.each y (List.mem_append.2 (Or.inl hy))
  have hB : ∀ y ∈ B, LkInv y := fun y hy => h.each y (List.mem_append.2 (Or.inr (List.mem_cons_of_mem _ hy)))
  unfold liveO
  by_cases hl : 0 < z.h.length
  · have e : tidyL [z] = [z] := by
      unfold tidyL
      rw [List.filter_cons, liveK_pre hz, decide_eq_true hl]
      rfl
    rw [e, if_pos hl, List.singleton_append]
    refine ⟨⟨fun y hy => ?_, h1⟩, h2⟩
    rcases List.mem_append.1 hy with hy | hy
    · exact hP y hy
    · rcases List.mem_cons.1 hy with rfl | hy
      · exact ⟨hz, hl⟩
      · exact hB y hy
  · have e : tidyL [z] = [] := by
      unfold tidyL
      rw [List.filter_cons, liveK_pre hz, decide_eq_false hl]
      rfl
    rw [e, if_neg hl, List.nil_append]
    have hsub : (P ++ B).Sublist (P ++ x :: B) := List.Sublist.append (List.Sublist.refl P) (List.sublist_cons_self x B)
    refine ⟨⟨fun y hy => h.each y (hsub.subset hy), h.srt.sublist hsub⟩, ?_⟩
    refine lookK_ext (srt_nodup (h.srt.sublist hsub)) fun n y => ?_
    unfold updK
    have hnd := srt_nodup h.srt
    rw [List.map_append, List.map_cons, List.nodup_append] at hnd
    obtain ⟨_, hnd2, hnd3⟩ := hnd
    rw [List.nodup_cons] at hnd2
    by_cases e : n = x.name
    · rw [if_pos e]
      constructor
      · intro h5
        cases h5
      · rintro ⟨h5, h6⟩
        rw [e] at h6
        rcases List.mem_append.1 h5 with h5 | h5
        · exact absurd h6 (hnd3 y.name (List.mem_map.2 ⟨y, h5, rfl⟩) x.name List.mem_cons_self)
        · exact absurd (h6 ▸ List.mem_map.2 ⟨y, h5, rfl⟩) hnd2.1
    · rw [if_neg e, lookK_iff (srt_nodup h.srt)]
      constructor
      · rintro ⟨h5, h6⟩
        refine ⟨?_, h6⟩
        rcases List.mem_append.1 h5 with h5 | h5
        · exact List.mem_append.2 (Or.inl h5)
        · rcases List.mem_cons.1 h5 with h5 | h5
          · rw [h5] at h6
            exact absurd h6.symm e
          · exact List.mem_append.2 (Or.inr h5)
      · rintro ⟨h5, h6⟩
        exact ⟨hsub.subset h5, h6⟩
end
/-- Let go of. -/
theorem LcOk.rel {l : List Lk} (h : LcOk l) {i : Nat} {y : Lk} (hi : l[i]? = some y) (c s : Int) : LcOk (tidyL (l.set i (pdK y c s).2.1)) ∧ lookK (tidyL (l.set i (pdK y c s).2.1)) = updK (lookK l) y.name (liveO (pdK y c s).2.1) := by
  have hyl := List.mem_of_getElem? hi
  obtain ⟨h1, h2⟩ := pdK_pre (h.each y hyl) c s
  obtain ⟨hil, hie⟩ := List.getElem?_eq_some_iff.1 hi
  have e : l = l.take i ++ y :: l.drop (i + 1) := by
    rw [← hie, List.getElem_cons_drop]
    exact (List.take_append_drop i l).symm
  have e2 : tidyL (l.set i (pdK y c s).2.1) = l.take i ++ (tidyL [(pdK y c s).2.1] ++ l.drop (i + 1)) := by
    rw [List.set_eq_take_append_cons_drop, if_pos hil]
    unfold tidyL
    rw [List.filter_append, List.filter_cons]
    have hf1 : (l.take i).filter liveK = l.take i := tidyL_ok fun x hx => h.each x (List.mem_of_mem_take hx)
    have hf2 : (l.drop (i + 1)).filter liveK = l.drop (i + 1) := tidyL_ok fun x hx => h.each x (List.mem_of_mem_drop hx)
    rw [hf1, hf2]
    congr 1
    cases hlv : liveK (pdK y c s).2.1 <;> simp [hlv]
  rw [e2]
  have := LcOk.step (by rw [← e]; exact h) h1 h2
  rw [← e] at this
  exact this
section
variable {l : List Lk} {y z : Lk} {i : Nat}
/-- One lock turned, that somebody holds. -/
theorem LcOk.set' (h : LcOk l) (hi : l[i]? = some y) (hn : z.name = y.name) (hz : LkInv z) : LcOk (l.set i z) ∧ lookK (l.set i z) = updK (lookK l) y.name (some z) :=
  ⟨⟨fun x hx => by
    rcases (set_iff hi (srt_nodup h.srt)).1 hx with e | e
    · rw [e]; exact hz
    · exact h.each x e.1, set_srt hi hn h.srt⟩, lookK_set hi hn h.srt⟩
theorem LcOk.add' (h : LcOk l) (hz : LkInv z) (hn : lookK l z.name = none) : LcOk (addL l z) ∧ lookK (addL l z) = updK (lookK l) z.name (some z) :=
  ⟨⟨fun x hx => by
    rcases addL_iff.1 hx with e | e
    · rw [e]; exact hz
    · exact h.each x e, addL_srt h.srt hn⟩, lookK_add h.srt hn⟩
/-- A reader beside readers. -/
theorem LkInv.give {c : Int} {x : Wq} (h : LkInv y) (hq : y.q = []) (hn : hasB y.h x.s = false) : LkInv { y with h := (giveH c y.h y.wr x).2.1, wr := (giveH c y.h y.wr x).2.2.1 } := by
  refine ⟨⟨giveH_srt h.pre.srt hn, h.pre.qd, fun z hz => ?_, fun z hz => ?_⟩, ?_⟩
  · rw [show ({ y with h := (giveH c y.h y.wr x).2.1, wr := (giveH c y.h y.wr x).2.2.1 } : Lk).q = [] from hq] at hz
    cases hz
  · rw [show ({ y with h := (giveH c y.h y.wr x).2.1, wr := (giveH c y.h y.wr x).2.2.1 } : Lk).q = [] from hq] at hz
    cases hz
  · show 0 < (giveH c y.h y.wr x).2.1.length
    have := h.ne
    unfold giveH
    split
    · rw [putL_len]; omega
    · split
      · exact this
      · rw [putL_len]; omega
theorem LkInv.join {x : Wq} (h : LkInv y) (hn : hasB y.h x.s = false) (hw : waitB y.q x.s = false) (hf : y.q = [] → fitH y.h y.wr x.rd = false) : LkInv { y with q := y.q ++ [x] } := by
  refine ⟨⟨h.pre.srt, ?_, fun z hz => ?_, fun z hz => ?_⟩, h.ne⟩
  · rw [List.map_append, List.nodup_append]
    refine ⟨h.pre.qd, by simp, fun a ha b hb => ?_⟩
    obtain ⟨v, hv, rfl⟩ := List.mem_map.1 ha
    simp only [List.map_cons, List.map_nil, List.mem_singleton] at hb
    unfold waitB at hw
    rw [List.any_eq_false] at hw
    rw [hb]
    simpa using hw v hv
  · rcases List.mem_append.1 hz with hz | hz
    · exact h.pre.ap z hz
    · rw [List.mem_singleton.1 hz]
      exact hn
  · have hz : (y.q ++ [x]).head? = some z := hz
    cases hq : y.q with
    | nil =>
      rw [hq] at hz
      simp only [List.nil_append, List.head?_cons, Option.some.injEq] at hz
      rw [← hz]
      exact hf hq
    | cons v q =>
      rw [hq] at hz
      refine h.pre.fr z ?_
      rw [hq]
      exact hz
theorem LkInv.newK {c : Int} {x : Wq} (nm : ByteArray) (he : (giveH c [] false x).2.2.2.err = 0) : LkInv ⟨nm, (giveH c [] false x).2.1, (giveH c [] false x).2.2.1, []⟩ := by
  refine ⟨⟨giveH_srt List.Pairwise.nil rfl, List.nodup_nil, fun z hz => (by cases hz), fun z hz => (by cases hz)⟩, ?_⟩
  show 0 < (giveH c [] false x).2.1.length
  revert he
  unfold giveH
  split
  · intro _; rw [putL_len]; exact Nat.succ_pos _
  · split
    · intro h
      have h : (16 : Int) = 0 := h
      omega
    · intro _; rw [putL_len]; exact Nat.succ_pos _
end
/-- A session gone: the locks one by one. -/
theorem outL_ok (s : Int) : ∀ (l : List Lk) (c : Int) (P : List Lk), LcOk (P ++ l) → LcOk (P ++ tidyL (outL l c s).2.1)
  | [], _, P, h => by simpa [outL, tidyL] using h
  | x :: l, c, P, h => by
    have hx : LkInv x := h.each x (by simp)
    have h1 := (LcOk.step h (pdK_pre hx c s).1 (pdK_pre hx c s).2).1
    have ih := outL_ok s l (outK x c s).1 (P ++ tidyL [(pdK x c s).2.1]) (by rw [List.append_assoc]; exact h1)
    unfold outL
    rw [outK_eq hx] at ih ⊢
    have e : tidyL ((pdK x c s).2.1 :: (outL l (pdK x c s).1 s).2.1) = tidyL [(pdK x c s).2.1] ++ tidyL (outL l (pdK x c s).1 s).2.1 := by
      unfold tidyL
      rw [List.filter_cons, List.filter_cons]
      cases liveK (pdK x c s).2.1 <;> rfl
    rw [e, ← List.append_assoc]
    exact ih
theorem LcOk.gone {l : List Lk} (h : LcOk l) (c s : Int) : LcOk (gonL c l s).2.1 := outL_ok s l c [] h
theorem LcOk.nil : LcOk [] := ⟨fun x hx => (by cases hx), List.Pairwise.nil⟩
end Go.Proofs.Ytmfadmhbkgemmaa
