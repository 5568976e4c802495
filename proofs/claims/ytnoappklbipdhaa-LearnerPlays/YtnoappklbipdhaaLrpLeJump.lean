/-
  Package learner: slots jumped over, as the document's plain data. The conditions: at most 2^29 entries; an int's base.
-/
import Derived.Test.YtnoappklbipdhaaLrpLeLearn
namespace Go.Proofs.Ytnoappklbipdhaa
open Go.RowKit

/-- How many wait, read off the memory. -/
def wlOf (X : Nat) (w : World) : Nat := match w.cell? ⟨X, 3, none⟩ with
  | some (.slice _ n _) => n
  | _ => 0
theorem wlOf_is {X : Nat} {w : World} {a : Option Addr} {n c : Nat} (h : w.cell? ⟨X, 3, none⟩ = some (.slice a n c)) : wlOf X w = n := by unfold wlOf; rw [h]
/-- While those that wait are jumped over. -/
structure JuI (w wr : World) (base X : Nat) (S : Nat → Prop) (A F : Int) (mb : Nat) (L : List En) (hs : List Int) (b : Int) (l' : List (Int × En)) (hs' : List Int) (v' : Value) : Prop where
  lr : LrAt wr base X S A F l' hs' mb v'
  k : Kept w wr S S
  lk : ∀ s, lookM l' s = if s ∈ hs' then leF L s else none
  hp : HeapN hs' hs'.length
  nd : hs'.Nodup
  sub : ∀ s ∈ hs', s ∈ hs
  all : ∀ s ∈ hs, b < s → s ∈ hs'
  ln : hs'.length ≤ hs.length
theorem JuI.next {w wr W5 W6 : World} {base X : Nat} {S : Nat → Prop} {A F : Int} {mb : Nat} {L : List En} {hs : List Int} {b : Int} {l' : List (Int × En)} {hs' hs2 : List Int} {v' v2 : Value} (h : JuI w wr base X S A F mb L hs b l' hs' v') (h0 : atI hs' 0 ≤ b)
    (h5 : LrAt W5 base X S A F (delM l' (atI hs' 0)) hs' mb v') (k5 : Kept wr W5 S S) (h6 : HpAt W6 base X (fun g => S g ∧ g ≠ mb) A F (delM l' (atI hs' 0)) hs2 mb v2) (k6 : Kept W5 W6 (fun g => S g ∧ g ≠ mb) (fun g => S g ∧ g ≠ mb)) (hp : hs'.Perm (atI hs' 0 :: hs2)) (hh : HeapN hs2 hs2.length) :
    JuI w W6 base X S A F mb L hs b (delM l' (atI hs' 0)) hs2 v2 ∧ hs2.length < hs'.length := by
  have hm6 : mKn.At W6 mb (delM l' (atI hs' 0)) := h5.map.keep (k6.kept mb h5.map.lt (fun h => h.2 rfl))
  have nd := hp.nodup_iff.1 h.nd
  rw [List.nodup_cons] at nd
  have hl := hp.length_eq
  rw [List.length_cons] at hl
  refine ⟨⟨h6.lr hm6 (h5.lo mb h5.inM) (fun g => ⟨fun h => by
    by_cases e : g = mb
    · exact Or.inr e
    · exact Or.inl ⟨h, e⟩, fun h => by
    rcases h with h | rfl
    · exact h.1
    · exact h5.inM⟩), h.k.trans (k5.trans (kept_more k6 (fun _ h => h.1) (fun _ h => Or.inr h))), fun s => ?_, hh, nd.2, fun s hs2' => h.sub s (hp.mem_iff.2 (List.mem_cons_of_mem _ hs2')), fun s hs1 hb => ?_, by have := h.ln; omega⟩, by omega⟩
  · rw [lookM_del, h.lk]
    by_cases e : s = atI hs' 0
    · rw [if_pos e, e, if_neg nd.1]
    · rw [if_neg e]
      have : s ∈ hs' ↔ s ∈ hs2 := by
        rw [hp.mem_iff, List.mem_cons]
        exact ⟨fun h => by
          rcases h with h | h
          · exact absurd h e
          · exact h, Or.inr⟩
      by_cases hm : s ∈ hs2
      · rw [if_pos hm, if_pos (this.2 hm)]
      · rw [if_neg hm, if_neg (fun h => hm (this.1 h))]
  · have := h.all s hs1 hb
    rw [hp.mem_iff, List.mem_cons] at this
    rcases this with h1 | h1
    · omega
    · exact h1
/-- Behind the jump: what is known then. -/
theorem JuI.done {w wr : World} {base X : Nat} {S : Nat → Prop} {F F1 : Int} {mb : Nat} {p : Ln} {n : Nat} {l0 : List (Int × En)} {hs : List Int} {b : Int} {l' : List (Int × En)} {hs' : List Int} {v' : Value} (hr : LnRel ⟨p.ap, dropE p.l p.ap⟩ n F1 l0 hs) (hb : p.ap < b) (hb2 : b ≤ MXi) (h : JuI w wr base X S p.ap F mb (dropE p.l p.ap) hs b l' hs' v') (hk : ∀ s ∈ hs', b < s) (hok : LnOk p n) : LnRel ⟨b, dropE p.l b⟩ n b l' hs' := by
  have hap := hok.ap
  have hmem : ∀ s, s ∈ hs' ↔ b < s ∧ (leF p.l s).isSome = true := fun s => by
    constructor
    · intro h1
      have h2 := hk s h1
      have h3 := ((hr.hm s).1 (h.sub s h1)).2
      rw [leF_drop, if_pos (by omega)] at h3
      exact ⟨h2, h3⟩
    · rintro ⟨h1, h2⟩
      refine h.all s ((hr.hm s).2 ⟨by show p.ap < s; omega, ?_⟩) h1
      show (leF (dropE p.l p.ap) s).isSome = true
      rw [leF_drop, if_pos (by omega)]
      exact h2
  refine ⟨hok.drop (by omega) hb2, fun s => ?_, ⟨by omega, Int.le_refl _⟩, fun e he => ?_, h.hp, h.nd, fun s => ?_, by have := h.ln; have := hr.hl; omega⟩
  · rw [h.lk, leF_drop, leF_drop]
    by_cases h1 : s ∈ hs'
    · have h2 := ((hmem s).1 h1).1
      rw [if_pos h1, if_pos (by omega), if_pos h2]
    · rw [if_neg h1]
      by_cases h2 : b < s
      · rw [if_pos h2]
        cases hf : leF p.l s with
        | none => rfl
        | some e => exact absurd ((hmem s).2 ⟨h2, by rw [hf]; rfl⟩) h1
      · rw [if_neg h2]
  · have := List.mem_filter.1 he
    simpa using this.2
  · rw [hmem s]
    show _ ↔ b < s ∧ (leF (dropE p.l b) s).isSome = true
    rw [leF_drop]
    constructor
    · rintro ⟨h1, h2⟩; exact ⟨h1, by rw [if_pos h1]; exact h2⟩
    · rintro ⟨h1, h2⟩; rw [if_pos h1] at h2; exact ⟨h1, h2⟩
set_option maxRecDepth 100000 in
set_option maxHeartbeats 8000000 in
theorem jump_any {w : World} {base X : Nat} {S : Nat → Prop} {p : Ln} {n : Nat} (h : LnAt w base X S p n) (hn : n ≤ 536870912) {b : Int} (hb2 : b ≤ MXi) : Calls Try.prog 11 #[.pointer (some ⟨X, 0, none⟩), .int .i64 b] w (LeaPost w base X S (jumL p b) n) := by
  have mixed : Try.prog.follows Departure.mixedOrders = true := by kernel_rfl
  have hok := h.ok
  obtain ⟨c0⟩ : Nonempty (w.cell? ⟨X, 0, none⟩ = some (.int .i64 p.ap)) := by
    obtain ⟨F, l, hs, mb, v, hA, _⟩ := h.ex
    exact ⟨hA.cell 0 _ rfl⟩
  have H : Hid _ := h
  by_cases hap : b ≤ p.ap
  · have t1 : decide (b ≤ p.ap) = true := decide_eq_true hap
    have e1 : jumL p b = (p, []) := by unfold jumL; rw [if_pos hap]
    rw [e1]
    clear h hap e1 hok
    go_enter Try.func11, Try.ntmps11
    go_wp2
    go_ret
    exact ⟨S, _, rfl, H.out, Kept.refl _ _, AnsE.nil _ _ _⟩
  · have t1 : decide (b ≤ p.ap) = false := decide_eq_false hap
    have e1 : jumL p b = folL ⟨b, dropE p.l b⟩ := by unfold jumL; rw [if_neg hap]
    rw [e1]
    have HB : Hid (p.ap < b ∧ b ≤ MXi) := (show Hid _ from (⟨by omega, hb2⟩ : _ ∧ _))
    have HOK : Hid _ := hok
    have e2 : forL p p.ap = ⟨p.ap, dropE p.l p.ap⟩ := by unfold forL; rw [show min p.ap p.ap = p.ap by omega]
    have hF := forget_any h p.ap
    rw [e2] at hF
    have HF : Hid _ := hF
    clear h hap e1 hok e2 hF hb2
    go_enter Try.func11, Try.ntmps11
    go_wp2_with (go_at_call 15; refine Calls.mono HF.out ?_; rintro r w1 ⟨rfl, h1, k1⟩; have H1 : Hid _ := h1; have K1 : Hid _ := k1; clear h1 k1)
    obtain ⟨F1, l1, hs, mb, v1, hA1, hR1⟩ := H1.out.ex
    have HA1 : Hid (LrAt w1 base X S p.ap F1 l1 hs mb v1 ∧ LnRel ⟨p.ap, dropE p.l p.ap⟩ n F1 l1 hs) := (show Hid _ from (⟨hA1, hR1⟩ : _ ∧ _))
    clear hA1 hR1 c0
    go_loopw [] (fun wr => ∃ (l' : List (Int × En)) (hs' : List Int) (v' : Value), Hid (JuI w wr base X S p.ap F1 mb (dropE p.l p.ap) hs b l' hs' v')) (fun wr => wlOf X wr)
    case atStart =>
      refine ⟨l1, hs, v1, (show Hid _ from (⟨HA1.out.1, K1.out, fun s => ?_, HA1.out.2.hp, HA1.out.2.nd, fun _ h => h, fun _ h _ => h, Nat.le_refl _⟩ : JuI _ _ _ _ _ _ _ _ _ _ _ _ _ _))⟩
      rw [HA1.out.2.lk]
      by_cases h1 : s ∈ hs
      · rw [if_pos h1]
      · rw [if_neg h1]
        show leF (dropE p.l p.ap) s = none
        cases hf : leF (dropE p.l p.ap) s with
        | none => rfl
        | some e =>
          have h2 := leF_some hf
          have h3 := (List.mem_filter.1 h2.1).2
          refine absurd ((HA1.out.2.hm s).2 ⟨?_, ?_⟩) h1
          · show p.ap < s
            rw [← h2.2]
            simpa using h3
          · show (leF (dropE p.l p.ap) s).isSome = true
            rw [hf]
            rfl
    case round =>
      obtain ⟨l', hs', v', HI⟩ := hrel
      by_cases h0 : hs'.length = 0
      · obtain ⟨a3, n3, e3⟩ := HI.out.lr.form
        rw [h0] at e3
        have c3 : wr.cell? ⟨X, 3, none⟩ = some (.slice a3 0 n3) := by rw [← e3]; exact HI.out.lr.cell 3 _ rfl
        have HKS : Hid (∀ s ∈ hs', b < s) := fun s hs1 => by
          rw [List.eq_nil_of_length_eq_zero h0] at hs1
          cases hs1
        clear h0 e3
        have hA7 := HI.out.lr.setA b
        have d0 : wr.cell? ⟨X, 0, none⟩ = some (.int .i64 p.ap) := HI.out.lr.cell 0 _ rfl
        have f0 := HI.out.lr.fz 0
        have d1 : (wr.setCell ⟨X, 0, none⟩ (.int .i64 b)).cell? ⟨X, 1, none⟩ = some (.int .i64 F1) := hA7.cell 1 _ rfl
        have f1 := hA7.fz 1
        have HL7 : Hid (LnAt ((wr.setCell ⟨X, 0, none⟩ (.int .i64 b)).setCell ⟨X, 1, none⟩ (.int .i64 b)) base X S ⟨b, dropE p.l b⟩ n) := (show Hid _ from (⟨b, l', hs', mb, _, hA7.setF b, HI.out.done HA1.out.2 HB.out.1 HB.out.2 HKS.out HOK.out⟩ : LnAt _ _ _ _ _ _))
        have HK7 : Hid (Kept w ((wr.setCell ⟨X, 0, none⟩ (.int .i64 b)).setCell ⟨X, 1, none⟩ (.int .i64 b)) S S) := HI.out.k.trans ((HI.out.lr.keptX 0 _).trans (hA7.keptX 1 _))
        clear hA7
        go_wp2_with (go_at_call 24; refine (apply_any HL7.out hn).mono ?_; rintro r w10 ⟨u10, rfl, h10, k10, a10⟩; have H10 : Hid (LnAt w10 base X S (folL ⟨b, dropE p.l b⟩).1 n ∧ Kept w w10 S S ∧ AnsE w w10 S u10 (folL ⟨b, dropE p.l b⟩).2) := (show Hid _ from (⟨h10, HK7.out.trans k10, ⟨a10.row, fun bk off m c q1 q2 => ⟨Nat.le_trans HK7.out.size (a10.new bk off m c q1 q2).1, (a10.new bk off m c q1 q2).2⟩⟩⟩ : _ ∧ _ ∧ _)); clear h10 k10 a10)
        go_ret
        exact ⟨S, u10, rfl, H10.out⟩
      · obtain ⟨g, c, e3, hgS, hc, hx, _⟩ := HI.out.lr.hp.some_form (by omega)
        obtain ⟨k, hk⟩ : ∃ k, k = atI hs' 0 := ⟨_, rfl⟩
        obtain ⟨hn', hhn⟩ : ∃ hn', hn' = hs'.length := ⟨_, rfl⟩
        have ck : wr.cell? ⟨g, 0, none⟩ = some (.int .i64 k) := by rw [hk]; exact hx 0 (by omega)
        rw [← hhn] at e3
        have c3 : wr.cell? ⟨X, 3, none⟩ = some (.slice (some ⟨g, 0, none⟩) hn' c) := by rw [← e3]; exact HI.out.lr.cell 3 _ rfl
        have c2 : wr.cell? ⟨X, 2, none⟩ = some (.map (some mb)) := HI.out.lr.cell 2 _ rfl
        have t2 : decide (0 < (hn' : Int)) = true := decide_eq_true (by omega)
        have t2b : 0 < hn' := by omega
        have HK : Hid (k = atI hs' 0 ∧ hn' = hs'.length ∧ 0 < hn') := (show Hid _ from (⟨hk, hhn, t2b⟩ : _ ∧ _ ∧ _))
        by_cases hkb : k ≤ b
        · have t3 : decide (k ≤ b) = true := decide_eq_true hkb
          have HKB : Hid (k ≤ b) := hkb
          have hkm : k ∈ hs' := by
            have := List.getElem_mem (l := hs') (n := 0) (by omega)
            rw [atI_get (by omega), ← hk] at this
            exact this
          have hin : inI k := by
            have h1 := (HA1.out.2.hm k).1 (HI.out.sub k hkm)
            have h2 := HB.out
            have h3 := HOK.out.ap
            have h4 : p.ap < k := h1.1
            unfold inI
            unfold MXi at *
            omega
          have HIN : Hid _ := hin
          have HZ3 : Hid (∀ W5, LrAt W5 base X S p.ap F1 (delM l' k) hs' mb v' → Kept wr.drew W5 S S → W5.cell? ⟨X, 3, none⟩ = some (.slice (some ⟨g, 0, none⟩) hn' c)) := fun W5 h5 _ => by rw [← e3]; exact h5.cell 3 _ rfl
          have HZK : Hid (∀ W5, LrAt W5 base X S p.ap F1 (delM l' k) hs' mb v' → W5.cell? ⟨g, 0, none⟩ = some (.int .i64 k)) := fun W5 h5 => by
            obtain ⟨g5, c5, e5, _, _, hx5, _⟩ := h5.hp.some_form (by omega)
            rw [e3] at e5
            simp only [Value.slice.injEq, Option.some.injEq, Addr.mk.injEq, and_true] at e5
            rw [e5.1, hk]
            exact hx5 0 (by omega)
          clear hkb hkm hin h0 hk hhn hx hc hgS e3
          go_upto_region 5 with fail
          refine wp_region_held_drew (S := (fun y : World => y.cell? ⟨X, 2, none⟩ = some (.map (some mb)) ∧ y.cell? ⟨X, 3, none⟩ = some (.slice (some ⟨g, 0, none⟩) hn' c) ∧ y.cell? ⟨g, 0, none⟩ = some (.int .i64 k))) (by kernel_rfl) ?_ (fun hHeld0 => ?_)
          · exact ⟨c2, c3, ck⟩
          refine tk0 (.pointer (some ⟨X, 0, none⟩)) (by kernel_rfl) (by kernel_rfl) (by kernel_rfl) (fun _ _ _ h => h) rfl (fun w hSw => by (try dsimp only at hSw); obtain ⟨s1, s2, s3⟩ := hSw; go_simp) (by assumption) ?_
          try simp only [Act.put, List.setIfInBounds_toArray, List.set_cons_zero, List.set_cons_succ]
          refine tk1 (.pointer (some ⟨X, 0, none⟩)) (by kernel_rfl) (by kernel_rfl) (by kernel_rfl) (fun _ _ _ h => h) rfl (fun w hSw => by (try dsimp only at hSw); obtain ⟨s1, s2, s3⟩ := hSw; go_simp) (by assumption) ?_
          try simp only [Act.put, List.setIfInBounds_toArray, List.set_cons_zero, List.set_cons_succ]
          refine tk2 (.pointer (some ⟨X, 2, none⟩)) (by kernel_rfl) (by kernel_rfl) (by kernel_rfl) (fun _ _ _ h => h) rfl (fun w hSw => by (try dsimp only at hSw); obtain ⟨s1, s2, s3⟩ := hSw; go_simp) (by assumption) ?_
          try simp only [Act.put, List.setIfInBounds_toArray, List.set_cons_zero, List.set_cons_succ]
          refine tk3 (.map (some mb)) (by kernel_rfl) (by kernel_rfl) (by kernel_rfl) (fun _ _ _ h => h) rfl (fun w hSw => by (try dsimp only at hSw); obtain ⟨s1, s2, s3⟩ := hSw; go_simp) (by assumption) ?_
          try simp only [Act.put, List.setIfInBounds_toArray, List.set_cons_zero, List.set_cons_succ]
          refine tk4 (.pointer (some ⟨X, 0, none⟩)) (by kernel_rfl) (by kernel_rfl) (by kernel_rfl) (fun _ _ _ h => h) rfl (fun w hSw => by (try dsimp only at hSw); obtain ⟨s1, s2, s3⟩ := hSw; go_simp) (by assumption) ?_
          try simp only [Act.put, List.setIfInBounds_toArray, List.set_cons_zero, List.set_cons_succ]
          refine tk5 (.pointer (some ⟨X, 0, none⟩)) (by kernel_rfl) (by kernel_rfl) (by kernel_rfl) (fun _ _ _ h => h) rfl (fun w hSw => by (try dsimp only at hSw); obtain ⟨s1, s2, s3⟩ := hSw; go_simp) (by assumption) ?_
          try simp only [Act.put, List.setIfInBounds_toArray, List.set_cons_zero, List.set_cons_succ]
          refine tk6 (.pointer (some ⟨X, 3, none⟩)) (by kernel_rfl) (by kernel_rfl) (by kernel_rfl) (fun _ _ _ h => h) rfl (fun w hSw => by (try dsimp only at hSw); obtain ⟨s1, s2, s3⟩ := hSw; go_simp) (by assumption) ?_
          try simp only [Act.put, List.setIfInBounds_toArray, List.set_cons_zero, List.set_cons_succ]
          refine tk7 (.slice (some ⟨g, 0, none⟩) hn' c) (by kernel_rfl) (by kernel_rfl) (by kernel_rfl) (fun _ _ _ h => h) rfl (fun w hSw => by (try dsimp only at hSw); obtain ⟨s1, s2, s3⟩ := hSw; go_simp) (by assumption) ?_
          try simp only [Act.put, List.setIfInBounds_toArray, List.set_cons_zero, List.set_cons_succ]
          refine tk8 (.pointer (some ⟨g, 0, none⟩)) (by kernel_rfl) (by kernel_rfl) (by kernel_rfl) (fun _ _ _ h => h) rfl (fun w hSw => by (try dsimp only at hSw); obtain ⟨s1, s2, s3⟩ := hSw; go_simp) (by assumption) ?_
          try simp only [Act.put, List.setIfInBounds_toArray, List.set_cons_zero, List.set_cons_succ]
          refine tk9 (.int .i64 k) (by kernel_rfl) (by kernel_rfl) (by kernel_rfl) (fun _ _ _ h => h) rfl (fun w hSw => by (try dsimp only at hSw); obtain ⟨s1, s2, s3⟩ := hSw; go_simp) (by assumption) ?_
          try simp only [Act.put, List.setIfInBounds_toArray, List.set_cons_zero, List.set_cons_succ]
          refine cl10 (by kernel_rfl) rfl (fun K hK => ?_)
          obtain ⟨W5, hdel, hm5, hg5, hz5⟩ := MapOf.del mKn_is HI.out.lr.drew.map HIN.out 0
          go_simp
          obtain ⟨hA5, hk5⟩ := HI.out.lr.drew.setM hm5 hg5
          have z2 : W5.cell? ⟨X, 2, none⟩ = some (.map (some mb)) := hA5.cell 2 _ rfl
          have z3 : W5.cell? ⟨X, 3, none⟩ = some (.slice (some ⟨g, 0, none⟩) hn' c) := HZ3.out W5 hA5 hk5
          have zk : W5.cell? ⟨g, 0, none⟩ = some (.int .i64 k) := HZK.out W5 hA5
          refine hK.out _ _ ?_ (fun hHeld => ?_)
          · exact ⟨z2, z3, zk⟩
          clear hK K
          try simp only [Act.put, List.setIfInBounds_toArray, List.set_cons_zero, List.set_cons_succ]
          refine wpAnyH_done (by kernel_rfl) ?_ _
          have HN5 : Hid (LrAt W5 base X S p.ap F1 (delM l' k) hs' mb v' ∧ Kept wr W5 S S) := (show Hid _ from (⟨hA5, (kept_drew _ _).trans hk5⟩ : _ ∧ _))
          have HHL : Hid (hs'.length < 1099511627776) := (by have := HI.out.ln; have := HA1.out.2.hl; omega : hs'.length < 1099511627776)
          clear hA5 hk5 hm5 hg5 hz5 hdel z2 z3 zk
          go_wp2_with (go_at_call 27; refine (hpop_any HN5.out.1.hp HI.out.hp (by have := HK.out; omega) HHL.out).mono ?_; rintro r W6 ⟨⟨T6, x6, rfl⟩, ⟨v2, hs2, h6, k6, p6, hp6⟩⟩; have h7 := HI.out.next (by rw [← HK.out.1]; exact HKB.out) (by rw [← HK.out.1]; exact HN5.out.1) HN5.out.2 (by rw [← HK.out.1]; exact h6) k6 p6 hp6; have H7 : Hid _ := h7; clear h6 k6 p6 hp6 h7)
          go_roundw
          case rel => exact ⟨_, hs2, v2, H7.out.1⟩
          case measure =>
            obtain ⟨a2, n2, e2⟩ := H7.out.1.lr.form
            have q2 : W6.cell? ⟨X, 3, none⟩ = some (.slice a2 hs2.length n2) := by rw [← e2]; exact H7.out.1.lr.cell 3 _ rfl
            rw [wlOf_is q2, wlOf_is c3, HK.out.2.1]
            exact H7.out.2
        · have t3 : decide (k ≤ b) = false := decide_eq_false hkb
          have HKS : Hid (∀ s ∈ hs', b < s) := fun s hs1 => by
            have := HI.out.hp.first s hs1
            omega
          clear hkb h0 hk hhn hx hc hgS e3
          have hA7 := HI.out.lr.setA b
          have d0 : wr.cell? ⟨X, 0, none⟩ = some (.int .i64 p.ap) := HI.out.lr.cell 0 _ rfl
          have f0 := HI.out.lr.fz 0
          have d1 : (wr.setCell ⟨X, 0, none⟩ (.int .i64 b)).cell? ⟨X, 1, none⟩ = some (.int .i64 F1) := hA7.cell 1 _ rfl
          have f1 := hA7.fz 1
          have HL7 : Hid (LnAt ((wr.setCell ⟨X, 0, none⟩ (.int .i64 b)).setCell ⟨X, 1, none⟩ (.int .i64 b)) base X S ⟨b, dropE p.l b⟩ n) := (show Hid _ from (⟨b, l', hs', mb, _, hA7.setF b, HI.out.done HA1.out.2 HB.out.1 HB.out.2 HKS.out HOK.out⟩ : LnAt _ _ _ _ _ _))
          have HK7 : Hid (Kept w ((wr.setCell ⟨X, 0, none⟩ (.int .i64 b)).setCell ⟨X, 1, none⟩ (.int .i64 b)) S S) := HI.out.k.trans ((HI.out.lr.keptX 0 _).trans (hA7.keptX 1 _))
          clear hA7
          go_wp2_with (go_at_call 24; refine (apply_any HL7.out hn).mono ?_; rintro r w10 ⟨u10, rfl, h10, k10, a10⟩; have H10 : Hid (LnAt w10 base X S (folL ⟨b, dropE p.l b⟩).1 n ∧ Kept w w10 S S ∧ AnsE w w10 S u10 (folL ⟨b, dropE p.l b⟩).2) := (show Hid _ from (⟨h10, HK7.out.trans k10, ⟨a10.row, fun bk off m c q1 q2 => ⟨Nat.le_trans HK7.out.size (a10.new bk off m c q1 q2).1, (a10.new bk off m c q1 q2).2⟩⟩⟩ : _ ∧ _ ∧ _)); clear h10 k10 a10)
          go_ret
          exact ⟨S, u10, rfl, H10.out⟩
end Go.Proofs.Ytnoappklbipdhaa
