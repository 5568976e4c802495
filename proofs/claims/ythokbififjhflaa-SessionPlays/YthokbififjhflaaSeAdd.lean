/-
  Package session: a session added, Open, as plain data. The conditions: a session that may be; fewer than a million.
-/
import Derived.Test.YthokbififjhflaaSeAsk
namespace Go.Proofs.Ythokbififjhflaa
open Go.RowKit

structure SeAdP (w : World) (base X : Nat) (S : Nat → Prop) (l : List SeX) (v : Value) (e : Ending) (w' : World) : Prop where
  ex : ∃ S', e = .returned v ∧ SeAt w' base X S' l ∧ Kept w w' S S'
theorem seA_set (ma mo : Nat) (L : Nat → Int) (c : Nat) (hc : c < 8) (v : Int) : (seA ma mo L).setIfInBounds (2 + c) (.int .i64 v) = seA ma mo (fun i => if i = c then v else L i) := by
  match c, hc with
  | 0, _ => rfl
  | 1, _ => rfl
  | 2, _ => rfl
  | 3, _ => rfl
  | 4, _ => rfl
  | 5, _ => rfl
  | 6, _ => rfl
  | 7, _ => rfl
set_option maxRecDepth 100000 in
set_option maxHeartbeats 4000000 in
theorem add_any {w : World} {base X : Nat} {S : Nat → Prop} {l : List SeX} (h : SeAt w base X S l) {x : SeX} (hx : x.Ok ((l.length : Int) + 1)) (hf : seLif l x.client < x.life) (ho : x.op = true → (seAll l).length < 256) (hl : l.length < 1000000) :
    Calls Try.prog 50 #[.pointer (some ⟨X, 0, none⟩), .agg (seXA x), .bool x.op] w (SeAdP w base X S (l ++ [x]) (.int .i64 ((l.length : Int) + 1))) := by
  obtain ⟨W, hW⟩ : ∃ W, W = w.alloc (.cells (seXA x) 82) := ⟨_, rfl⟩
  have bW : Below w.heap.size w W := by rw [hW]; exact (Below.refl _ w).alloc (Nat.le_refl _) _
  have rW : SeB W w.heap.size x := by rw [hW]; exact heap_alloc_new w _
  have HW : Hid (w.alloc (.cells (seXA x) 82) = W) := hW.symm
  have hA := h.fresh bW
  obtain ⟨ma, mo, la, lo, ps, L, hM⟩ := hA.ex
  have hSb : ∀ g, S g → g < w.heap.size := fun g hg => (h.bd g hg).2
  have hbase : base ≤ w.heap.size := by have := h.bd X hM.inX; omega
  obtain ⟨c, hc⟩ : ∃ c : Nat, x.client = c := ⟨x.client.toNat, by have := hx.c0; omega⟩
  have hc8 : c < 8 := by have := hx.c1; omega
  have hkey : okI ((l.length : Int) + 1) := by unfold okI; omega
  obtain ⟨W2, hup2, hm2, hg2, hz2⟩ := MapOf.put mSe_is hM.all hkey w.heap.size
  have k2 : ∀ g, g < W.heap.size → g ≠ ma → W2.heap[g]? = W.heap[g]? := fun g hg hn => hg2.block g hg (fun e => hn (Option.some.inj e))
  have hsz := lt_of_block rW
  have nA : w.heap.size ≠ ma := fun e => by have := hSb _ hM.inA; omega
  have nO : w.heap.size ≠ mo := fun e => by have := hSb _ hM.inO; omega
  have nX : w.heap.size ≠ X := fun e => by have := hSb _ hM.inX; omega
  have rW2 : SeB W2 w.heap.size x := (k2 _ hsz nA).trans rW
  have hX2 : W2.heap[X]? = some (.cells (seA ma mo L) 65 (0, 0)) := (k2 X (hM.bd X hM.inX) hM.neAX.symm).trans hM.blk
  have hO2 : mSe.At W2 mo lo := hM.opn.keep (k2 mo (hM.bd mo hM.inO) hM.ne.symm)
  obtain ⟨W3', hup3, hm3, hg3, hz3⟩ := MapOf.put mSe_is hO2 hkey w.heap.size
  obtain ⟨W3, hW3⟩ : ∃ W3, W3 = if x.op = true then W3' else W2 := ⟨_, rfl⟩
  obtain ⟨lo', hlo'⟩ : ∃ lo', lo' = if x.op = true then putM lo ((l.length : Int) + 1) w.heap.size else lo := ⟨_, rfl⟩
  have hg23 : W2.grownBy W3 (some mo) := by
    rw [hW3]
    split
    · exact hg3
    · exact ⟨rfl, rfl, rfl, Nat.le_refl _, fun _ _ _ => rfl⟩
  have hm3' : mSe.At W3 mo lo' := by
    rw [hW3, hlo']
    split
    · exact hm3
    · exact hO2
  have k3 : ∀ g, g < W2.heap.size → g ≠ mo → W3.heap[g]? = W2.heap[g]? := fun g hg hn => hg23.block g hg (fun e => hn (Option.some.inj e))
  have rW3 : SeB W3 w.heap.size x := (k3 _ (by omega) nO).trans rW2
  have hX3 : W3.heap[X]? = some (.cells (seA ma mo L) 65 (0, 0)) := (k3 X (by have := hM.bd X hM.inX; omega) hM.neOX.symm).trans hX2
  have hm2' : mSe.At W3 ma (putM la ((l.length : Int) + 1) w.heap.size) := hm2.keep (k3 ma (by have := hM.bd ma hM.inA; omega) hM.ne)
  have HF : Hid (∀ w4 : World, w4.heap[X]? = some (.cells (seA ma mo (fun i => if i = c then (l.length : Int) + 1 else L i)) 65 (0, 0)) → W3.grownBy w4 (some X) → ∃ S', SeAt w4 base X S' (l ++ [x]) ∧ Kept w w4 S S') := by
    intro w4 hX4 hg4
    have k4 : ∀ g, g < W3.heap.size → g ≠ X → w4.heap[g]? = W3.heap[g]? := fun g hg hn => hg4.block g hg (fun e => hn (Option.some.inj e))
    have hps : ∀ g ∈ ps, w4.heap[g]? = W.heap[g]? := fun g hg => by
      have hlt := hM.bd g (hM.inP hg)
      have s23 := hg23.size
      exact (k4 g (by omega) (hM.neXP hg).symm).trans ((k3 g (by omega) (hM.neOP hg).symm).trans (k2 g hlt (hM.neAP hg).symm))
    have s23 := hg23.size
    refine ⟨_, ⟨⟨ma, mo, _, lo', _, _, hM.app hX4 (fun i hi => ?_) (hm2'.keep (k4 ma (by have := hm2'.lt; omega) hM.neAX)) (hm3'.keep (k4 mo (by have := hm3'.lt; omega) hM.neOX)) hlo' ((k4 _ (lt_of_block rW3) nX).trans rW3) hSb hbase hps⟩, h.ok.app hx hf ho, by rw [List.length_append, List.length_singleton]; omega⟩, ?_⟩
    · show (if i = c then (l.length : Int) + 1 else L i) = _
      by_cases e : i = c
      · rw [if_pos e, if_pos (by rw [hc, e])]
      · rw [if_neg e, if_neg (by rw [hc]; omega)]
    · have kk := (Kept.of (S := S) bW).trans ((kept_grown hg2 hM.inA).trans ((kept_grown hg23 hM.inO).trans (kept_grown hg4 hM.inX)))
      refine ⟨kk.os, kk.tape, kk.output, kk.size, fun g hg => ?_, kk.kept⟩
      rcases hg with hg | hg
      · exact Or.inl hg
      · exact Or.inr (by omega)
  have c0 : W.cell? ⟨X, 0, none⟩ = some (.map (some ma)) := hM.cell 0 _ rfl
  have c1 : W2.cell? ⟨X, 1, none⟩ = some (.map (some mo)) := by simp [World.cell?, hX2]
  have hlen : ∀ ty, (Builtin.len_ #[62] ty #[.map (some ma)]).run Try.prog W = .ok (.int .i64 (l.length : Int)) W := fun ty => by
    have := MapOf.len mSe_is hM.all ty
    rw [hM.lenA] at this
    exact this
  have c0' : W.cell? ⟨X, 0, none⟩ = some (.map (some ma)) := c0
  have x0 : W3.cell? ⟨w.heap.size, 0, none⟩ = some (.int .i64 (c : Int)) := by rw [← hc]; exact rW3.cell 0 _ rfl
  have hmX : W3.cell? ⟨X, 2 + c, none⟩ = some (.int .i64 (L c)) := by
    simp only [World.cell?, hX3]
    match c, hc8 with
    | 0, _ => rfl
    | 1, _ => rfl
    | 2, _ => rfl
    | 3, _ => rfl
    | 4, _ => rfl
    | 5, _ => rfl
    | 6, _ => rfl
    | 7, _ => rfl
  have fzX : ∀ j, W3.frozen? ⟨X, j, none⟩ = false := fun j => by simp [World.frozen?, hX3]
  have hb : (c : Int) < 8 := by omega
  have HX : Hid (W3.heap[X]? = some (.cells (seA ma mo L) 65 (0, 0)) ∧ c < 8) := (show Hid _ from (⟨hX3, hc8⟩ : _ ∧ _))
  cases hop : x.op with
  | true =>
    rw [if_pos hop] at hW3
    subst hW3
    clear h hA hM bW rW hW hx hf ho hSb hbase hc hkey hm2 hg2 hz2 k2 hsz nA nO nX rW2 hX2 hO2 hm3 hg3 hz3 hlo' hg23 hm3' k3 rW3 hX3 hm2' c0' hop hc8
    go_enter Try.func50, Try.ntmps50
    go_upto_region 1 with fail
    rw [HW.out]
    go_wp2
    go_region
    all_goals go_wp2
    all_goals go_ret
    obtain ⟨S', hS, kS⟩ := HF.out (W3.setCell ⟨X, 2 + c, none⟩ (.int .i64 ((l.length : Int) + 1))).drew (by
      have := heap_setCell_same W3 X (2 + c) _ _ (.int .i64 ((l.length : Int) + 1)) HX.out.1
      rw [seA_set ma mo L c HX.out.2] at this
      exact this) (by
      have g := grown_cell (j := 2 + c) (v := .int .i64 ((l.length : Int) + 1)) (grown_rf W3 (some X))
      exact ⟨g.os, g.tape, g.output, g.size, g.block⟩)
    exact ⟨S', rfl, hS, kS⟩
  | false =>
    rw [if_neg (by rw [hop]; decide)] at hW3
    subst hW3
    clear h hA hM bW rW hW hx hf ho hSb hbase hc hkey hm2 hg2 hz2 k2 hsz nA nO nX rW2 hX2 hO2 hm3 hg3 hz3 hlo' hg23 hm3' k3 rW3 hX3 hm2' c0' hop hc8 hup3
    go_enter Try.func50, Try.ntmps50
    go_upto_region 1 with fail
    rw [HW.out]
    go_wp2
    go_region
    all_goals go_wp2
    all_goals go_ret
    obtain ⟨S', hS, kS⟩ := HF.out (W3.setCell ⟨X, 2 + c, none⟩ (.int .i64 ((l.length : Int) + 1))).drew (by
      have := heap_setCell_same W3 X (2 + c) _ _ (.int .i64 ((l.length : Int) + 1)) HX.out.1
      rw [seA_set ma mo L c HX.out.2] at this
      exact this) (by
      have g := grown_cell (j := 2 + c) (v := .int .i64 ((l.length : Int) + 1)) (grown_rf W3 (some X))
      exact ⟨g.os, g.tape, g.output, g.size, g.block⟩)
    exact ⟨S', rfl, hS, kS⟩
structure SeOpP (w : World) (base X : Nat) (S : Nat → Prop) (q : List SeX × Int × Bool × Int) (e : Ending) (w' : World) : Prop where
  ex : ∃ S', e = .returned (.tuple #[.int .i64 q.2.1, .bool q.2.2.1, .int .i64 q.2.2.2]) ∧ SeAt w' base X S' q.1 ∧ Kept w w' S S'
set_option maxRecDepth 100000 in
set_option maxHeartbeats 4000000 in
theorem sopen_any {w : World} {base X : Nat} {S : Nat → Prop} {l : List SeX} (h : SeAt w base X S l) (hl : l.length < 1000000) {c f : Int} :
    Calls Try.prog 22 #[.pointer (some ⟨X, 0, none⟩), .int .i64 c, .int .i64 f] w (SeOpP w base X S (seOpn l c f)) := by
  have HM := mayLive_any c f w
  have HA : Hid (SeAt w base X S l) := h
  cases hm : seMay c f with
  | false =>
    have e1 : seOpn l c f = (l, 0, false, 1) := by unfold seOpn; rw [if_pos hm]
    rw [e1]
    rw [hm] at HM
    clear h e1 hm
    go_enter Try.func22, Try.ntmps22
    go_wp2_with (go_at_call 48; refine HM.mono ?_; rintro r w1 ⟨rfl, hw1⟩; rw [hw1]; clear hw1)
    go_ret3
    exact ⟨S, rfl, HA.out, Kept.refl _ _⟩
  | true =>
    have hmm := hm
    simp only [seMay, Bool.and_eq_true, decide_eq_true_eq] at hmm
    obtain ⟨⟨⟨m1, m2⟩, m3⟩, m4⟩ := hmm
    obtain ⟨k, rfl⟩ : ∃ k : Nat, c = k := ⟨c.toNat, by omega⟩
    have hk8 : k < 8 := by omega
    have HL : Hid _ := lifeOf_any h k hk8
    rw [hm] at HM
    by_cases h2 : f < seLif l k
    · have e1 : seOpn l k f = (l, 0, false, 18) := by unfold seOpn; rw [if_neg (by rw [hm]; decide), if_pos h2]
      have t1 : decide (f < seLif l k) = true := decide_eq_true h2
      rw [e1]
      clear h e1 hm h2 m1 m2 m3 m4
      go_enter Try.func22, Try.ntmps22
      go_wp2_with (first
        | (go_at_call 49; refine Calls.mono HL.out ?_; rintro r w2 ⟨rfl, b2⟩; have B2 : Hid _ := b2; clear b2)
        | (go_at_call 48; refine HM.mono ?_; rintro r w1 ⟨rfl, hw1⟩; rw [hw1]; clear hw1))
      go_ret3
      exact ⟨S, rfl, HA.out.fresh B2.out, Kept.of B2.out⟩
    have t1 : decide (f < seLif l k) = false := decide_eq_false h2
    by_cases h3 : seLif l k = f
    · have e1 : seOpn l k f = (l, (seLat l k : Int), false, 0) := by unfold seOpn; rw [if_neg (by rw [hm]; decide), if_neg h2, if_pos h3]
      have t2 : (seLif l k == f) = true := by simpa using h3
      rw [e1]
      have HC : Hid (∀ y, Below w.heap.size w y → y.cell? ⟨X, 2 + k, none⟩ = some (.int .i64 (seLat l k))) := fun y b => by
        obtain ⟨ma, mo, la, lo, ps, L, hM⟩ := (h.fresh b).ex
        exact hM.cellL k hk8
      have hb : (k : Int) < 8 := m2
      clear h e1 hm h2 m1 m2 m3 m4 h3
      go_enter Try.func22, Try.ntmps22
      go_wp2_with (first
        | (go_at_call 49; refine Calls.mono HL.out ?_; rintro r w2 ⟨rfl, b2⟩; have B2 : Hid _ := b2; have z := HC.out w2 b2; clear b2)
        | (go_at_call 48; refine HM.mono ?_; rintro r w1 ⟨rfl, hw1⟩; rw [hw1]; clear hw1))
      go_ret3
      exact ⟨S, rfl, HA.out.fresh B2.out, Kept.of B2.out⟩
    have t2 : (seLif l k == f) = false := by simpa using h3
    have HC : Hid (∀ y, Below w.heap.size w y → ∃ mo, y.cell? ⟨X, 1, none⟩ = some (.map (some mo)) ∧ ∀ ty, (Builtin.len_ #[62] ty #[.map (some mo)]).run Try.prog y = .ok (.int .i64 ((seAll l).length : Int)) y) := fun y b => by
      obtain ⟨ma, mo, la, lo, ps, L, hM⟩ := (h.fresh b).ex
      refine ⟨mo, hM.cell 1 _ rfl, fun ty => ?_⟩
      have := MapOf.len mSe_is hM.opn ty
      rw [hM.lenO] at this
      exact this
    by_cases h4 : 256 ≤ (seAll l).length
    · have e1 : seOpn l k f = (l, 0, false, 17) := by unfold seOpn; rw [if_neg (by rw [hm]; decide), if_neg h2, if_neg h3, if_pos h4]
      have t3 : decide ((256 : Int) ≤ ((seAll l).length : Int)) = true := decide_eq_true (by omega)
      have t4 : decide (256 ≤ (seAll l).length) = true := decide_eq_true h4
      rw [e1]
      obtain ⟨N, hN⟩ : ∃ N, N = (seAll l).length := ⟨_, rfl⟩
      rw [← hN] at HC t3 t4
      clear h e1 hm h2 m1 m2 m3 m4 h3 h4 hN
      go_enter Try.func22, Try.ntmps22
      go_wp2_with (first
        | (go_at_call 49; refine Calls.mono HL.out ?_; rintro r w2 ⟨rfl, b2⟩; have B2 : Hid _ := b2; obtain ⟨mo, z1, z2⟩ := HC.out w2 b2; clear b2)
        | (go_at_call 48; refine HM.mono ?_; rintro r w1 ⟨rfl, hw1⟩; rw [hw1]; clear hw1))
      go_ret3
      exact ⟨S, rfl, HA.out.fresh B2.out, Kept.of B2.out⟩
    have e1 : seOpn l k f = (l ++ [seNew k f], (l.length : Int) + 1, true, 0) := by unfold seOpn; rw [if_neg (by rw [hm]; decide), if_neg h2, if_neg h3, if_neg h4]
    have t3 : decide ((256 : Int) ≤ ((seAll l).length : Int)) = false := decide_eq_false (by omega)
    have t4 : decide (256 ≤ (seAll l).length) = false := decide_eq_false h4
    rw [e1]
    have HD : Hid (∀ y, Below w.heap.size w y → Calls Try.prog 50 #[.pointer (some ⟨X, 0, none⟩), .agg (seXA (seNew k f)), .bool true] y (SeAdP y base X S (l ++ [seNew k f]) (.int .i64 ((l.length : Int) + 1)))) := fun y b =>
      add_any (h.fresh b) (x := seNew k f) ⟨m1, m2, m3, m4, by show (0 : Int) ≤ 0; omega, by show (0 : Int) ≤ _; omega, fun _ => rfl, fun e => (by cases e), SeR.zero_ok⟩ (by show seLif l k < f; omega) (fun _ => by omega) hl
    obtain ⟨N, hN⟩ : ∃ N, N = (seAll l).length := ⟨_, rfl⟩
    rw [← hN] at HC t3 t4
    clear h e1 hm h2 m1 m2 m3 m4 h3 h4 hN
    go_enter Try.func22, Try.ntmps22
    go_wp2_with (first
      | (go_at_call 50; refine Calls.mono (HD.out w2 B2.out) ?_; rintro r w3 ⟨S3, rfl, h3, k3⟩; have H3 : Hid (SeAt w3 base X S3 (l ++ [seNew k f]) ∧ Kept w2 w3 S S3) := (show Hid _ from (⟨h3, k3⟩ : _ ∧ _)); clear h3 k3)
      | (go_at_call 49; refine Calls.mono HL.out ?_; rintro r w2 ⟨rfl, b2⟩; have B2 : Hid _ := b2; obtain ⟨mo, z1, z2⟩ := HC.out w2 b2; clear b2)
      | (go_at_call 48; refine HM.mono ?_; rintro r w1 ⟨rfl, hw1⟩; rw [hw1]; clear hw1))
    go_ret3
    exact ⟨S3, rfl, H3.out.1, (Kept.of B2.out).trans H3.out.2⟩
end Go.Proofs.Ythokbififjhflaa
