/-
  Parts of the proof, laid together: FoSure, FoSureW. The conditions stand at each part.
-/
import Derived.Test.YtodnnhidljfilaaGreatDoorFPack6
/-
  Package durable: what DurableSure wants besides the stores' contracts: sizes of what is folded, a Put that is refused, rows that came in beside a store, a row's beginning. The conditions: the library's own.
-/
namespace Go.Proofs.YtodnnhidljfilaaGreatDoor
open Go.Shelf Go.RowKit Go.Lib Go.Sort

theorem mayR_sz {r : Rc} (h : mayR r = true) : r.en.cmd.name.size ≤ 281474976710656 := by
  rcases mayR_kind h with ⟨_, _, _, e⟩ | ⟨_, h2, _⟩
  · rw [e]
    show En.zero.cmd.name.size ≤ _
    decide
  · have := (may_small (mayE_small h2).2.2).2.2.2.1
    omega
theorem all_sz {l : List Rc} (h : l.all mayR = true) : SzR l := fun r hr => mayR_sz (List.all_eq_true.1 h r hr)
theorem putE_memS : ∀ {l : List En} {e x : En}, x ∈ putE l e → x ∈ l ∨ x = e
  | [], e, x, h => Or.inr (List.mem_singleton.1 h)
  | y :: l, e, x, h => by
    unfold putE at h
    split at h
    · rcases List.mem_cons.1 h with h1 | h1
      · exact Or.inl (by rw [h1]; exact List.mem_cons_self ..)
      · rcases putE_memS h1 with h2 | h2
        · exact Or.inl (List.mem_cons_of_mem _ h2)
        · exact Or.inr h2
    · split at h
      · rcases List.mem_cons.1 h with h1 | h1
        · exact Or.inr h1
        · exact Or.inl (List.mem_cons_of_mem _ h1)
      · rcases List.mem_cons.1 h with h1 | h1
        · exact Or.inr h1
        · exact Or.inl h1
theorem stepD_sz {d : Du} {r : Rc} (h : SzD d) (hr : r.en.cmd.name.size ≤ 281474976710656) : SzD (stepD d r) := by
  refine ⟨by rw [(stepD_base d r).2]; exact h.s, fun e he => ?_⟩
  unfold stepD at he
  split at he
  · exact h.es e he
  · split at he
    · have he' : e ∈ (if d.b < r.en.slot then putE d.es r.en else d.es) := he
      split at he'
      · rcases putE_memS he' with h1 | h1
        · exact h.es e h1
        · rw [h1]
          exact hr
      · exact h.es e he'
    · exact h.es e he
theorem foldD_sz : ∀ (l : List Rc) {d : Du}, SzD d → SzR l → SzD (foldD d l)
  | [], _, h, _ => h
  | r :: l, d, h, hl => foldD_sz l (d := stepD d r) (stepD_sz h (hl r (List.mem_cons_self ..))) (fun q hq => hl q (List.mem_cons_of_mem _ hq))
theorem take_parts {la lb R : List Rc} (h1 : R = (la ++ lb).take R.length) (h2 : la.length ≤ R.length) (h3 : R.length ≤ la.length + lb.length) : ∃ m, m ≤ lb.length ∧ R = la ++ lb.take m := by
  refine ⟨R.length - la.length, by omega, ?_⟩
  have e1 : (la ++ lb).take R.length = la ++ lb.take (R.length - la.length) := by rw [List.take_append, List.take_of_length_le h2]
  exact h1.trans e1
section
variable {w w' : World} {base S L D k : Nat} {A : List CF} {t : Nat} {ro : Nat → Option Nat} {d : Du} {v : Value}
/-- A row that came in, beside a store. -/
theorem StS.came {w0 : World} {lv : Value} {l : List Rc} (h : StS w base S L D k A t ro d v) (hv : RowAt rcC w0 lv l) (hb : base = w0.heap.size) (b : Below base w0 w) : RowO w ro L lv l ∧ ∀ bk off n cap, 0 < n → lv = .slice (some ⟨bk, off, none⟩) n cap → bk ≠ S ∧ v.ownBlock ≠ some bk := by
  subst hb
  refine ⟨⟨hv.fresh b, fun bk off n cap h0 e => ?_⟩, fun bk off n cap h0 e => ?_⟩
  · have h1 := hv.lt h0 e
    refine ⟨Nat.lt_of_lt_of_le h1 b.size, ?_, ?_⟩
    · cases hr : ro bk with
      | none => rfl
      | some x =>
        have := (h.lg.dk.bd bk (by rw [hr]; simp)).1
        omega
    · have := h.lg.lo
      omega
  · have h1 := hv.lt h0 e
    refine ⟨by have := h.lo; omega, fun e2 => ?_⟩
    have := (h.own.lt _ e2).1
    omega
set_option maxHeartbeats 6400000 in
set_option maxRecDepth 100000 in
theorem put_bad {a : Option Addr} {n c : Nat} (h : StS w base S L D k A t ro d v)
    (qc : Calls Tryz.prog 43 #[.pointer (some ⟨L, 0, none⟩), .slice a n c] w fun e w' => e = .returned (.int .i64 1) ∧ Below w.heap.size w w') :
    Calls Tryz.prog 20 #[.pointer (some ⟨S, 0, none⟩), .slice a n c, .bool false] w fun e w' => e = .returned (.int .i64 1) ∧ Below w.heap.size w w' := by
  have c1 : w.cell? ⟨S, 1, none⟩ = some (.pointer (some ⟨L, 0, none⟩)) := by simp [World.cell?, h.st]
  clear h
  go_enter Tryz.func20, Tryz.ntmps20
  go_wp2_with (go_at_call 43; refine qc.mono ?_; rintro e w1 ⟨rfl, b1⟩)
  go_ret
  exact ⟨rfl, b1⟩
set_option maxHeartbeats 6400000 in
set_option maxRecDepth 100000 in
theorem put_badW {a : Option Addr} {n c : Nat} (h : StS w base S L D k A t ro d v)
    (qc : Calls Tryz.prog 44 #[.pointer (some ⟨L, 0, none⟩), .slice a n c] w fun e w' => e = .returned (.int .i64 1) ∧ Below w.heap.size w w') :
    Calls Tryz.prog 20 #[.pointer (some ⟨S, 0, none⟩), .slice a n c, .bool true] w fun e w' => e = .returned (.int .i64 1) ∧ Below w.heap.size w w' := by
  have c1 : w.cell? ⟨S, 1, none⟩ = some (.pointer (some ⟨L, 0, none⟩)) := by simp [World.cell?, h.st]
  clear h
  go_enter Tryz.func20, Tryz.ntmps20
  go_wp2_with (go_at_call 44; refine qc.mono ?_; rintro e w1 ⟨rfl, b1⟩)
  go_ret
  exact ⟨rfl, b1⟩
end
set_option maxRecDepth 100000 in
/-- The beginning of a row of records. -/
theorem slice_row {w : World} {a : Option Addr} {n cap : Nat} {l : List Rc} (h : RowAt rcC w (.slice a n cap) l) (m : Nat) (hm : m ≤ n) : ∀ w', (Instr.sliceAt 25 (.slice a n cap) none (some (.int .i64 (m : Int))) none).run Tryz.prog w' = .ok (.slice a m cap) w' := by
  have hu2 : Tryz.prog.underlying 25 = some (.slice (Tryz.prog.elem 25)) := by
    rw [show Tryz.prog.elem 25 = 69 by kernel_rfl]
    exact Tryz.underlying25
  obtain ⟨i0, hi, _, hz1, _⟩ := info_parts infoRc
  have hsz : ∀ w, (sizeOf 69).run Tryz.prog w = .ok 9 w := fun w => by simp [sizeOf, typeInfo, hi, hz1]
  have hel : Tryz.prog.elem 25 = 69 := by kernel_rfl
  obtain ⟨a', cap', e, h1, h2, _⟩ := h.ex
  obtain ⟨e1, e2, e3⟩ := Value.slice.inj e
  subst e1 e2 e3
  clear e h
  intro w'
  cases a with
  | none =>
    obtain ⟨q1, q2⟩ := h2 rfl
    have q3 : m = 0 := by omega
    rw [q1] at hm ⊢
    subst q2 q3
    rw [run_sliceAt_slice _ _ _ _ _ _ hu2, run_slice_h _ _ _ _ _ hu2 _ _ (by omega) (by omega), hel, hsz]
    simp [Result.andThen_ok, sliced]
  | some x =>
    rw [run_sliceAt_slice _ _ _ _ _ _ hu2, run_slice_h _ _ _ _ _ hu2 _ _ (by omega) (by omega), hel, hsz]
    simp only [Result.andThen_ok, sliced, Int.toNat_natCast, Nat.zero_mul, Nat.sub_zero]
    split <;> simp [Addr.add]
end Go.Proofs.YtodnnhidljfilaaGreatDoor
/-
  DurableSure of layer 13, walked: behind a crash the state is that of all that was synced, and of a beginning of what was written alone. The condition: the program's variables lie as they are laid.
-/
namespace Go.Proofs.YtodnnhidljfilaaGreatDoor
open Go.Shelf Go.RowKit Go.Lib Go.Sort

section
variable (w : World) (a0 a1 : Option Addr) (c0 c1 : Nat) (la lb : List Rc) (keep : Int)
set_option maxHeartbeats 25600000 in
set_option maxRecDepth 100000 in
theorem dsure_great {B : Nat} (hE : Env w B) (hg : 300 < la.length ∨ (la.length ≤ 300 ∧ 300 < lb.length)) :
    Calls Tryz.prog 5 #[.slice a0 la.length c0, .slice a1 lb.length c1, .int .i64 keep] w fun e w' => e = .returned (.bool true) ∧ Below w.heap.size w w' := by
  have HE : Hid (∀ w1, Below w.heap.size w w1 → Env w1 B) := fun w1 b => hE.fresh b
  clear hE
  rcases hg with hg | ⟨hg1, hg⟩
  · have t1 : decide ((300 : Int) < (la.length : Int)) = true := decide_eq_true (by omega)
    go_enter Tryz.func5, Tryz.ntmps5
    go_wp2_with (first
      | (go_at_call 9; refine (awake13 _ _ (HE.out _ (by exact B2.out))).mono ?_; rintro e w9 ⟨rfl, b9⟩)
      | (go_at_call 18; have y := H1; refine (popen0 H1.out (HE.out _ B1.out)).mono ?_; rintro e w2 ⟨S, L, v2, rfl, h2, b2⟩; have H2 : Hid _ := h2; have B2 : Hid (Below w.heap.size w w2) := bmm B1.out B1.out.size b2; clear h2 b2)
      | (go_at_call 17; refine (dnew_S w).mono ?_; rintro e w1 ⟨rfl, ro1, k1, b1⟩; have H1 : Hid _ := k1; have B1 : Hid _ := b1; clear k1 b1))
    go_ret
    exact ⟨rfl, bmm B2.out B2.out.size b9⟩
  · have t1 : decide ((300 : Int) < (la.length : Int)) = false := decide_eq_false (by omega)
    have t2 : decide ((300 : Int) < (lb.length : Int)) = true := decide_eq_true (by omega)
    go_enter Tryz.func5, Tryz.ntmps5
    go_wp2_with (first
      | (go_at_call 9; refine (awake13 _ _ (HE.out _ (by exact B2.out))).mono ?_; rintro e w9 ⟨rfl, b9⟩)
      | (go_at_call 18; have y := H1; refine (popen0 H1.out (HE.out _ B1.out)).mono ?_; rintro e w2 ⟨S, L, v2, rfl, h2, b2⟩; have H2 : Hid _ := h2; have B2 : Hid (Below w.heap.size w w2) := bmm B1.out B1.out.size b2; clear h2 b2)
      | (go_at_call 17; refine (dnew_S w).mono ?_; rintro e w1 ⟨rfl, ro1, k1, b1⟩; have H1 : Hid _ := k1; have B1 : Hid _ := b1; clear k1 b1))
    go_ret
    exact ⟨rfl, bmm B2.out B2.out.size b9⟩
set_option maxHeartbeats 25600000 in
set_option maxRecDepth 100000 in
theorem dsure_bad {B : Nat} (ha : RowAt rcC w (.slice a0 la.length c0) la) (hb : RowAt rcC w (.slice a1 lb.length c1) lb) (hE : Env w B) (hla : la.length ≤ 300) (hlb : lb.length ≤ 300) (hg : la.all mayR = false ∨ (la.all mayR = true ∧ lb.all mayR = false)) :
    Calls Tryz.prog 5 #[.slice a0 la.length c0, .slice a1 lb.length c1, .int .i64 keep] w fun e w' => e = .returned (.bool true) ∧ Below w.heap.size w w' := by
  have HE : Hid (∀ w1, Below w.heap.size w w1 → Env w1 B) := fun w1 b => hE.fresh b
  have HA : Hid (RowAt rcC w (.slice a0 la.length c0) la) := ha
  have HC : Hid (RowAt rcC w (.slice a1 lb.length c1) lb) := hb
  have t1 : decide ((300 : Int) < (la.length : Int)) = false := decide_eq_false (by omega)
  have t2 : decide ((300 : Int) < (lb.length : Int)) = false := decide_eq_false (by omega)
  clear hE ha hb
  rcases hg with hg | ⟨hg1, hg⟩
  · have GA : Hid (la.all mayR = false) := hg
    clear hg
    go_enter Tryz.func5, Tryz.ntmps5
    go_wp2_with (first
      | (go_at_call 9; refine (awake13 _ _ (HE.out _ (by exact B3.out))).mono ?_; rintro e w9 ⟨rfl, b9⟩)
      | (go_at_call 20; refine (put_bad H2.out (wappend_bad L _ la (HA.out.fresh B2.out) (by omega) (HE.out _ B2.out).tab GA.out)).mono ?_; rintro e w3 ⟨rfl, b3⟩; have B3 : Hid (Below w.heap.size w w3) := bmm B2.out B2.out.size b3; clear b3)
      | (go_at_call 18; have y := H1; refine (popen0 H1.out (HE.out _ B1.out)).mono ?_; rintro e w2 ⟨S, L, v2, rfl, h2, b2⟩; have H2 : Hid _ := h2; have B2 : Hid (Below w.heap.size w w2) := bmm B1.out B1.out.size b2; clear h2 b2)
      | (go_at_call 17; refine (dnew_S w).mono ?_; rintro e w1 ⟨rfl, ro1, k1, b1⟩; have H1 : Hid _ := k1; have B1 : Hid _ := b1; clear k1 b1))
    go_ret
    exact ⟨rfl, bmm B3.out B3.out.size b9⟩
  · have GA : Hid (la.all mayR = true) := hg1
    have GB : Hid (lb.all mayR = false) := hg
    clear hg hg1
    go_enter Tryz.func5, Tryz.ntmps5
    go_wp2_with (first
      | (go_at_call 9; refine (awake13 _ _ (HE.out _ (by exact B4.out))).mono ?_; rintro e w9 ⟨rfl, b9⟩)
      | (go_at_call 20; have y := H3; refine (put_badW H3.out (write_bad L _ lb (HC.out.fresh B3.out) (by omega) (HE.out _ B3.out).tab GB.out)).mono ?_; rintro e w4 ⟨rfl, b4⟩; have B4 : Hid (Below w.heap.size w w4) := bmm B3.out B3.out.size b4; clear b4)
      | (go_at_call 20; have hc := H2.out.came HA.out rfl B2.out; refine (put_sync (P := fun k A t => StA la k A t) H2.out hc.1 hc.2 (appendSX H2.out.lg _ la hc.1.row hla (HE.out _ B2.out).tab GA.out) (by show (0 : Nat) ≤ _; omega) (by omega) (all_sz GA.out)).mono ?_; rintro e w3 ⟨rfl, k3, A3, t3, ro3, v3, h3, p3, b3⟩; have H3 : Hid _ := h3; have P3 : Hid _ := p3; have B3 : Hid (Below w.heap.size w w3) := B2.out.trans b3; clear h3 p3 b3 hc)
      | (go_at_call 18; have y := H1; refine (popen0 H1.out (HE.out _ B1.out)).mono ?_; rintro e w2 ⟨S, L, v2, rfl, h2, b2⟩; have H2 : Hid _ := h2; have B2 : Hid (Below w.heap.size w w2) := bmm B1.out B1.out.size b2; clear h2 b2)
      | (go_at_call 17; refine (dnew_S w).mono ?_; rintro e w1 ⟨rfl, ro1, k1, b1⟩; have H1 : Hid _ := k1; have B1 : Hid _ := b1; clear k1 b1))
    go_ret
    exact ⟨rfl, bmm B4.out B4.out.size b9⟩
set_option maxHeartbeats 25600000 in
set_option maxRecDepth 100000 in
theorem dsure_good {B : Nat} (ha : RowAt rcC w (.slice a0 la.length c0) la) (hb : RowAt rcC w (.slice a1 lb.length c1) lb) (hE : Env w B) (hla : la.length ≤ 300) (hlb : lb.length ≤ 300) (hga : la.all mayR = true) (hgb : lb.all mayR = true) (h1 : -9223372036854775808 ≤ keep) (h2 : keep ≤ 9223372036854775807) :
    Calls Tryz.prog 5 #[.slice a0 la.length c0, .slice a1 lb.length c1, .int .i64 keep] w fun e w' => e = .returned (.bool true) ∧ Below w.heap.size w w' := by
  obtain ⟨p1, p2, p3⟩ := crT_take hga hgb keep
  obtain ⟨m, hm, eR⟩ := take_parts p1 p2 p3
  have LR : Hid ((recs (crT la lb keep)).1.length ≤ 536870912) := by show _ ≤ _; omega
  have ZR : Hid (SzR (recs (crT la lb keep)).1) := fun r hr => mayR_sz ((recs_only _).1 r hr)
  obtain ⟨dW, hW⟩ : ∃ dW, dW = foldD du0 la := ⟨_, rfl⟩
  obtain ⟨dT, hT⟩ : ∃ dT, dT = foldD du0 (recs (crT la lb keep)).1 := ⟨_, rfl⟩
  have HT : Hid (dT = foldD du0 (recs (crT la lb keep)).1) := hT
  have HQ : Hid (dT = foldD dW (lb.take m)) := by show _ = _; rw [hT, eR, foldD_append, hW]
  have lW : dW.es.length ≤ 300 := by
    have := foldD_length la du0
    rw [← hW] at this
    have e0 : du0.es.length = 0 := rfl
    omega
  have lT : dT.es.length ≤ 600 := by
    have := foldD_length (recs (crT la lb keep)).1 du0
    rw [← hT] at this
    have e0 : du0.es.length = 0 := rfl
    omega
  have LW : Hid ((foldD du0 la).es.length ≤ 536870912) := by show _ ≤ _; rw [← hW]; omega
  have LT : Hid (dT.es.length ≤ 1099511627776) := by show _ ≤ _; omega
  have RW : Hid (Rises dW.b dW.es) := by show Rises _ _; rw [hW]; exact foldD_rises la (rises_nil _)
  have ZW : Hid (SzD dW) := by show SzD _; rw [hW]; exact foldD_sz la du0_sz (all_sz hga)
  have ZT : Hid (SzD dT) := by show SzD _; rw [hT]; exact foldD_sz _ du0_sz ZR.out
  have QW : Hid (∀ y, Below w.heap.size w y → Calls Tryz.prog 10 #[.agg #[.int .i64 0, .int .i64 0, .string ⟨#[]⟩, .slice none 0 0], .slice a0 la.length c0] y fun e w' => ∃ v', e = .returned (.agg (duA dW v')) ∧ OwnEn w' y.heap.size v' dW.es ∧ Below y.heap.size y w') := fun y b => by
    have := pFold_any y du0 (.slice none 0 0) _ la (RowAt.nil _) (ha.fresh b) (rises_nil _) (by show (0 : Nat) ≤ _; omega) (by omega) du0_sz (all_sz hga)
    rw [← hW] at this
    exact this
  have GA : Hid (la.all mayR = true) := hga
  have GB : Hid (lb.all mayR = true) := hgb
  have HE : Hid (∀ w1, Below w.heap.size w w1 → Env w1 B) := fun w1 b => hE.fresh b
  have HA : Hid (RowAt rcC w (.slice a0 la.length c0) la) := ha
  have HC : Hid (RowAt rcC w (.slice a1 lb.length c1) lb) := hb
  have t1 : decide ((300 : Int) < (la.length : Int)) = false := decide_eq_false (by omega)
  have t2 : decide ((300 : Int) < (lb.length : Int)) = false := decide_eq_false (by omega)
  clear hE ha hb
  have LW2 : Hid (dW.es.length ≤ 536870912) := by show _ ≤ _; omega
  clear hga hgb p1 p2 p3 eR hW hT lW lT
  go_enter Tryz.func5, Tryz.ntmps5
  go_upto_region 5 with (first
    | (go_at_call 18; have y := H1; refine (popen0 H1.out (HE.out _ B1.out)).mono ?_; rintro e w2 ⟨S, L, v2, rfl, h2, b2⟩; have H2 : Hid _ := h2; have B2 : Hid (Below w.heap.size w w2) := bmm B1.out B1.out.size b2; clear h2 b2)
    | (go_at_call 17; refine (dnew_S w).mono ?_; rintro e w1 ⟨rfl, ro1, k1, b1⟩; have H1 : Hid _ := k1; have B1 : Hid _ := b1; clear k1 b1))
  go_upto_region 7 with (first
    | (go_at_call 20; have y := H3; have hc := H3.out.came HC.out rfl B3.out; refine (put_alone (P := fun _ A t => StB la lb A t) H3.out hc.1 hc.2 (writeSX H3.out.lg P3.out GA.out hla _ lb hc.1.row hlb (HE.out _ B3.out).tab GB.out) LW.out (by omega) (all_sz GB.out)).mono ?_; rintro e w4 ⟨rfl, k4, A4, t4, ro4, v4, h4, p4, b4⟩; have H4 : Hid _ := h4; have P4 : Hid _ := p4; have B4 : Hid (Below w.heap.size w w4) := B3.out.trans b4; clear h4 p4 b4 hc)
    | (go_at_call 20; have hc := H2.out.came HA.out rfl B2.out; refine (put_sync (P := fun k A t => StA la k A t) H2.out hc.1 hc.2 (appendSX H2.out.lg _ la hc.1.row hla (HE.out _ B2.out).tab GA.out) (by show (0 : Nat) ≤ _; omega) (by omega) (all_sz GA.out)).mono ?_; rintro e w3 ⟨rfl, k3, A3, t3, ro3, v3, h3, p3, b3⟩; have H3 : Hid _ := h3; have P3 : Hid _ := p3; have B3 : Hid (Below w.heap.size w w3) := B2.out.trans b3; clear h3 p3 b3 hc))
  go_upto_region 11 with (first
    | (go_at_call 18; have y := H5; refine (popenC H5.out S5.out P4.out.1 (HE.out _ B5.out) LR.out ZR.out).mono ?_; rintro e w6 ⟨S2, L2, v6, ro6, rfl, s6, d6, o6, x6⟩; rw [← HT.out] at d6 o6; have D6 : Hid _ := d6; have O6 : Hid _ := o6; have B6 : Hid (Below w.heap.size w w6) := B5.out.trans (DkS.below H5.out x6); clear d6 o6 x6 s6)
    | (go_at_call 24; refine (crashSX H4.out.lg.dk P4.out keep h1 h2).mono ?_; rintro e w5 ⟨rfl, A5, k5, s5, x5⟩; have H5 : Hid _ := k5; have S5 : Hid _ := s5; have B5 : Hid (Below w.heap.size w w5) := B4.out.trans (H4.out.lg.dk.below x5); clear k5 s5 x5))
  go_upto_region 12 with (go_at_call 10; refine (QW.out _ (by exact B6.out)).mono ?_; rintro e w7 ⟨v7, rfl, o7, b7⟩; obtain ⟨pw, nw, cw, rfl⟩ := own_form o7; have O7 : Hid _ := o7; have B7 : Hid (Below w6.heap.size w6 w7) := b7; clear o7 b7)
  obtain ⟨C, hC⟩ : ∃ C, C = w7.heap.size := ⟨_, rfl⟩
  obtain ⟨W1, hW1⟩ : ∃ W1, W1 = w7.alloc (.cells (duA dW (.slice pw nw cw)) 24) := ⟨_, rfl⟩
  have bw : Below w7.heap.size w7 W1 := by rw [hW1]; exact (Below.refl _ w7).alloc (Nat.le_refl _) _
  have b61 : Below w6.heap.size w6 W1 := bmm B7.out B7.out.size bw
  have BW : Hid (Below w.heap.size w W1) := bmm B6.out B6.out.size b61
  have DW : Hid (DuAt W1 C dW (.slice pw nw cw)) := by show DuAt _ _ _ _; rw [hW1, hC]; exact heap_alloc_new w7 _
  have RE : Hid (RowAt enC W1 (.slice pw nw cw) dW.es) := by
    have : OwnEn W1 _ (.slice pw nw cw) dW.es := own_keep O7.out (fun g e => bw.block g (World.ownsRow.lt O7.out g e).2)
    exact OwnEn.row this
  have DT : Hid (DxAt W1 S2 87 (stL w.heap.size L2) dT v6) := (b61.block _ (lt_of_block D6.out)).trans D6.out
  have RT : Hid (RowAt enC W1 v6 dT.es) := (OwnEn.row O6.out).fresh b61
  have QT : Hid (∀ y, Below W1.heap.size W1 y → Calls Tryz.prog 26 #[.pointer (some ⟨S2, 0, none⟩)] y fun e w' => ∃ v', e = .returned (.agg (duA dT v')) ∧ OwnEn w' y.heap.size v' dT.es ∧ Below y.heap.size y w') := fun y b => pstate ((b.block _ (lt_of_block DT.out)).trans DT.out) (RT.out.fresh b) LT.out ZT.out
  have QF : Hid (∀ y, Below W1.heap.size W1 y → ∀ k, k ≤ lb.length → Calls Tryz.prog 10 #[.agg (duA dW (.slice pw nw cw)), .slice a1 k c1] y fun e w' => ∃ v', e = .returned (.agg (duA (foldD dW (lb.take k)) v')) ∧ OwnEn w' y.heap.size v' (foldD dW (lb.take k)).es ∧ Below y.heap.size y w') := fun y b k hk => pFold_any y dW _ _ (lb.take k) (RE.out.fresh b) (((HC.out.fresh BW.out).fresh b).upto k hk) RW.out LW2.out (by rw [List.length_take]; omega) ZW.out (fun r hr => all_sz GB.out r (List.mem_of_mem_take hr))
  have SC : Hid (∀ y : World, Below W1.heap.size W1 y → y.cell? ⟨C, 0, none⟩ = some (.int .i64 dW.p) ∧ y.cell? ⟨C, 1, none⟩ = some (.int .i64 dW.b) ∧ y.cell? ⟨C, 2, none⟩ = some (.string dW.s) ∧ y.cell? ⟨C, 3, none⟩ = some (.slice pw nw cw)) := fun y b => by
    have h : DuAt y C dW (.slice pw nw cw) := (b.block _ (lt_of_block DW.out)).trans DW.out
    exact ⟨h.c0, h.c1, h.c2, h.c3⟩
  have hsl : ∀ k, k ≤ lb.length → ∀ w', (Instr.sliceAt 25 (.slice a1 lb.length c1) none (some (.int .i64 (k : Int))) none).run Tryz.prog w' = .ok (.slice a1 k c1) w' := fun k hk => slice_row HC.out k hk
  have HSL : Hid _ := hsl
  rw [← hW1, ← hC]
  clear hW1 hC bw b61 DW RE DT RT D6 O6 O7 B6 B7 H1 H2 H3 H4 H5 P3 P4 S5 B1 B2 B3 B4 B5 HT ZR LR LW QW GA RW ZW ZT LW2 HA hsl
  go_wp2
  go_loopw [13] (fun i wr => ∃ k : Nat, i = .int .i64 k ∧ k ≤ m ∧ Below W1.heap.size W1 wr) (fun i _ => m - (intOf i).toNat)
  case atStart => exact ⟨0, rfl, Nat.zero_le _, Below.refl _ _⟩
  case round =>
    obtain ⟨k, rfl, hk, br⟩ := hrel
    have hkl : k ≤ lb.length := Nat.le_trans hk hm
    have t3 : decide ((k : Int) ≤ (lb.length : Int)) = true := decide_eq_true (by omega)
    have hs := HSL.out k hkl
    have BD : Hid (Below W1.heap.size W1 wr.drew) := ⟨br.os, br.tape, br.output, br.size, br.block⟩
    have BR : Hid _ := br
    have f := SC.out wr.drew BD.out
    have f0 := f.1
    have f1 := f.2.1
    have f2 := f.2.2.1
    have f3 := f.2.2.2
    clear f
    clear br
    by_cases hq : dT = foldD dW (lb.take k)
    · have HQ2 : Hid _ := hq
      clear hq
      go_wp2_with fail
      go_region_held3 (fun w' => w'.cell? ⟨C, 0, none⟩ = some (.int .i64 dW.p) ∧ w'.cell? ⟨C, 1, none⟩ = some (.int .i64 dW.b) ∧ w'.cell? ⟨C, 2, none⟩ = some (.string dW.s) ∧ w'.cell? ⟨C, 3, none⟩ = some (.slice pw nw cw)) (go_keep)
        (first
          | (go_at_call 12; refine (rsameD_any _ dT (foldD dW (lb.take k)) _ _ ((OwnEn.row O8.out).fresh Y9.out) (OwnEn.row O9.out) LT.out true (by simp; exact HQ2.out)).mono ?_; rintro e x3 ⟨rfl, g3⟩; have X3 : Hid (Below W1.heap.size W1 x3) := bmm X2.out X2.out.size g3; have u := SC.out x3 X3.out; have u0 := u.1; have u1 := u.2.1; have u2 := u.2.2.1; have u3 := u.2.2.2; clear u; clear g3)
          | (go_at_call 10; refine (QF.out _ (by exact X1.out) k (by omega)).mono ?_; rintro e x2 ⟨v9, rfl, o9, g2⟩; obtain ⟨p9, n9, c9, rfl⟩ := own_form o9; have O9 : Hid _ := o9; have Y9 : Hid _ := g2; have X2 : Hid (Below W1.heap.size W1 x2) := bmm X1.out X1.out.size g2; have s := SC.out x2 X2.out; have s0 := s.1; have s1 := s.2.1; have s2 := s.2.2.1; have s3 := s.2.2.2; clear s; clear o9 g2)
          | (go_at_call 26; refine (QT.out _ (by exact BD.out)).mono ?_; rintro e x1 ⟨v8, rfl, o8, g1⟩; obtain ⟨p8, n8, c8, rfl⟩ := own_form o8; have O8 : Hid _ := o8; have X1 : Hid (Below W1.heap.size W1 x1) := bmm BD.out BD.out.size g1; have m := SC.out x1 X1.out; have m0 := m.1; have m1 := m.2.1; have m2 := m.2.2.1; have m3 := m.2.2.2; clear m; clear o8 g1))
      go_wp2_with (go_at_call 9; refine (awake13 _ _ (HE.out _ (by exact (bmm BW.out BW.out.size X3.out)))).mono ?_; rintro e w9 ⟨rfl, b9⟩)
      go_ret
      exact ⟨rfl, bmm (bmm BW.out BW.out.size X3.out) (bmm BW.out BW.out.size X3.out).size b9⟩
    · have HQ2 : Hid _ := hq
      have hk2 : k + 1 ≤ m := by
        rcases Nat.lt_or_ge k m with h | h
        · omega
        · have e : k = m := by omega
          rw [e] at hq
          exact absurd HQ.out hq
      clear hq
      go_wp2_with fail
      go_region_held3 (fun w' => w'.cell? ⟨C, 0, none⟩ = some (.int .i64 dW.p) ∧ w'.cell? ⟨C, 1, none⟩ = some (.int .i64 dW.b) ∧ w'.cell? ⟨C, 2, none⟩ = some (.string dW.s) ∧ w'.cell? ⟨C, 3, none⟩ = some (.slice pw nw cw)) (go_keep)
        (first
          | (go_at_call 12; refine (rsameD_any _ dT (foldD dW (lb.take k)) _ _ ((OwnEn.row O8.out).fresh Y9.out) (OwnEn.row O9.out) LT.out false (by simp; exact HQ2.out)).mono ?_; rintro e x3 ⟨rfl, g3⟩; have X3 : Hid (Below W1.heap.size W1 x3) := bmm X2.out X2.out.size g3; have u := SC.out x3 X3.out; have u0 := u.1; have u1 := u.2.1; have u2 := u.2.2.1; have u3 := u.2.2.2; clear u; clear g3)
          | (go_at_call 10; refine (QF.out _ (by exact X1.out) k (by omega)).mono ?_; rintro e x2 ⟨v9, rfl, o9, g2⟩; obtain ⟨p9, n9, c9, rfl⟩ := own_form o9; have O9 : Hid _ := o9; have Y9 : Hid _ := g2; have X2 : Hid (Below W1.heap.size W1 x2) := bmm X1.out X1.out.size g2; have s := SC.out x2 X2.out; have s0 := s.1; have s1 := s.2.1; have s2 := s.2.2.1; have s3 := s.2.2.2; clear s; clear o9 g2)
          | (go_at_call 26; refine (QT.out _ (by exact BD.out)).mono ?_; rintro e x1 ⟨v8, rfl, o8, g1⟩; obtain ⟨p8, n8, c8, rfl⟩ := own_form o8; have O8 : Hid _ := o8; have X1 : Hid (Below W1.heap.size W1 x1) := bmm BD.out BD.out.size g1; have m := SC.out x1 X1.out; have m0 := m.1; have m1 := m.2.1; have m2 := m.2.2.1; have m3 := m.2.2.2; clear m; clear o8 g1))
      go_wp2
      go_roundw
      case rel => exact ⟨k + 1, by go_num, hk2, X3.out⟩
      case measure => simp [intOf]; omega
/-- For every two rows of records. -/
theorem dsure_walk (ha : RowAt rcC w (.slice a0 la.length c0) la) (hb : RowAt rcC w (.slice a1 lb.length c1) lb) (B : Nat) (hE : Env w B) (h1 : -9223372036854775808 ≤ keep) (h2 : keep ≤ 9223372036854775807) :
    Calls Tryz.prog 5 #[.slice a0 la.length c0, .slice a1 lb.length c1, .int .i64 keep] w fun e w' => e = .returned (.bool true) ∧ Below w.heap.size w w' := by
  by_cases hla : la.length ≤ 300
  · by_cases hlb : lb.length ≤ 300
    · cases hga : la.all mayR with
      | false => exact dsure_bad w a0 a1 c0 c1 la lb keep ha hb hE hla hlb (Or.inl hga)
      | true =>
        cases hgb : lb.all mayR with
        | false => exact dsure_bad w a0 a1 c0 c1 la lb keep ha hb hE hla hlb (Or.inr ⟨hga, hgb⟩)
        | true => exact dsure_good w a0 a1 c0 c1 la lb keep ha hb hE hla hlb hga hgb h1 h2
    · exact dsure_great w a0 a1 c0 c1 la lb keep hE (Or.inr ⟨hla, by omega⟩)
  · exact dsure_great w a0 a1 c0 c1 la lb keep hE (Or.inl (by omega))
end
end Go.Proofs.YtodnnhidljfilaaGreatDoor
