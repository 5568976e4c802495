/-
  CodecReads, for every text and every row of kinds: the reader answers as the document's own at each of the first hundred reads and at the end; the call answers true and the arguments read behind it as they did. No condition.
-/
import Derived.Test.YtbheaolodpiocaaRefText
import Derived.ProofKit
import Derived.OpenShut
import Derived.ShutString
import Derived.ChangeOld
import Derived.Below
namespace Go.Proofs.Ytbheaolodpiocaa.codecReads
open Go.ChangeShapes Go.WideShapes Go.ChangeAt Go.RowKit
open Go.ChangeMaps (open_string shut_string)

theorem own : ownKnob Try.prog.godebug = none := by kernel_rfl
theorem laidOut : laidOutB Try.prog = true := by kernel_rfl

/-- The two readers stand alike: as long as neither is bad they hold the same text. -/
def Pair (s1 s2 : ByteArray) (b : Bool) : Prop := (b = false → s1 = s2) ∧ (b = true → s1 = ⟨#[]⟩)

theorem pairU {s1 s2 : ByteArray} {b : Bool} (h : Pair s1 s2 b) : (xU s2 b).1 = (rU s1 b).1 ∧ (xU s2 b).2.2 = (rU s1 b).2.2 ∧ Pair (rU s1 b).2.1 (xU s2 b).2.1 (rU s1 b).2.2 := by
  cases b with
  | true =>
    obtain rfl := h.2 rfl
    have e1 : rU ⟨#[]⟩ true = (0, ⟨#[]⟩, true) := rfl
    have e2 : xU s2 true = (0, s2, true) := by unfold xU; rw [if_pos (Or.inl rfl)]
    rw [e1, e2]
    exact ⟨rfl, rfl, ⟨fun h => (by cases h), fun _ => rfl⟩⟩
  | false =>
    obtain rfl := h.1 rfl
    unfold rU xU
    by_cases hz : (num 0 0 s1.data.toList).2 = 0
    · rw [if_pos hz, if_pos (Or.inr hz)]
      exact ⟨rfl, rfl, ⟨fun h => (by cases h), fun _ => rfl⟩⟩
    · rw [if_neg hz, if_neg (by simp; exact hz)]
      exact ⟨rfl, rfl, ⟨fun _ => rfl, fun h => (by cases h)⟩⟩

theorem pairT {s1 s2 : ByteArray} {b : Bool} (h : Pair s1 s2 b) : (xT s2 b).1 = (rT s1 b).1 ∧ (xT s2 b).2.2 = (rT s1 b).2.2 ∧ Pair (rT s1 b).2.1 (xT s2 b).2.1 (rT s1 b).2.2 := by
  obtain ⟨h1, h2, h3⟩ := pairU h
  unfold rT xT
  rw [h1, h2]
  have hb0 : (rU s1 b).2.2 = true → (rU s1 b).1 = 0 := by
    intro hb
    cases b with
    | true => obtain rfl := h.2 rfl; rfl
    | false =>
      unfold rU at hb ⊢
      split
      · rfl
      · rename_i hz; rw [if_neg hz] at hb; cases hb
  generalize (rU s1 b).1 = N at *
  generalize (rU s1 b).2.1 = t1 at *
  generalize (rU s1 b).2.2 = c at *
  generalize (xU s2 b).2.1 = t2 at *
  cases c with
  | true =>
    obtain rfl := h3.2 rfl
    obtain rfl := hb0 rfl
    rw [if_pos (Or.inl rfl), if_neg (by simp)]
    exact ⟨rfl, rfl, ⟨fun h => (by cases h), fun _ => rfl⟩⟩
  | false =>
    obtain rfl := h3.1 rfl
    by_cases hc : 524288 < N ∨ t1.size < N
    · rw [if_pos hc, if_pos (Or.inr hc)]
      exact ⟨rfl, rfl, ⟨fun h => (by cases h), fun _ => rfl⟩⟩
    · rw [if_neg hc, if_neg (by simp; omega)]
      exact ⟨rfl, rfl, ⟨fun _ => rfl, fun h => (by cases h)⟩⟩

theorem pairD {s1 s2 : ByteArray} {b : Bool} (h : Pair s1 s2 b) : rD s2 b = rD s1 b := by
  cases b with
  | true => rfl
  | false => rw [h.1 rfl]

theorem rT_size (s : ByteArray) (b : Bool) : (rT s b).2.1.size ≤ s.size := by
  have h := rU_size s b
  unfold rT
  split
  · exact Nat.zero_le _
  · rw [Lib.size_eq, Lib.extract_to_end, List.length_drop, ← Lib.size_eq]
    omega
theorem xT_size (s : ByteArray) (b : Bool) : (xT s b).2.1.size ≤ s.size := by
  have h := xU_size s b
  unfold xT
  split
  · exact h
  · rw [Lib.size_eq, Lib.extract_to_end, List.length_drop, ← Lib.size_eq]
    omega

/-- Two calls, one on each reader, that answer alike and leave the readers alike. -/
def Both (f g : Nat) (v : Value) (R1 R2 : Nat) (s1 s2 : ByteArray) (b : Bool) (m : Nat) : Prop :=
  ∃ (t1 t2 : ByteArray) (c : Bool), Pair t1 t2 c ∧ t1.size ≤ m ∧ t2.size ≤ m ∧
    (∀ w, Rd w R1 s1 b → Calls Try.prog f #[.pointer (some ⟨R1, 0, none⟩)] w fun e w' => e = .returned v ∧ Rd w' R1 t1 c ∧ w.grownBy w' (some R1)) ∧
    (∀ w, Rx w R2 s2 b → Calls Try.prog g #[.pointer (some ⟨R2, 0, none⟩)] w fun e w' => e = .returned v ∧ Rx w' R2 t2 c ∧ w.grownBy w' (some R2))

theorem bothI {s1 s2 : ByteArray} {b : Bool} (h : Pair s1 s2 b) (R1 R2 m : Nat) (h1 : s1.size ≤ m) (h2 : s2.size ≤ m) (hm : m ≤ 9223372036854775807) : ∃ n, Both 16 17 (.int .i64 n) R1 R2 s1 s2 b m := by
  obtain ⟨e1, e2, e3⟩ := pairU h
  refine ⟨zag (rU s1 b).1, (rU s1 b).2.1, (xU s2 b).2.1, (rU s1 b).2.2, e3, Nat.le_trans (rU_size s1 b) h1, Nat.le_trans (xU_size s2 b) h2, fun w hr => rint_any R1 s1 b (by omega) w hr, fun w hr => ?_⟩
  have := xint_any R2 s2 b (by omega) w hr
  rw [e1, e2] at this
  exact this
theorem bothU {s1 s2 : ByteArray} {b : Bool} (h : Pair s1 s2 b) (R1 R2 m : Nat) (h1 : s1.size ≤ m) (h2 : s2.size ≤ m) (hm : m ≤ 9223372036854775807) : ∃ n, Both 18 19 (.int .u64 n) R1 R2 s1 s2 b m := by
  obtain ⟨e1, e2, e3⟩ := pairU h
  refine ⟨(rU s1 b).1, (rU s1 b).2.1, (xU s2 b).2.1, (rU s1 b).2.2, e3, Nat.le_trans (rU_size s1 b) h1, Nat.le_trans (xU_size s2 b) h2, fun w hr => ru64_any R1 s1 b (by omega) w hr, fun w hr => ?_⟩
  have := xu64_any R2 s2 b (by omega) w hr
  rw [e1, e2] at this
  exact this
theorem bothT {s1 s2 : ByteArray} {b : Bool} (h : Pair s1 s2 b) (R1 R2 m : Nat) (h1 : s1.size ≤ m) (h2 : s2.size ≤ m) (hm : m ≤ 9223372036854775807) : ∃ t, Both 20 21 (.string t) R1 R2 s1 s2 b m := by
  obtain ⟨e1, e2, e3⟩ := pairT h
  refine ⟨(rT s1 b).1, (rT s1 b).2.1, (xT s2 b).2.1, (rT s1 b).2.2, e3, Nat.le_trans (rT_size s1 b) h1, Nat.le_trans (xT_size s2 b) h2, fun w hr => rtext_any R1 s1 b (by omega) w hr, fun w hr => ?_⟩
  have := xtext_any R2 s2 b (by omega) w hr
  rw [e1, e2] at this
  exact this

/-- The state of the loop: both readers, alike; below nothing has turned. -/
def St (base : Nat) (w wr : World) (R1 R2 m : Nat) : Prop :=
  ∃ (s1 s2 : ByteArray) (b : Bool), Pair s1 s2 b ∧ s1.size ≤ m ∧ s2.size ≤ m ∧ Rd wr R1 s1 b ∧ Rx wr R2 s2 b ∧ Below base w wr

theorem Rx.new2 (w : World) (o : Obj) (s : ByteArray) : Rx ((w.alloc o).alloc (.cells #[.string s, .bool false] 40)) (w.heap.size + 1) s false := by
  have := heap_alloc_new (w.alloc o) (.cells #[.string s, .bool false] 40)
  rw [World.size_alloc] at this
  exact this

theorem St.step {base R1 R2 m : Nat} {w wr w1 w2 : World} {t1 t2 : ByteArray} {c : Bool} (hb : Below base w wr) (hs : base ≤ wr.heap.size) (h1 : base ≤ R1) (h2 : base ≤ R2) (hne : R2 ≠ R1)
    (hp : Pair t1 t2 c) (m1 : t1.size ≤ m) (m2 : t2.size ≤ m) (r1 : Rd w1 R1 t1 c) (g1 : wr.grownBy w1 (some R1)) (r2 : Rx w2 R2 t2 c) (g2 : w1.grownBy w2 (some R2)) : St base w w2 R1 R2 m :=
  ⟨t1, t2, c, hp, m1, m2, r1.far g2 hne.symm, r2, below_far (below_far hb g1 hs h1) g2 (Nat.le_trans hs g1.size) h2⟩

set_option maxHeartbeats 3200000 in
set_option maxRecDepth 100000 in
theorem walk_some (s : ByteArray) (bk off len cap : Nat) (zs : List Int) (w : World) (hs : s.size ≤ 9223372036854775807) (hl : 0 < len) (hlm : len ≤ 9223372036854775807) (hb : bk < w.heap.size)
    (hc : ∀ j, j < len → w.cell? ⟨bk, off + j, none⟩ = some (.int .i64 (zs.getD j 0))) :
    Calls Try.prog 4 #[.string s, .slice (some ⟨bk, off, none⟩) len cap] w fun e w' => e = .returned (.bool true) ∧ Below w.heap.size w w' := by
  obtain ⟨base, hbase⟩ : ∃ base, w.heap.size = base := ⟨_, rfl⟩
  have hof := of_any s w
  have hst : St base w ((w.alloc (.cells #[.string s, .bool false] 61)).alloc (.cells #[.string s, .bool false] 40)) base (base + 1) s.size :=
    ⟨s, s, false, ⟨fun _ => rfl, fun h => (by cases h)⟩, Nat.le_refl _, Nat.le_refl _, by rw [← hbase]; exact (Rd.new w s).alloc _, by rw [← hbase]; exact Rx.new2 w _ s, ((Below.refl base w).alloc (by omega) _).alloc (by simp; omega) _⟩
  rw [hbase] at hof hb ⊢
  go_enter Try.func4, Try.ntmps4
  go_wp2_with (go_at_call 15; refine hof.mono ?_; rintro e w1 ⟨rfl, rfl⟩)
  go_loopw [7] (fun i wr => ∃ k : Nat, k ≤ len ∧ k ≤ 100 ∧ i = .int .i64 k ∧ St base w wr base (base + 1) s.size) (fun i _ => len - (intOf i).toNat)
  case atStart => exact ⟨0, by omega, by omega, rfl, hst⟩
  case round =>
    clear hst
    obtain ⟨k, hk, hk100, rfl, s1, s2, b, hp, m1, m2, r1, r2, hbel⟩ := hrel
    have hsz : base ≤ wr.heap.size := by have := lt_of_block r1; omega
    by_cases hlt : k < len ∧ k < 100
    · obtain ⟨hkl, hk1⟩ := hlt
      have hkl' : (k : Int) < (len : Int) := by omega
      have hk1' : (k : Int) < 100 := by omega
      obtain ⟨z, hz⟩ : ∃ z, z = zs.getD k 0 := ⟨_, rfl⟩
      have hcell : wr.cell? ⟨bk, off + k, none⟩ = some (.int .i64 z) := by rw [hz]; exact (hbel.cell (by exact hb)).trans (hc k hkl)
      clear hz hc
      by_cases z0 : z = 0
      · have hz0 : (z == 0) = true := by simp [z0]
        obtain ⟨n, t1, t2, c, hp', n1, n2, q1, q2⟩ := bothI hp base (base + 1) s.size m1 m2 hs
        clear z0 hp m1 m2
        go_wp2_with (first | (go_at_call 17; refine (q2 _ (r2.far g1 (by omega))).mono ?_; rintro e w2 ⟨rfl, x2, g2⟩) | (go_at_call 16; refine (q1 _ r1).mono ?_; rintro e w1 ⟨rfl, x1, g1⟩))
        go_roundw
        case rel => exact ⟨k + 1, by omega, by omega, by go_num, St.step hbel hsz (by omega) (by omega) (by omega) hp' n1 n2 x1 g1 x2 g2⟩
        case measure => simp [intOf]; omega
      · have hz0 : (z == 0) = false := by simp [z0]
        by_cases z1 : z = 1
        · have hz1 : (z == 1) = true := by simp [z1]
          obtain ⟨n, t1, t2, c, hp', n1, n2, q1, q2⟩ := bothU hp base (base + 1) s.size m1 m2 hs
          clear z0 z1 hp m1 m2
          go_wp2_with (first | (go_at_call 19; refine (q2 _ (r2.far g1 (by omega))).mono ?_; rintro e w2 ⟨rfl, x2, g2⟩) | (go_at_call 18; refine (q1 _ r1).mono ?_; rintro e w1 ⟨rfl, x1, g1⟩))
          go_roundw
          case rel => exact ⟨k + 1, by omega, by omega, by go_num, St.step hbel hsz (by omega) (by omega) (by omega) hp' n1 n2 x1 g1 x2 g2⟩
          case measure => simp [intOf]; omega
        · have hz1 : (z == 1) = false := by simp [z1]
          obtain ⟨t, t1, t2, c, hp', n1, n2, q1, q2⟩ := bothT hp base (base + 1) s.size m1 m2 hs
          clear z0 z1 hp m1 m2
          go_wp2_with (first | (go_at_call 21; refine (q2 _ (r2.far g1 (by omega))).mono ?_; rintro e w2 ⟨rfl, x2, g2⟩) | (go_at_call 20; refine (q1 _ r1).mono ?_; rintro e w1 ⟨rfl, x1, g1⟩))
          go_roundw
          case rel => exact ⟨k + 1, by omega, by omega, by go_num, St.step hbel hsz (by omega) (by omega) (by omega) hp' n1 n2 x1 g1 x2 g2⟩
          case measure => simp [intOf]; omega
    · have d1 := rdone_any base s1 b wr r1
      have d2 := xdone_any (base + 1) s2 b wr r2
      rw [pairD hp] at d2
      clear hc hp m1 m2
      by_cases hkl : k < len
      · have hkl' : (k : Int) < (len : Int) := by omega
        have hk1' : (100 : Int) ≤ (k : Int) := by omega
        clear hlt
        go_wp2_with (first | (go_at_call 22; refine d1.mono ?_; rintro e w1 ⟨rfl, rfl⟩) | (go_at_call 23; refine d2.mono ?_; rintro e w1 ⟨rfl, rfl⟩) | (go_at_call 14; refine (awake_any _).mono ?_; rintro e w2 ⟨rfl, ha⟩))
        go_ret
        exact ⟨rfl, hbel.trans (ha.mono hsz)⟩
      · have hkl' : (len : Int) ≤ (k : Int) := by omega
        clear hlt
        go_wp2_with (first | (go_at_call 22; refine d1.mono ?_; rintro e w1 ⟨rfl, rfl⟩) | (go_at_call 23; refine d2.mono ?_; rintro e w1 ⟨rfl, rfl⟩) | (go_at_call 14; refine (awake_any _).mono ?_; rintro e w2 ⟨rfl, ha⟩))
        go_ret
        exact ⟨rfl, hbel.trans (ha.mono hsz)⟩

set_option maxRecDepth 100000 in
theorem walk_none (s : ByteArray) (a : Option Addr) (cap : Nat) (w : World) :
    Calls Try.prog 4 #[.string s, .slice a 0 cap] w fun e w' => e = .returned (.bool true) ∧ Below w.heap.size w w' := by
  obtain ⟨base, hbase⟩ : ∃ base, w.heap.size = base := ⟨_, rfl⟩
  have hof := of_any s w
  have r1 : Rd ((w.alloc (.cells #[.string s, .bool false] 61)).alloc (.cells #[.string s, .bool false] 40)) base s false := by rw [← hbase]; exact (Rd.new w s).alloc _
  have r2 : Rx ((w.alloc (.cells #[.string s, .bool false] 61)).alloc (.cells #[.string s, .bool false] 40)) (base + 1) s false := by rw [← hbase]; exact Rx.new2 w _ s
  have hbel : Below base w ((w.alloc (.cells #[.string s, .bool false] 61)).alloc (.cells #[.string s, .bool false] 40)) := ((Below.refl base w).alloc (by omega) _).alloc (by simp; omega) _
  have d1 := rdone_any base s false _ r1
  have d2 := xdone_any (base + 1) s false _ r2
  have hsz : base ≤ ((w.alloc (.cells #[.string s, .bool false] 61)).alloc (.cells #[.string s, .bool false] 40)).heap.size := by simp; omega
  rw [hbase] at hof ⊢
  go_enter Try.func4, Try.ntmps4
  go_wp2_with (go_at_call 15; refine hof.mono ?_; rintro e w1 ⟨rfl, rfl⟩)
  refine wp_loop_rounds 1 ?_
  rw [rounds_succ]
  go_wp2_with (first | (go_at_call 22; refine d1.mono ?_; rintro e w1 ⟨rfl, rfl⟩) | (go_at_call 23; refine d2.mono ?_; rintro e w1 ⟨rfl, rfl⟩) | (go_at_call 14; refine (awake_any _).mono ?_; rintro e w2 ⟨rfl, ha⟩))
  go_ret
  exact ⟨rfl, hbel.trans (ha.mono hsz)⟩

set_option maxRecDepth 100000 in
theorem lifted (os : Os) (started : os.Started) (H : Type) (enc : TypeId × Value → H) :
    ReturnsInHanded {} Try.checked os 4 .any (Rows.codecReadsSpec.pre6 enc Try.prog Try.f4 Rows.codecReadsRow.domain false) (Rows.codecReadsSpec.post enc Try.prog Try.f4 false true false false) := by
  refine returnsInHanded_of_change (C := Try.checked) own started (by kernel_rfl) Try.func4
    (ChangeSpec.witness6 (enc := enc) (C := Try.checked) false ⟨#[], #[.string ByteArray.empty, .slice none 0 0], []⟩ 8 (by kernel_rfl) (by kernel_rfl) (by kernel_rfl) (by kernel_rfl)) ?_
  intro W base args ds gs before hval0 hW _ _
  have hval : ∀ (j : Nat) t v, Try.f4.params[j]? = some t → args[j]? = some v → Value.okWide Try.prog W .any base t v := hval0
  have hW' := hW
  obtain ⟨p, q, hA0, hV, rfl, _, _⟩ := hW
  have hA : DataW.TrodAll enc Try.prog W 0 (fun _ => true) true Try.f4.params.toList args.toList ds p := hA0
  rw [Try.params4] at hA hval
  obtain ⟨v0, v1, d0, d1, p0, p1, rfl, rfl, rfl, h0, h1⟩ := trodAll_two hA
  obtain ⟨rfl, rfl⟩ := trodVars_none hV
  have k1 := h1
  have lt1 : ∀ x ∈ p1, x.block < W.heap.size := by obtain ⟨m, hm⟩ := k1; exact DataW.trod_lt m _ _ _ hm
  obtain ⟨s, rfl, rfl, rfl, hs⟩ := open_string Try.underlying9 (hval 0 9 v0 rfl rfl) h0
  obtain ⟨a1, len, cap, rfl⟩ := okWide_slice Try.underlying35 (hval 1 35 v1 rfl rfl)
  have hwalk : Calls Try.prog 4 #[.string s, .slice a1 len cap] W fun e w' => e = .returned (.bool true) ∧ Below W.heap.size W w' := by
    obtain ⟨fuel, hf⟩ := h1
    rcases open_ints Try.underlying35 Try.underlying3 (by kernel_rfl) hf with ⟨hcs, _⟩ | ⟨x, l, c, zs, hcs, _, hl, hm, hz, _, hcell, hwz⟩
    · simp [Value.cells] at hcs
      obtain ⟨rfl, rfl, rfl⟩ := hcs
      exact walk_none s _ _ W
    · simp [Value.cells] at hcs
      obtain ⟨rfl, rfl, rfl⟩ := hcs
      have hz' : zs.length = cap := by simpa using hz
      by_cases h0 : len = 0
      · subst h0
        exact walk_none s _ _ W
      · obtain ⟨bk, off, rfl, hc⟩ := ints_at hcell (by omega)
        have hb := World.block_lt_of_cell? W _ (hc 0 (by omega))
        exact walk_some s bk off len cap zs W (by simpa [maxLen] using hs) (by omega) (by simp [maxLen] at hm; omega) hb (fun j hj => hc j (by omega))
  clear hA0 hval0
  refine hwalk.mono fun e W' ⟨he, bel⟩ => ?_
  subst he
  exact ⟨_, rfl, _, _, _, [], [] ++ p1, [], hW', trodAll_mk1 (shut_bool Try.underlying4 _), trodAll_mk2 (shut_string Try.underlying9 hs) (Below.trod laidOut (by kernel_rfl) (of_decide_eq_true (by kernel_rfl)) k1 bel lt1), rfl, bel.frame _, fun h => by cases h⟩

theorem proved : Rows.CodecReadsSaid :=
  OpenClaim.holds_of_wide 4 Try.f4 rfl rfl rfl rfl rfl rfl rfl ⟨rfl, rfl, rfl, rfl, rfl⟩ rfl rfl rfl rfl rfl (by kernel_rfl) Try.func4 (by kernel_rfl)
    (of_decide_eq_true (by kernel_rfl)) (by unfold Func.isWrapper; first | (rw [if_pos (by decide +kernel)]; kernel_rfl) | (rw [if_neg (by decide +kernel)]; exact ⟨rfl, rfl⟩))
    (fun os started H enc _ => lifted os started H enc)
end Go.Proofs.Ytbheaolodpiocaa.codecReads

namespace Go.Proofs.Ytbheaolodpiocaa
/-- For every text and every row of kinds the law answers true, and the arguments read behind the call as they did. -/
theorem codecReads_holds : Rows.CodecReadsSaid := codecReads.proved
#print axioms codecReads_holds
end Go.Proofs.Ytbheaolodpiocaa
