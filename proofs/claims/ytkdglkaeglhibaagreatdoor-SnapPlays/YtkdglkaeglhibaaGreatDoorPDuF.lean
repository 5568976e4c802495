/-
  Two disks side by side, the program's and the document's: each call on either, and that both answer the same and go on to say the same. What lies in one block more (a law's own box) stays as it is. The conditions: at most 1000 steps, each with at most 1000000 bytes.
-/
import Derived.Test.YtkdglkaeglhibaaGreatDoorPPlE
namespace Go.Proofs.YtkdglkaeglhibaaGreatDoor
open Go.RowKit Go.Sort

/-- Both disks, and a box of a caller's own. -/
structure Duo (w : World) (base Dx Dy : Nat) (A : List CF) (L : Look) (turns clock cnt : Nat) (ro : Nat → Option Nat) (S : Nat → Prop) (b : Nat) (d : Array Value × TypeId) : Prop where
  x : DkS w base Dx A turns ro
  y : RD w base Dy S L clock cnt
  dj : ∀ i, S i → ro i = none
  bx : w.heap[b]? = some (.cells d.1 d.2 (0, 0))
  nb : ¬ S b
  rb : ro b = none
section
variable {w w' : World} {base Dx Dy b : Nat} {A A' : List CF} {L L' : Look} {turns turns' clock clock' cnt cnt' : Nat} {ro ro' : Nat → Option Nat} {S S' : Nat → Prop} {d : Array Value × TypeId}
theorem Duo.goX (h : Duo w base Dx Dy A L turns clock cnt ro S b d) (hx : DkS w' base Dx A' turns' ro') (k : Ext w w' ro ro') : Duo w' base Dx Dy A' L turns' clock cnt ro' S b d := by
  have hb := lt_of_block h.bx
  exact ⟨hx, h.y.keep k.size (fun i hi => k.kept i (h.y.bd i hi).2 (h.dj i hi)), fun i hi => (k.old i (h.y.bd i hi).2).trans (h.dj i hi), (k.kept b hb h.rb).trans h.bx, h.nb, (k.old b hb).trans h.rb⟩
theorem Duo.goY (h : Duo w base Dx Dy A L turns clock cnt ro S b d) (hy : RD w' base Dy S' L' clock' cnt') (k : Kept w w' S S') : Duo w' base Dx Dy A L' turns clock' cnt' ro S' b d := by
  have hb := lt_of_block h.bx
  refine ⟨h.x.keep k.size (fun i hi => k.kept i (h.x.bd i hi).2 (fun hs => hi (h.dj i hs))), hy, fun i hi => ?_, (k.kept b hb h.nb).trans h.bx, fun hs => ?_, h.rb⟩
  · rcases k.old i hi with h1 | h1
    · exact h.dj i h1
    · cases hr : ro i with
      | none => rfl
      | some q => have := (h.x.bd i (by rw [hr]; simp)).2; omega
  · rcases k.old b hs with h1 | h1
    · exact h.nb h1
    · omega
theorem Duo.fresh (h : Duo w base Dx Dy A L turns clock cnt ro S b d) (k : Below w.heap.size w w') : Duo w' base Dx Dy A L turns clock cnt ro S b d :=
  ⟨h.x.fresh k, h.y.fresh k, h.dj, (k.block b (lt_of_block h.bx)).trans h.bx, h.nb, h.rb⟩
theorem Duo.drew (h : Duo w base Dx Dy A L turns clock cnt ro S b d) : Duo w.drew base Dx Dy A L turns clock cnt ro S b d := h.fresh ⟨rfl, rfl, rfl, Nat.le_refl _, fun _ _ => rfl⟩
theorem Duo.base_le (h : Duo w base Dx Dy A L turns clock cnt ro S b d) : base ≤ w.heap.size := h.x.base
end
/-- A call on the program's disk, one on the document's: each with its answer and what becomes of it. -/
def HX (fn : Nat) (args : Array Value) (z : Value) (base Dx Dy : Nat) (A : List CF) (L : Look) (turns clock cnt : Nat) (S : Nat → Prop) (b : Nat) (d : Array Value × TypeId) (P : List CF → Nat → Prop) : Prop :=
  ∀ w ro, Duo w base Dx Dy A L turns clock cnt ro S b d → Calls Tryz.prog fn args w fun e w' => e = .returned z ∧ ∃ A' turns' ro', Duo w' base Dx Dy A' L turns' clock cnt ro' S b d ∧ P A' turns' ∧ Below base w w'
def HY (fn : Nat) (args : Array Value) (z : Value) (base Dx Dy : Nat) (L : Look) (clock cnt : Nat) (S : Nat → Prop) (b : Nat) (d : Array Value × TypeId) (P : Look → Nat → Nat → Prop) : Prop :=
  ∀ w A turns ro, Duo w base Dx Dy A L turns clock cnt ro S b d → Calls Tryz.prog fn args w fun e w' => e = .returned z ∧ ∃ L' clock' cnt' S', Duo w' base Dx Dy A L' turns clock' cnt' ro S' b d ∧ P L' clock' cnt' ∧ Below base w w'
/-- Both say the same behind k deeds. -/
structure Ok (A : List CF) (L : Look) (turns clock cnt k : Nat) : Prop where
  cp : ∃ st, Cp A L clock turns st
  la : A.length ≤ k
  tn : turns ≤ k
  ck : clock ≤ 1000000 * k
  cn : cnt ≤ k
theorem Ok.more {A : List CF} {L : Look} {turns clock cnt k : Nat} (h : Ok A L turns clock cnt k) : Ok A L turns clock cnt (k + 1) := ⟨h.cp, by have := h.la; omega, by have := h.tn; omega, by have := h.ck; omega, by have := h.cn; omega⟩
section
variable {base Dx Dy b : Nat} {A : List CF} {L : Look} {turns clock cnt : Nat} {S : Nat → Prop} {d : Array Value × TypeId} {fn : Nat} {args : Array Value} {z : Value}
theorem HX.same (h : ∀ w ro, DkS w base Dx A turns ro → Calls Tryz.prog fn args w fun e w' => e = .returned z ∧ w = w') : HX fn args z base Dx Dy A L turns clock cnt S b d (fun A' t' => A' = A ∧ t' = turns) :=
  fun w ro hD => (h w ro hD.x).mono fun _ _ ⟨h1, h2⟩ => ⟨h1, A, turns, ro, by rw [← h2]; exact hD, ⟨rfl, rfl⟩, by rw [← h2]; exact Below.refl _ _⟩
theorem HY.same (h : ∀ w, RD w base Dy S L clock cnt → Calls Tryz.prog fn args w fun e w' => e = .returned z ∧ w = w') : HY fn args z base Dx Dy L clock cnt S b d (fun L' c' n' => L' = L ∧ c' = clock ∧ n' = cnt) :=
  fun w _ _ _ hD => (h w hD.y).mono fun _ _ ⟨h1, h2⟩ => ⟨h1, L, clock, cnt, S, by rw [← h2]; exact hD, ⟨rfl, rfl, rfl⟩, by rw [← h2]; exact Below.refl _ _⟩
theorem HX.fresh (h : ∀ w ro, DkS w base Dx A turns ro → Calls Tryz.prog fn args w fun e w' => e = .returned z ∧ Below w.heap.size w w') : HX fn args z base Dx Dy A L turns clock cnt S b d (fun A' t' => A' = A ∧ t' = turns) :=
  fun w ro hD => (h w ro hD.x).mono fun _ _ ⟨h1, h2⟩ => ⟨h1, A, turns, ro, hD.fresh h2, ⟨rfl, rfl⟩, h2.mono hD.base_le⟩
theorem HY.fresh (h : ∀ w, RD w base Dy S L clock cnt → Calls Tryz.prog fn args w fun e w' => e = .returned z ∧ Below w.heap.size w w') : HY fn args z base Dx Dy L clock cnt S b d (fun L' c' n' => L' = L ∧ c' = clock ∧ n' = cnt) :=
  fun w _ _ _ hD => (h w hD.y).mono fun _ _ ⟨h1, h2⟩ => ⟨h1, L, clock, cnt, S, hD.fresh h2, ⟨rfl, rfl, rfl⟩, h2.mono hD.base_le⟩
theorem HX.go {P : List CF → Nat → Prop} (h : ∀ w ro, DkS w base Dx A turns ro → Calls Tryz.prog fn args w fun e w' => e = .returned z ∧ ∃ A' t' ro', DkS w' base Dx A' t' ro' ∧ Ext w w' ro ro' ∧ P A' t') : HX fn args z base Dx Dy A L turns clock cnt S b d P :=
  fun w ro hD => (h w ro hD.x).mono fun _ _ ⟨h1, A', t', ro', h2, h3, h4⟩ => ⟨h1, A', t', ro', hD.goX h2 h3, h4, hD.x.below h3⟩
theorem HY.go {P : Look → Nat → Nat → Prop} (h : ∀ w, RD w base Dy S L clock cnt → Calls Tryz.prog fn args w fun e w' => e = .returned z ∧ ∃ L' c' n' S', RD w' base Dy S' L' c' n' ∧ Kept w w' S S' ∧ P L' c' n') : HY fn args z base Dx Dy L clock cnt S b d P :=
  fun w _ _ _ hD => (h w hD.y).mono fun _ _ ⟨h1, L', c', n', S', h2, h3, h4⟩ => ⟨h1, L', c', n', S', hD.goY h2 h3, h4, h3.belowR hD.y⟩
/-- Both calls answer the same, and both disks say the same behind them. -/
def DPair (fx fy : Nat) (ax ay : Array Value) (base Dx Dy : Nat) (A : List CF) (L : Look) (turns clock cnt : Nat) (S : Nat → Prop) (b : Nat) (d : Array Value × TypeId) (k : Nat) (Z : Value → Prop) : Prop :=
  ∃ z PX PY, Z z ∧ HX fx ax z base Dx Dy A L turns clock cnt S b d PX ∧ HY fy ay z base Dx Dy L clock cnt S b d PY ∧ ∀ A' t' L' c' n', PX A' t' → PY L' c' n' → Ok A' L' t' c' n' (k + 1)
theorem ok_same {k : Nat} (h : Ok A L turns clock cnt k) : ∀ (A' : List CF) (t' : Nat) (L' : Look) (c' n' : Nat), (A' = A ∧ t' = turns) → (L' = L ∧ c' = clock ∧ n' = cnt) → Ok A' L' t' c' n' (k + 1) := fun A' t' L' c' n' ⟨e1, e2⟩ ⟨e3, e4, e5⟩ => by
  subst e1 e2 e3 e4 e5
  exact h.more
/-- What both have under a name. -/
theorem Ok.name {k : Nat} (h : Ok A L turns clock cnt k) (n : ByteArray) : (lk A n = none ∧ L n = none) ∨ ∃ st f bs, Cp A L clock turns st ∧ lk A n = some f ∧ L n = some bs ∧ Mt st f bs clock := by
  obtain ⟨st, hc⟩ := h.cp
  cases hf : lk A n with
  | none => exact Or.inl ⟨rfl, (hc.no n).1 hf⟩
  | some f =>
    cases hl : L n with
    | none => have := (hc.no n).2 hl; rw [hf] at this; cases this
    | some bs => exact Or.inr ⟨st, f, bs, hc, rfl, rfl, hc.mt n f bs hf hl⟩
theorem Mt.len {st : Nat → Nat} {f : CF} {bs : List BB} {c : Nat} (h : Mt st f bs c) : bs.length = f.bs.length := by rw [h.by_, List.length_map]
end
def IntV (z : Value) : Prop := ∃ i : Int, z = .int .i64 i
section
variable {base Dx Dy b : Nat} {A : List CF} {L : Look} {turns clock cnt k : Nat} {S : Nat → Prop} {d : Array Value × TypeId}
/-- Read. -/
theorem bytesR_eq (bs : List BB) : bytesR bs = bs.map (·.1) := by unfold bytesR; rfl
/-- Crash. -/
theorem pair_crash (h : Ok A L turns clock cnt k) (hk : k ≤ 1000) (hok : (∀ f ∈ A, FOk f) ∧ (A.map (·.c)).Nodup ∧ (A.map (·.name)).Nodup) (keep : Int) (hk1 : -9223372036854775808 ≤ keep) (hk2 : keep ≤ 9223372036854775807) :
    DPair 7 8 #[.pointer (some ⟨Dx, 0, none⟩), .int .i64 keep] #[.pointer (some ⟨Dy, 0, none⟩), .int .i64 keep] base Dx Dy A L turns clock cnt S b d k (fun z => z = .tuple #[]) := by
  have hcn := h.cn
  have hla := h.la
  obtain ⟨st, hc⟩ := h.cp
  have hbs : ∀ n bs, L n = some bs → bs.length ≤ 4194304 := fun n bs hl => by
    cases hf : lk A n with
    | none => rw [(hc.no n).1 hf] at hl; cases hl
    | some f =>
      have h1 := (hc.mt n f bs hf hl).len
      have h2 := (hok.1 f (lk_mem hf).1).mx
      omega
  refine ⟨_, fun A' t' => ∃ e, e.Perm (allP A) ∧ e.Pairwise (fun x y => x.1 ≤ y.1) ∧ A' = A.map (crA e keep.toNat) ∧ t' = turns, fun L' c' n' => ∃ (T : Nat) (ns : List ByteArray), ns.Nodup ∧ (∀ n, n ∈ ns ↔ L n ≠ none) ∧ ((ns.map fun n => cntB T ((L n).getD [])).sum = keep.toNat ∨ ((ns.map fun n => cntB T ((L n).getD [])).sum ≤ keep.toNat ∧ ∀ n bs, L n = some bs → ∀ b ∈ bs, b.2 ≤ T)) ∧ L' = (fun n => (L n).map (cutF T)) ∧ c' = clock ∧ n' = cnt, rfl, HX.go fun w ro hx => (S_crash hx keep hk1 hk2 (by omega)).mono fun _ _ ⟨g1, e, g2, g3, g4, g5⟩ => ⟨g1, _, _, ro, g4, g5, e, g2, g3, rfl, rfl⟩, HY.go fun w hy => (rd_crash hy (by omega) keep hk1 hk2 hbs hc.dst).mono fun _ _ ⟨g1, S', T, ns, g2, g3, g4, g5, g6⟩ => ⟨g1, _, _, _, S', g5, g6, T, ns, g2, g3, g4, rfl, rfl, rfl⟩, ?_⟩
  rintro A' t' L' c' n' ⟨e, p1, p2, rfl, rfl⟩ ⟨T, ns, q1, q2, q3, rfl, rfl, rfl⟩
  exact ⟨⟨st, hc.crash hok.2.1 hok.2.2 (fun f hf => (hok.1 f hf).ps0) p1 p2 q1 q2 q3⟩, by rw [List.length_map]; omega, by have := h.tn; omega, by have := h.ck; omega, by omega⟩
/-- Append. -/
theorem empty_of {s : ByteArray} (h : s.size = 0) : s = ⟨#[]⟩ := by
  rw [Lib.size_eq] at h
  have h2 : s.data.toList = [] := List.eq_nil_of_length_eq_zero h
  rw [← Lib.mk_data s, h2]
theorem mt_none (st : Nat → Nat) (n : ByteArray) (c clock : Nat) : Mt st (newF n c) [] clock := ⟨rfl, rfl, List.Pairwise.nil, List.Pairwise.nil, fun b hb => by cases hb⟩
theorem pair_append (h : Ok A L turns clock cnt k) (hk : k ≤ 999) (hok : (∀ f ∈ A, FOk f) ∧ (A.map (·.c)).Nodup ∧ (A.map (·.name)).Nodup) (n s : ByteArray) (hs : s.size ≤ 1000000) :
    DPair 9 10 #[.pointer (some ⟨Dx, 0, none⟩), .string n, .string s] #[.pointer (some ⟨Dy, 0, none⟩), .string n, .string s] base Dx Dy A L turns clock cnt S b d k IntV := by
  have hcn := h.cn
  have hla := h.la
  have hck := h.ck
  have htn := h.tn
  cases hm : nameB n with
  | false => exact ⟨_, _, _, ⟨_, rfl⟩, HX.same fun w _ _ => append_bad Dx n s w hm, HY.same fun w _ => rappend_bad w Dy n s hm, ok_same h⟩
  | true =>
    rcases h.name n with ⟨h1, h2⟩ | ⟨st, f, bs, hc, h1, h2, hM⟩
    · obtain ⟨st, hc⟩ := h.cp
      have hY : HY 10 #[.pointer (some ⟨Dy, 0, none⟩), .string n, .string s] (.int .i64 0) base Dx Dy L clock cnt S b d (fun L' c' n' => L' = updL L n (some (stR s.data.toList clock)) ∧ c' = clock + s.size ∧ n' = cnt + 1) := HY.go fun w hy => (rd_append_new hy (by omega) n s hm h2 (by omega) (by omega)).mono fun _ _ ⟨g1, S', g2, g3⟩ => ⟨g1, _, _, _, S', g2, g3, rfl, rfl, rfl⟩
      by_cases h0 : s.size = 0
      · have e := empty_of h0
        refine ⟨_, fun A' t' => ∃ c, A' = A ++ [newF n c] ∧ t' = turns, _, ⟨0, rfl⟩, HX.go fun w ro hx => ?_, hY, ?_⟩
        · rw [e]
          exact (S_append_noneN hx n hm h1).mono fun _ _ ⟨g1, c, ro', g2, g3⟩ => ⟨g1, _, _, ro', g2, g3, c, rfl, rfl⟩
        · rintro A' t' L' c' n' ⟨c, rfl, rfl⟩ ⟨rfl, rfl, rfl⟩
          refine ⟨⟨st, ?_⟩, by rw [List.length_append]; simp; omega, by omega, by omega, by omega⟩
          have e2 : stR s.data.toList clock = [] := by rw [e]; rfl
          rw [e2, h0]
          exact hc.newFile n c (fun m => lk_snoc (newF n c) m A h1)
      · refine ⟨_, fun A' t' => ∃ c, A' = A ++ [appA (newF n c) s (turns + 1)] ∧ t' = turns + 1, _, ⟨0, rfl⟩, HX.go fun w ro hx => (S_append_new hx n s hm h1 (by omega) (by omega) (by omega)).mono fun _ _ ⟨g1, c, ro', g2, g3⟩ => ⟨g1, _, _, ro', g2, g3, c, rfl, rfl⟩, hY, ?_⟩
        rintro A' t' L' c' n' ⟨c, rfl, rfl⟩ ⟨rfl, rfl, rfl⟩
        refine ⟨⟨stN st turns clock, ?_⟩, by rw [List.length_append]; simp; omega, by omega, by omega, by omega⟩
        have hmo := hc.more (A' := A ++ [appA (newF n c) s (turns + 1)]) (n := n) (f0 := newF n c) (f' := appA (newF n c) s (turns + 1)) (bs := []) (s := s) (mt_none st n c clock) (Or.inl ⟨rfl, fun b hb => by cases hb⟩) rfl rfl rfl (fun m => lk_snoc (appA (newF n c) s (turns + 1)) m A h1)
        rw [List.nil_append] at hmo
        exact hmo
    · have hF := hok.1 f (lk_mem h1).1
      have hlen := hM.len
      by_cases hlong : 4194304 < f.bs.length + s.size
      · exact ⟨_, _, _, ⟨_, rfl⟩, HX.same fun w ro hx => S_append_long hx n s hm f h1 hlong, HY.same fun w hy => rd_append_long hy (by omega) n s hm bs h2 (by have := hF.mx; omega) (by omega), ok_same h⟩
      · have hY : HY 10 #[.pointer (some ⟨Dy, 0, none⟩), .string n, .string s] (.int .i64 0) base Dx Dy L clock cnt S b d (fun L' c' n' => L' = updL L n (some (bs ++ stR s.data.toList clock)) ∧ c' = clock + s.size ∧ n' = cnt) := HY.go fun w hy => (rd_append hy (by omega) n s hm bs h2 (by omega) (by omega)).mono fun _ _ ⟨g1, S', g2, g3⟩ => ⟨g1, _, _, _, S', g2, g3, rfl, rfl, rfl⟩
        by_cases h0 : s.size = 0
        · have e := empty_of h0
          refine ⟨_, fun A' t' => A' = A ∧ t' = turns, _, ⟨0, rfl⟩, HX.same fun w ro hx => ?_, hY, ?_⟩
          · rw [e]
            exact S_append_none hx n hm f h1
          · rintro A' t' L' c' n' ⟨rfl, rfl⟩ ⟨rfl, rfl, rfl⟩
            refine ⟨⟨st, ?_⟩, by omega, by omega, by omega, by omega⟩
            have e2 : stR s.data.toList clock = [] := by rw [e]; rfl
            have e3 : updL L n (some bs) = L := by
              funext m
              unfold updL
              by_cases c : m = n
              · rw [if_pos c, c, h2]
              · rw [if_neg c]
            rw [e2, h0, List.append_nil, e3]
            exact hc
        · refine ⟨_, fun A' t' => A' = setF A (appA f s (turns + 1)) ∧ t' = turns + 1, _, ⟨0, rfl⟩, HX.go fun w ro hx => (S_append hx n s hm f h1 (by omega) (by omega) (by omega)).mono fun _ _ ⟨g1, ro', g2, g3⟩ => ⟨g1, _, _, ro', g2, g3, rfl, rfl⟩, hY, ?_⟩
          rintro A' t' L' c' n' ⟨rfl, rfl⟩ ⟨rfl, rfl, rfl⟩
          exact ⟨⟨_, hc.more (f' := appA f s (turns + 1)) hM (Or.inr ⟨h1, h2⟩) rfl rfl rfl (fun m => lk_setF (f' := appA f s (turns + 1)) hok.2.1 h1 rfl rfl m)⟩, by unfold setF; rw [List.length_map]; omega, by omega, by omega, by omega⟩
end
/-- Both disks. -/
structure Bis (w : World) (base Dx Dy : Nat) (A : List CF) (L : Look) (turns clock cnt : Nat) (ro : Nat → Option Nat) (S : Nat → Prop) : Prop where
  x : DkS w base Dx A turns ro
  y : RD w base Dy S L clock cnt
  dj : ∀ i, S i → ro i = none
theorem Bis.box {w : World} {base Dx Dy : Nat} {A : List CF} {L : Look} {turns clock cnt : Nat} {ro : Nat → Option Nat} {S : Nat → Prop} (h : Bis w base Dx Dy A L turns clock cnt ro S) (d : Array Value × TypeId) : Duo (w.alloc (.cells d.1 d.2)) base Dx Dy A L turns clock cnt ro S w.heap.size d := by
  have k : Below w.heap.size w (w.alloc (.cells d.1 d.2)) := (Below.refl _ _).alloc (Nat.le_refl _) _
  refine ⟨h.x.fresh k, h.y.fresh k, h.dj, heap_alloc_new w _, fun hs => by have := (h.y.bd _ hs).2; omega, ?_⟩
  cases hr : ro w.heap.size with
  | none => rfl
  | some q => have := (h.x.bd w.heap.size (by rw [hr]; simp)).2; omega
theorem Duo.bis {w : World} {base Dx Dy b : Nat} {A : List CF} {L : Look} {turns clock cnt : Nat} {ro : Nat → Option Nat} {S : Nat → Prop} {d : Array Value × TypeId} (h : Duo w base Dx Dy A L turns clock cnt ro S b d) : Bis w base Dx Dy A L turns clock cnt ro S := ⟨h.x, h.y, h.dj⟩
theorem Bis.fresh {w w' : World} {base Dx Dy : Nat} {A : List CF} {L : Look} {turns clock cnt : Nat} {ro : Nat → Option Nat} {S : Nat → Prop} (h : Bis w base Dx Dy A L turns clock cnt ro S) (k : Below w.heap.size w w') : Bis w' base Dx Dy A L turns clock cnt ro S := ⟨h.x.fresh k, h.y.fresh k, h.dj⟩
theorem RD.low {w : World} {base base' D : Nat} {S : Nat → Prop} {L : Look} {clock cnt : Nat} (h : RD w base D S L clock cnt) (hb : base' ≤ base) : RD w base' D S L clock cnt := by
  obtain ⟨lv, v, hd, h1⟩ := h.ex
  exact ⟨⟨lv, v, ⟨hd.bl, own_mono hd.row hb, fun p hp => own_mono (hd.each p hp) hb, Nat.le_trans hb hd.lo, hd.nD, hd.eD, hd.sep⟩, h1⟩, h.sD, fun b hs => ⟨Nat.le_trans hb (h.bd b hs).1, (h.bd b hs).2⟩⟩
theorem Bis.start (w : World) : ∃ ro S, Bis ((w.alloc (.cells #[.map none, .int .i64 0] 48)).alloc (.cells #[.slice none 0 0, .int .i64 0] 28)) w.heap.size w.heap.size (w.heap.size + 1) [] (fun _ => none) 0 0 0 ro S := by
  have hy := RD.new (w.alloc (.cells #[.map none, .int .i64 0] 48))
  have e : (w.alloc (.cells #[.map none, .int .i64 0] 48)).heap.size = w.heap.size + 1 := by simp
  rw [e] at hy
  refine ⟨_, _, (DkS.new w).fresh ((Below.refl _ _).alloc (Nat.le_refl _) _), hy.low (by omega), fun i hi => ?_⟩
  subst hi
  simp
theorem Ok.new : Ok [] (fun _ => none) 0 0 0 0 := ⟨⟨_, Cp.new⟩, Nat.le_refl _, Nat.le_refl _, Nat.le_refl _, Nat.le_refl _⟩
def baO (l : List UInt8) : ByteArray := ⟨l.toArray⟩
theorem baO_nB (n : ByteArray) : baO (nB n) = n := by
  unfold baO nB
  exact Lib.mk_data n
/-- The program's names, as a row of texts. -/
theorem fl_strs {w w' : World} {A : List CF} {v : Value} {ns : List ByteArray} (h : FlPost w w' A v) (hn : (A.map (·.name)).Nodup) (hs : ns.Pairwise (fun a b => ltN a b = true)) (hm : ∀ n, n ∈ ns ↔ n ∈ A.map (·.name)) : StrAt w' v ns ∧ Below w.heap.size w w' := by
  obtain ⟨acc, ss, p, cap, rfl, h1, h2, h3, h4⟩ := h
  have hnd : ns.Nodup := by
    rw [List.nodup_iff_pairwise_ne]
    exact hs.imp (fun hlt e => by rw [e, ltN_irr] at hlt; cases hlt)
  have hp : ns.Perm (A.map (·.name)) := (List.perm_ext_iff_of_nodup hnd hn).2 hm
  have hp2 : (ns.map nB).Perm ss := by
    have e1 : (A.map (·.name)).map nB = A.map nmB := by rw [List.map_map]; rfl
    have h5 := hp.map nB
    rw [e1] at h5
    rw [h2]
    exact (h5.trans h1.symm).trans (List.mergeSort_perm _ _).symm
  have e : ss = ns.map nB := by
    refine (List.Perm.eq_of_pairwise (le := fun a b : List UInt8 => a ≤ b) (fun a b _ _ h1 h2 => List.le_antisymm h1 h2) ?_ ?_ hp2).symm
    · rw [List.pairwise_map]
      exact hs.imp (fun hlt => by
        rw [ltN_eq, decide_eq_true_eq] at hlt
        exact List.le_of_lt hlt)
    · rw [h2]
      have h6 := List.pairwise_mergeSort (le := fun x y : List UInt8 => decide (x ≤ y)) (fun a b c h1 h2 => by
        rw [decide_eq_true_eq] at *
        exact List.le_trans h1 h2) (fun a b => by
        rw [Bool.or_eq_true, decide_eq_true_eq, decide_eq_true_eq]
        exact List.le_total a b) acc
      exact h6.imp (fun h => by simpa using h)
  have hl : ss.length = ns.length := by rw [e, List.length_map]
  refine ⟨⟨⟨p, cap, by rw [hl], ?_⟩⟩, h3⟩
  rcases h4 with h4 | ⟨g, rfl, _, h5⟩
  · left
    rw [← hl, h4]
    rfl
  · by_cases h0 : ns.length = 0
    · exact Or.inl h0
    · refine Or.inr ⟨g, 0, rfl, ?_, fun j hj => ?_⟩
      · have := (h5 0 (by simp; omega)).1
        exact World.block_lt_of_cell? w' _ this
      · have h6 := (h5 j (by simp; omega)).1
        rw [h6]
        have h7 : ss.toArray[j]! = nB ns[j] := by
          subst e
          simp [hj]
        rw [h7]
        unfold encStr
        have h8 := baO_nB ns[j]
        unfold baO at h8
        rw [h8]
/-- The names of all files, on either side: the same row of texts. -/
theorem both_names {w : World} {base Dx Dy : Nat} {A : List CF} {L : Look} {turns clock cnt k : Nat} {ro : Nat → Option Nat} {S : Nat → Prop} (hB : Bis w base Dx Dy A L turns clock cnt ro S) (hO : Ok A L turns clock cnt k) : ∀ n, L n ≠ none ↔ n ∈ A.map (·.name) := fun n => by
  have hok := hB.x.ok
  obtain ⟨st, hc⟩ := hO.cp
  constructor
  · intro h1
    have h2 : lk A n ≠ none := fun e => h1 ((hc.no n).1 e)
    obtain ⟨f, hf⟩ := Option.ne_none_iff_exists'.1 h2
    exact List.mem_map.2 ⟨f, (lk_mem hf).1, (lk_mem hf).2⟩
  · intro h1 e
    obtain ⟨f, hf, rfl⟩ := List.mem_map.1 h1
    have := (hc.no f.name).2 e
    rw [lk_of_mem hok.2.2 f hf] at this
    cases this
end Go.Proofs.YtkdglkaeglhibaaGreatDoor
