/-
  Two disks side by side, the program's and the document's: each call on either, and that both answer the same and go on to say the same. The conditions: at most 100 deeds, each with at most 1000 bytes.
-/
import Derived.Test.YtpbkpaendhpbfaaPlE
import Derived.Test.YtpbkpaendhpbfaaQAwake
namespace Go.Proofs.Ytpbkpaendhpbfaa
open Go.RowKit

abbrev DD : TypeId := 30
/-- A deed. -/
structure Dd where
  K : Int
  N : Int
  F : ByteArray
  T : ByteArray
  s : ByteArray
def ddL (d : Dd) : Array Value := #[.int .i64 d.K, .int .i64 d.N, .string d.F, .string d.T, .string d.s]
/-- Both disks, and a deed in its box. -/
structure Duo (w : World) (base Dx Dy : Nat) (A : List CF) (L : Look) (turns clock cnt : Nat) (ro : Nat → Option Nat) (S : Nat → Prop) (b : Nat) (d : Dd) : Prop where
  x : DkS w base Dx A turns ro
  y : RD w base Dy S L clock cnt
  dj : ∀ i, S i → ro i = none
  bx : w.heap[b]? = some (.cells (ddL d) DD (0, 0))
  nb : ¬ S b
  rb : ro b = none
section
variable {w w' : World} {base Dx Dy b : Nat} {A A' : List CF} {L L' : Look} {turns turns' clock clock' cnt cnt' : Nat} {ro ro' : Nat → Option Nat} {S S' : Nat → Prop} {d : Dd}
theorem Duo.goX (h : Duo w base Dx Dy A L turns clock cnt ro S b d) (hx : DkS w' base Dx A' turns' ro') (k : Ext w w' ro ro') : Duo w' base Dx Dy A' L turns' clock cnt ro' S b d := by
  have hb := lt_of_block h.bx
  exact ⟨hx, h.y.keep k.size (fun i hi => k.kept i (h.y.bd i hi).2 (h.dj i hi)), fun i hi => (k.old i (h.y.bd i hi).2).trans (h.dj i hi), (k.kept b hb h.rb).trans h.bx, h.nb, (k.old b hb).trans h.rb⟩
theorem Duo.goY (h : Duo w base Dx Dy A L turns clock cnt ro S b d) (hy : RD w' base Dy S' L' clock' cnt') (k : Kept w w' S S') : Duo w' base Dx Dy A L' turns clock' cnt' ro S' b d := by
  have hb := lt_of_block h.bx
  refine ⟨h.x.keep k.size (fun i hi => k.kept i (h.x.bd i hi).2 (fun hs => hi (h.dj i hs))), hy, fun i hi => ?_, (k.kept b hb h.nb).trans h.bx, fun hs => ?_, h.rb⟩
  · rcases k.old i hi with h1 | h1
    · exact h.dj i h1
    · cases hr : ro i with
      | none => rfl
      | some q => have := (h.x.bd i (by rw [hr]; simp)).2; omega
  · rcases k.old b hs with h1 | h1
    · exact h.nb h1
    · omega
theorem Duo.fresh (h : Duo w base Dx Dy A L turns clock cnt ro S b d) (k : Below w.heap.size w w') : Duo w' base Dx Dy A L turns clock cnt ro S b d :=
  ⟨h.x.fresh k, h.y.fresh k, h.dj, (k.block b (lt_of_block h.bx)).trans h.bx, h.nb, h.rb⟩
theorem Duo.drew (h : Duo w base Dx Dy A L turns clock cnt ro S b d) : Duo w.drew base Dx Dy A L turns clock cnt ro S b d := h.fresh ⟨rfl, rfl, rfl, Nat.le_refl _, fun _ _ => rfl⟩
theorem Duo.base_le (h : Duo w base Dx Dy A L turns clock cnt ro S b d) : base ≤ w.heap.size := h.x.base
theorem Duo.c0 (h : Duo w base Dx Dy A L turns clock cnt ro S b d) : w.cell? ⟨b, 0, none⟩ = some (.int .i64 d.K) := by simp [World.cell?, h.bx, ddL]
theorem Duo.c1 (h : Duo w base Dx Dy A L turns clock cnt ro S b d) : w.cell? ⟨b, 1, none⟩ = some (.int .i64 d.N) := by simp [World.cell?, h.bx, ddL]
theorem Duo.c2 (h : Duo w base Dx Dy A L turns clock cnt ro S b d) : w.cell? ⟨b, 2, none⟩ = some (.string d.F) := by simp [World.cell?, h.bx, ddL]
theorem Duo.c3 (h : Duo w base Dx Dy A L turns clock cnt ro S b d) : w.cell? ⟨b, 3, none⟩ = some (.string d.T) := by simp [World.cell?, h.bx, ddL]
theorem Duo.c4 (h : Duo w base Dx Dy A L turns clock cnt ro S b d) : w.cell? ⟨b, 4, none⟩ = some (.string d.s) := by simp [World.cell?, h.bx, ddL]
end
/-- A call on the program's disk, one on the document's: each with its answer and what becomes of it. -/
def HX (fn : Nat) (args : Array Value) (z : Value) (base Dx Dy : Nat) (A : List CF) (L : Look) (turns clock cnt : Nat) (S : Nat → Prop) (b : Nat) (d : Dd) (P : List CF → Nat → Prop) : Prop :=
  ∀ w ro, Duo w base Dx Dy A L turns clock cnt ro S b d → Calls Try.prog fn args w fun e w' => e = .returned z ∧ ∃ A' turns' ro', Duo w' base Dx Dy A' L turns' clock cnt ro' S b d ∧ P A' turns' ∧ Below base w w'
def HY (fn : Nat) (args : Array Value) (z : Value) (base Dx Dy : Nat) (L : Look) (clock cnt : Nat) (S : Nat → Prop) (b : Nat) (d : Dd) (P : Look → Nat → Nat → Prop) : Prop :=
  ∀ w A turns ro, Duo w base Dx Dy A L turns clock cnt ro S b d → Calls Try.prog fn args w fun e w' => e = .returned z ∧ ∃ L' clock' cnt' S', Duo w' base Dx Dy A L' turns clock' cnt' ro S' b d ∧ P L' clock' cnt' ∧ Below base w w'
/-- Both say the same behind k deeds. -/
structure Ok (A : List CF) (L : Look) (turns clock cnt k : Nat) : Prop where
  cp : ∃ st, Cp A L clock turns st
  la : A.length ≤ k
  tn : turns ≤ k
  ck : clock ≤ 1000 * k
  cn : cnt ≤ k
theorem Ok.more {A : List CF} {L : Look} {turns clock cnt k : Nat} (h : Ok A L turns clock cnt k) : Ok A L turns clock cnt (k + 1) := ⟨h.cp, by have := h.la; omega, by have := h.tn; omega, by have := h.ck; omega, by have := h.cn; omega⟩
section
variable {base Dx Dy b : Nat} {A : List CF} {L : Look} {turns clock cnt : Nat} {S : Nat → Prop} {d : Dd} {fn : Nat} {args : Array Value} {z : Value}
theorem HX.same (h : ∀ w ro, DkS w base Dx A turns ro → Calls Try.prog fn args w fun e w' => e = .returned z ∧ w = w') : HX fn args z base Dx Dy A L turns clock cnt S b d (fun A' t' => A' = A ∧ t' = turns) :=
  fun w ro hD => (h w ro hD.x).mono fun _ _ ⟨h1, h2⟩ => ⟨h1, A, turns, ro, by rw [← h2]; exact hD, ⟨rfl, rfl⟩, by rw [← h2]; exact Below.refl _ _⟩
theorem HY.same (h : ∀ w, RD w base Dy S L clock cnt → Calls Try.prog fn args w fun e w' => e = .returned z ∧ w = w') : HY fn args z base Dx Dy L clock cnt S b d (fun L' c' n' => L' = L ∧ c' = clock ∧ n' = cnt) :=
  fun w _ _ _ hD => (h w hD.y).mono fun _ _ ⟨h1, h2⟩ => ⟨h1, L, clock, cnt, S, by rw [← h2]; exact hD, ⟨rfl, rfl, rfl⟩, by rw [← h2]; exact Below.refl _ _⟩
theorem HX.fresh (h : ∀ w ro, DkS w base Dx A turns ro → Calls Try.prog fn args w fun e w' => e = .returned z ∧ Below w.heap.size w w') : HX fn args z base Dx Dy A L turns clock cnt S b d (fun A' t' => A' = A ∧ t' = turns) :=
  fun w ro hD => (h w ro hD.x).mono fun _ _ ⟨h1, h2⟩ => ⟨h1, A, turns, ro, hD.fresh h2, ⟨rfl, rfl⟩, h2.mono hD.base_le⟩
theorem HY.fresh (h : ∀ w, RD w base Dy S L clock cnt → Calls Try.prog fn args w fun e w' => e = .returned z ∧ Below w.heap.size w w') : HY fn args z base Dx Dy L clock cnt S b d (fun L' c' n' => L' = L ∧ c' = clock ∧ n' = cnt) :=
  fun w _ _ _ hD => (h w hD.y).mono fun _ _ ⟨h1, h2⟩ => ⟨h1, L, clock, cnt, S, hD.fresh h2, ⟨rfl, rfl, rfl⟩, h2.mono hD.base_le⟩
theorem HX.go {P : List CF → Nat → Prop} (h : ∀ w ro, DkS w base Dx A turns ro → Calls Try.prog fn args w fun e w' => e = .returned z ∧ ∃ A' t' ro', DkS w' base Dx A' t' ro' ∧ Ext w w' ro ro' ∧ P A' t') : HX fn args z base Dx Dy A L turns clock cnt S b d P :=
  fun w ro hD => (h w ro hD.x).mono fun _ _ ⟨h1, A', t', ro', h2, h3, h4⟩ => ⟨h1, A', t', ro', hD.goX h2 h3, h4, hD.x.below h3⟩
theorem HY.go {P : Look → Nat → Nat → Prop} (h : ∀ w, RD w base Dy S L clock cnt → Calls Try.prog fn args w fun e w' => e = .returned z ∧ ∃ L' c' n' S', RD w' base Dy S' L' c' n' ∧ Kept w w' S S' ∧ P L' c' n') : HY fn args z base Dx Dy L clock cnt S b d P :=
  fun w _ _ _ hD => (h w hD.y).mono fun _ _ ⟨h1, L', c', n', S', h2, h3, h4⟩ => ⟨h1, L', c', n', S', hD.goY h2 h3, h4, h3.belowR hD.y⟩
/-- Both calls answer the same, and both disks say the same behind them. -/
def Pair (fx fy : Nat) (ax ay : Array Value) (base Dx Dy : Nat) (A : List CF) (L : Look) (turns clock cnt : Nat) (S : Nat → Prop) (b : Nat) (d : Dd) (k : Nat) (Z : Value → Prop) : Prop :=
  ∃ z PX PY, Z z ∧ HX fx ax z base Dx Dy A L turns clock cnt S b d PX ∧ HY fy ay z base Dx Dy L clock cnt S b d PY ∧ ∀ A' t' L' c' n', PX A' t' → PY L' c' n' → Ok A' L' t' c' n' (k + 1)
theorem ok_same {k : Nat} (h : Ok A L turns clock cnt k) : ∀ (A' : List CF) (t' : Nat) (L' : Look) (c' n' : Nat), (A' = A ∧ t' = turns) → (L' = L ∧ c' = clock ∧ n' = cnt) → Ok A' L' t' c' n' (k + 1) := fun A' t' L' c' n' ⟨e1, e2⟩ ⟨e3, e4, e5⟩ => by
  subst e1 e2 e3 e4 e5
  exact h.more
/-- What both have under a name. -/
theorem Ok.name {k : Nat} (h : Ok A L turns clock cnt k) (n : ByteArray) : (lk A n = none ∧ L n = none) ∨ ∃ st f bs, Cp A L clock turns st ∧ lk A n = some f ∧ L n = some bs ∧ Mt st f bs clock := by
  obtain ⟨st, hc⟩ := h.cp
  cases hf : lk A n with
  | none => exact Or.inl ⟨rfl, (hc.no n).1 hf⟩
  | some f =>
    cases hl : L n with
    | none => have := (hc.no n).2 hl; rw [hf] at this; cases this
    | some bs => exact Or.inr ⟨st, f, bs, hc, rfl, rfl, hc.mt n f bs hf hl⟩
theorem Mt.len {st : Nat → Nat} {f : CF} {bs : List BB} {c : Nat} (h : Mt st f bs c) : bs.length = f.bs.length := by rw [h.by_, List.length_map]
end
def IntV (z : Value) : Prop := ∃ i : Int, z = .int .i64 i
def TupV (z : Value) : Prop := ∃ (t : ByteArray) (i : Int), z = .tuple #[.string t, .int .i64 i]
section
variable {base Dx Dy b : Nat} {A : List CF} {L : Look} {turns clock cnt k : Nat} {S : Nat → Prop} {d : Dd}
/-- Sync. -/
theorem pair_sync (h : Ok A L turns clock cnt k) (hk : k ≤ 100) (hok : (∀ f ∈ A, FOk f) ∧ (A.map (·.c)).Nodup ∧ (A.map (·.name)).Nodup) (n : ByteArray) (hn : n.size ≤ maxLen) :
    Pair 27 28 #[.pointer (some ⟨Dx, 0, none⟩), .string n] #[.pointer (some ⟨Dy, 0, none⟩), .string n] base Dx Dy A L turns clock cnt S b d k IntV := by
  have hcn := h.cn
  rcases h.name n with ⟨h1, h2⟩ | ⟨st, f, bs, hc, h1, h2, hM⟩
  · exact ⟨_, _, _, ⟨5, rfl⟩, HX.same fun w ro hx => S_sync_no hx n hn h1, HY.same fun w hy => rd_sync_no hy (by omega) n h2, ok_same h⟩
  · have hF := hok.1 f (lk_mem h1).1
    have hlen := hM.len
    refine ⟨_, fun A' t' => A' = setF A (syncF f) ∧ t' = turns, fun L' c' n' => L' = updL L n (some (bs.map sureB)) ∧ c' = clock ∧ n' = cnt, ⟨0, rfl⟩, HX.go fun w ro hx => (S_sync hx n hn f h1).mono fun _ _ ⟨g1, g2, g3⟩ => ⟨g1, _, _, ro, g2, g3, rfl, rfl⟩, HY.go fun w hy => (rd_sync hy (by omega) n bs h2 (by have := hF.mx; omega)).mono fun _ _ ⟨g1, S', g2, g3⟩ => ⟨g1, _, _, _, S', g2, g3, rfl, rfl, rfl⟩, ?_⟩
    rintro A' t' L' c' n' ⟨rfl, rfl⟩ ⟨rfl, rfl, rfl⟩
    exact ⟨⟨st, hc.sync h1 h2 (fun m => lk_setF (f' := syncF f) hok.2.1 h1 rfl rfl m)⟩, by unfold setF; rw [List.length_map]; have := h.la; omega, by have := h.tn; omega, by have := h.ck; omega, by omega⟩
/-- Read. -/
theorem bytesR_eq (bs : List BB) : bytesR bs = bs.map (·.1) := by unfold bytesR; rfl
theorem pair_read (h : Ok A L turns clock cnt k) (hk : k ≤ 100) (hok : (∀ f ∈ A, FOk f) ∧ (A.map (·.c)).Nodup ∧ (A.map (·.name)).Nodup) (n : ByteArray) (hn : n.size ≤ maxLen) :
    Pair 29 30 #[.pointer (some ⟨Dx, 0, none⟩), .string n] #[.pointer (some ⟨Dy, 0, none⟩), .string n] base Dx Dy A L turns clock cnt S b d k TupV := by
  have hcn := h.cn
  rcases h.name n with ⟨h1, h2⟩ | ⟨st, f, bs, hc, h1, h2, hM⟩
  · exact ⟨_, _, _, ⟨_, _, rfl⟩, HX.same fun w ro hx => S_read_no hx n hn h1, HY.same fun w hy => rd_read_no hy (by omega) n h2, ok_same h⟩
  · have hF := hok.1 f (lk_mem h1).1
    have hlen := hM.len
    refine ⟨_, _, _, ⟨_, _, rfl⟩, HX.same fun w ro hx => S_read hx n hn f h1, HY.fresh fun w hy => ?_, ok_same h⟩
    have h3 := rd_read hy (by omega) n bs h2 (by have := hF.mx; omega)
    rw [bytesR_eq, ← hM.by_] at h3
    exact h3
/-- Unsynced. -/
theorem uns_eq {st : Nat → Nat} {f : CF} {bs : List BB} {c : Nat} (h : Mt st f bs c) : unsR bs = tot f.ps := by
  have e1 : unsR bs = ((bs.map (·.2)).filter fun s => decide (0 < s)).length := by
    unfold unsR
    rw [List.filter_map, List.length_map]
    rfl
  have e2 : ((List.replicate f.sure 0).filter fun s => decide (0 < s)) = [] := by
    rw [List.filter_eq_nil_iff]
    intro a ha
    rw [List.mem_replicate] at ha
    simp [ha.2]
  have e3 : ((spans st f.ps).filter fun s => decide (0 < s)) = spans st f.ps := by
    rw [List.filter_eq_self]
    intro a ha
    simpa using spans_pos ha
  have e4 : ∀ ps : List (Nat × Nat), (spans st ps).length = tot ps := fun ps => by
    induction ps with
    | nil => rfl
    | cons x ps ih =>
      unfold spans tot at ih ⊢
      rw [List.flatMap_cons, List.length_append, ih, List.map_cons, List.sum_cons]
      unfold span
      simp
  rw [e1, h.sp, List.filter_append, e2, e3, List.nil_append, e4]
theorem pair_unsynced (h : Ok A L turns clock cnt k) (hk : k ≤ 100) (hok : (∀ f ∈ A, FOk f) ∧ (A.map (·.c)).Nodup ∧ (A.map (·.name)).Nodup) (n : ByteArray) (hn : n.size ≤ maxLen) :
    Pair 37 38 #[.pointer (some ⟨Dx, 0, none⟩), .string n] #[.pointer (some ⟨Dy, 0, none⟩), .string n] base Dx Dy A L turns clock cnt S b d k IntV := by
  have hcn := h.cn
  rcases h.name n with ⟨h1, h2⟩ | ⟨st, f, bs, hc, h1, h2, hM⟩
  · exact ⟨_, _, _, ⟨_, rfl⟩, HX.same fun w ro hx => S_unsynced_no hx n hn h1, HY.same fun w hy => rd_unsynced_no hy (by omega) n h2, ok_same h⟩
  · have hF := hok.1 f (lk_mem h1).1
    have hlen := hM.len
    refine ⟨_, _, _, ⟨_, rfl⟩, HX.fresh fun w ro hx => (S_unsynced hx n hn f h1).mono fun _ _ ⟨g1, g2⟩ => ⟨g1, by rw [g2]; exact ⟨rfl, rfl, rfl, Nat.le_refl _, fun _ _ => rfl⟩⟩, HY.same fun w hy => ?_, ok_same h⟩
    have h3 := rd_unsynced hy (by omega) n bs h2 (by have := hF.mx; omega)
    rw [uns_eq hM] at h3
    exact h3
/-- Remove. -/
theorem pair_remove (h : Ok A L turns clock cnt k) (hk : k ≤ 100) (n : ByteArray) (hn : n.size ≤ maxLen) :
    Pair 31 32 #[.pointer (some ⟨Dx, 0, none⟩), .string n] #[.pointer (some ⟨Dy, 0, none⟩), .string n] base Dx Dy A L turns clock cnt S b d k IntV := by
  have hcn := h.cn
  rcases h.name n with ⟨h1, h2⟩ | ⟨st, f, bs, hc, h1, h2, hM⟩
  · exact ⟨_, _, _, ⟨_, rfl⟩, HX.same fun w ro hx => S_remove_no hx n hn h1, HY.same fun w hy => rd_remove_no hy (by omega) n h2, ok_same h⟩
  · refine ⟨_, fun A' t' => A' = delF A n ∧ t' = turns, fun L' c' n' => L' = updL L n none ∧ c' = clock ∧ n' = cnt, ⟨_, rfl⟩, HX.go fun w ro hx => (S_remove hx n hn f h1).mono fun _ _ ⟨g1, g2, g3⟩ => ⟨g1, _, _, ro, g2, g3, rfl, rfl⟩, HY.go fun w hy => (rd_remove hy (by omega) n bs h2).mono fun _ _ ⟨g1, S', g2, g3⟩ => ⟨g1, _, _, _, S', g2, g3, rfl, rfl, rfl⟩, ?_⟩
    rintro A' t' L' c' n' ⟨rfl, rfl⟩ ⟨rfl, rfl, rfl⟩
    exact ⟨⟨st, hc.remove n⟩, by have h3 := List.length_filter_le (fun f : CF => !decide (f.name = n)) A; have := h.la; unfold delF; omega, by have := h.tn; omega, by have := h.ck; omega, by omega⟩
/-- Rename. -/
theorem ren_len (A : List CF) (f : CF) (n m : ByteArray) (h : lk A n = some f) : (renF (delF A n) f m).length ≤ A.length := by
  have h1 : (delF A n).length + 1 ≤ A.length := by
    have hm := (lk_mem h)
    unfold delF
    have h2 := List.length_filter_lt_length_iff_exists (p := fun f : CF => !decide (f.name = n)) (l := A)
    have := h2.2 ⟨f, hm.1, by simp [hm.2]⟩
    omega
  unfold renF
  by_cases c : lk (delF A n) m = none
  · rw [if_pos c, List.length_append]
    simpa using h1
  · rw [if_neg c, List.length_map]
    omega
theorem upd_same (L : Look) (n : ByteArray) (x : Option (List BB)) (h : L n = x) : updL (updL L n none) n x = L := by
  funext m
  unfold updL
  by_cases e : m = n
  · rw [if_pos e, e, h]
  · rw [if_neg e, if_neg e]
theorem pair_rename (h : Ok A L turns clock cnt k) (hk : k ≤ 100) (n m : ByteArray) (hn : n.size ≤ maxLen) :
    Pair 33 34 #[.pointer (some ⟨Dx, 0, none⟩), .string n, .string m] #[.pointer (some ⟨Dy, 0, none⟩), .string n, .string m] base Dx Dy A L turns clock cnt S b d k IntV := by
  have hcn := h.cn
  cases hm : nameB m with
  | false => exact ⟨_, _, _, ⟨_, rfl⟩, HX.same fun w _ _ => rename_bad (.pointer (some ⟨Dx, 0, none⟩)) n m w hm, HY.same fun w _ => rrename_bad w Dy n m hm, ok_same h⟩
  | true =>
    rcases h.name n with ⟨h1, h2⟩ | ⟨st, f, bs, hc, h1, h2, hM⟩
    · exact ⟨_, _, _, ⟨_, rfl⟩, HX.same fun w ro hx => S_rename_no hx n m hm hn h1, HY.same fun w hy => rd_rename_no hy (by omega) n m hm h2, ok_same h⟩
    · have hX : HX 33 #[.pointer (some ⟨Dx, 0, none⟩), .string n, .string m] (.int .i64 0) base Dx Dy A L turns clock cnt S b d (fun A' t' => A' = renF (delF A n) f m ∧ t' = turns) := HX.go fun w ro hx => (S_rename hx n m hm hn f h1).mono fun _ _ ⟨g1, g2, g3⟩ => ⟨g1, _, _, ro, g2, g3, rfl, rfl⟩
      have hlen := ren_len A f n m h1
      by_cases e : n = m
      · subst e
        refine ⟨_, _, _, ⟨0, rfl⟩, hX, HY.same fun w hy => rd_rename_same hy (by omega) n hm bs h2, ?_⟩
        rintro A' t' L' c' n' ⟨rfl, rfl⟩ ⟨rfl, rfl, rfl⟩
        have hcp := hc.rename (m := n) h1 h2
        rw [upd_same L' n (some bs) h2] at hcp
        exact ⟨⟨st, hcp⟩, by have := h.la; omega, by have := h.tn; omega, by have := h.ck; omega, by omega⟩
      · refine ⟨_, _, fun L' c' n' => L' = updL (updL L n none) m (some bs) ∧ c' = clock ∧ n' = cnt, ⟨0, rfl⟩, hX, HY.go fun w hy => (rd_rename hy (by omega) n m hm e bs h2).mono fun _ _ ⟨g1, S', g2, g3⟩ => ⟨g1, _, _, _, S', g2, g3, rfl, rfl, rfl⟩, ?_⟩
        rintro A' t' L' c' n' ⟨rfl, rfl⟩ ⟨rfl, rfl, rfl⟩
        exact ⟨⟨st, hc.rename h1 h2⟩, by have := h.la; omega, by have := h.tn; omega, by have := h.ck; omega, by omega⟩
/-- Crash. -/
theorem pair_crash (h : Ok A L turns clock cnt k) (hk : k ≤ 100) (hok : (∀ f ∈ A, FOk f) ∧ (A.map (·.c)).Nodup ∧ (A.map (·.name)).Nodup) (keep : Int) (hk1 : -9223372036854775808 ≤ keep) (hk2 : keep ≤ 9223372036854775807) :
    Pair 35 36 #[.pointer (some ⟨Dx, 0, none⟩), .int .i64 keep] #[.pointer (some ⟨Dy, 0, none⟩), .int .i64 keep] base Dx Dy A L turns clock cnt S b d k (fun z => z = .tuple #[]) := by
  have hcn := h.cn
  have hla := h.la
  obtain ⟨st, hc⟩ := h.cp
  have hbs : ∀ n bs, L n = some bs → bs.length ≤ 4194304 := fun n bs hl => by
    cases hf : lk A n with
    | none => rw [(hc.no n).1 hf] at hl; cases hl
    | some f =>
      have h1 := (hc.mt n f bs hf hl).len
      have h2 := (hok.1 f (lk_mem hf).1).mx
      omega
  refine ⟨_, fun A' t' => ∃ e, e.Perm (allP A) ∧ e.Pairwise (fun x y => x.1 ≤ y.1) ∧ A' = A.map (crA e keep.toNat) ∧ t' = turns, fun L' c' n' => ∃ (T : Nat) (ns : List ByteArray), ns.Nodup ∧ (∀ n, n ∈ ns ↔ L n ≠ none) ∧ ((ns.map fun n => cntB T ((L n).getD [])).sum = keep.toNat ∨ ((ns.map fun n => cntB T ((L n).getD [])).sum ≤ keep.toNat ∧ ∀ n bs, L n = some bs → ∀ b ∈ bs, b.2 ≤ T)) ∧ L' = (fun n => (L n).map (cutF T)) ∧ c' = clock ∧ n' = cnt, rfl, HX.go fun w ro hx => (S_crash hx keep hk1 hk2 (by omega)).mono fun _ _ ⟨g1, e, g2, g3, g4, g5⟩ => ⟨g1, _, _, ro, g4, g5, e, g2, g3, rfl, rfl⟩, HY.go fun w hy => (rd_crash hy (by omega) keep hk1 hk2 hbs hc.dst).mono fun _ _ ⟨g1, S', T, ns, g2, g3, g4, g5, g6⟩ => ⟨g1, _, _, _, S', g5, g6, T, ns, g2, g3, g4, rfl, rfl, rfl⟩, ?_⟩
  rintro A' t' L' c' n' ⟨e, p1, p2, rfl, rfl⟩ ⟨T, ns, q1, q2, q3, rfl, rfl, rfl⟩
  exact ⟨⟨st, hc.crash hok.2.1 hok.2.2 (fun f hf => (hok.1 f hf).ps0) p1 p2 q1 q2 q3⟩, by rw [List.length_map]; omega, by have := h.tn; omega, by have := h.ck; omega, by omega⟩
/-- Append. -/
theorem empty_of {s : ByteArray} (h : s.size = 0) : s = ⟨#[]⟩ := by
  rw [Lib.size_eq] at h
  have h2 : s.data.toList = [] := List.eq_nil_of_length_eq_zero h
  rw [← Lib.mk_data s, h2]
theorem mt_none (st : Nat → Nat) (n : ByteArray) (c clock : Nat) : Mt st (newF n c) [] clock := ⟨rfl, rfl, List.Pairwise.nil, List.Pairwise.nil, fun b hb => by cases hb⟩
theorem pair_append (h : Ok A L turns clock cnt k) (hk : k ≤ 99) (hok : (∀ f ∈ A, FOk f) ∧ (A.map (·.c)).Nodup ∧ (A.map (·.name)).Nodup) (n s : ByteArray) (hs : s.size ≤ 1000) :
    Pair 25 26 #[.pointer (some ⟨Dx, 0, none⟩), .string n, .string s] #[.pointer (some ⟨Dy, 0, none⟩), .string n, .string s] base Dx Dy A L turns clock cnt S b d k IntV := by
  have hcn := h.cn
  have hla := h.la
  have hck := h.ck
  have htn := h.tn
  cases hm : nameB n with
  | false => exact ⟨_, _, _, ⟨_, rfl⟩, HX.same fun w _ _ => append_bad Dx n s w hm, HY.same fun w _ => rappend_bad w Dy n s hm, ok_same h⟩
  | true =>
    rcases h.name n with ⟨h1, h2⟩ | ⟨st, f, bs, hc, h1, h2, hM⟩
    · obtain ⟨st, hc⟩ := h.cp
      have hY : HY 26 #[.pointer (some ⟨Dy, 0, none⟩), .string n, .string s] (.int .i64 0) base Dx Dy L clock cnt S b d (fun L' c' n' => L' = updL L n (some (stR s.data.toList clock)) ∧ c' = clock + s.size ∧ n' = cnt + 1) := HY.go fun w hy => (rd_append_new hy (by omega) n s hm h2 (by omega) (by omega)).mono fun _ _ ⟨g1, S', g2, g3⟩ => ⟨g1, _, _, _, S', g2, g3, rfl, rfl, rfl⟩
      by_cases h0 : s.size = 0
      · have e := empty_of h0
        refine ⟨_, fun A' t' => ∃ c, A' = A ++ [newF n c] ∧ t' = turns, _, ⟨0, rfl⟩, HX.go fun w ro hx => ?_, hY, ?_⟩
        · rw [e]
          exact (S_append_noneN hx n hm h1).mono fun _ _ ⟨g1, c, ro', g2, g3⟩ => ⟨g1, _, _, ro', g2, g3, c, rfl, rfl⟩
        · rintro A' t' L' c' n' ⟨c, rfl, rfl⟩ ⟨rfl, rfl, rfl⟩
          refine ⟨⟨st, ?_⟩, by rw [List.length_append]; simp; omega, by omega, by omega, by omega⟩
          have e2 : stR s.data.toList clock = [] := by rw [e]; rfl
          rw [e2, h0]
          exact hc.newFile n c (fun m => lk_snoc (newF n c) m A h1)
      · refine ⟨_, fun A' t' => ∃ c, A' = A ++ [appA (newF n c) s (turns + 1)] ∧ t' = turns + 1, _, ⟨0, rfl⟩, HX.go fun w ro hx => (S_append_new hx n s hm h1 (by omega) (by omega) (by omega)).mono fun _ _ ⟨g1, c, ro', g2, g3⟩ => ⟨g1, _, _, ro', g2, g3, c, rfl, rfl⟩, hY, ?_⟩
        rintro A' t' L' c' n' ⟨c, rfl, rfl⟩ ⟨rfl, rfl, rfl⟩
        refine ⟨⟨stN st turns clock, ?_⟩, by rw [List.length_append]; simp; omega, by omega, by omega, by omega⟩
        have hmo := hc.more (A' := A ++ [appA (newF n c) s (turns + 1)]) (n := n) (f0 := newF n c) (f' := appA (newF n c) s (turns + 1)) (bs := []) (s := s) (mt_none st n c clock) (Or.inl ⟨rfl, fun b hb => by cases hb⟩) rfl rfl rfl (fun m => lk_snoc (appA (newF n c) s (turns + 1)) m A h1)
        rw [List.nil_append] at hmo
        exact hmo
    · have hF := hok.1 f (lk_mem h1).1
      have hlen := hM.len
      by_cases hlong : 4194304 < f.bs.length + s.size
      · exact ⟨_, _, _, ⟨_, rfl⟩, HX.same fun w ro hx => S_append_long hx n s hm f h1 hlong, HY.same fun w hy => rd_append_long hy (by omega) n s hm bs h2 (by have := hF.mx; omega) (by omega), ok_same h⟩
      · have hY : HY 26 #[.pointer (some ⟨Dy, 0, none⟩), .string n, .string s] (.int .i64 0) base Dx Dy L clock cnt S b d (fun L' c' n' => L' = updL L n (some (bs ++ stR s.data.toList clock)) ∧ c' = clock + s.size ∧ n' = cnt) := HY.go fun w hy => (rd_append hy (by omega) n s hm bs h2 (by omega) (by omega)).mono fun _ _ ⟨g1, S', g2, g3⟩ => ⟨g1, _, _, _, S', g2, g3, rfl, rfl, rfl⟩
        by_cases h0 : s.size = 0
        · have e := empty_of h0
          refine ⟨_, fun A' t' => A' = A ∧ t' = turns, _, ⟨0, rfl⟩, HX.same fun w ro hx => ?_, hY, ?_⟩
          · rw [e]
            exact S_append_none hx n hm f h1
          · rintro A' t' L' c' n' ⟨rfl, rfl⟩ ⟨rfl, rfl, rfl⟩
            refine ⟨⟨st, ?_⟩, by omega, by omega, by omega, by omega⟩
            have e2 : stR s.data.toList clock = [] := by rw [e]; rfl
            have e3 : updL L n (some bs) = L := by
              funext m
              unfold updL
              by_cases c : m = n
              · rw [if_pos c, c, h2]
              · rw [if_neg c]
            rw [e2, h0, List.append_nil, e3]
            exact hc
        · refine ⟨_, fun A' t' => A' = setF A (appA f s (turns + 1)) ∧ t' = turns + 1, _, ⟨0, rfl⟩, HX.go fun w ro hx => (S_append hx n s hm f h1 (by omega) (by omega) (by omega)).mono fun _ _ ⟨g1, ro', g2, g3⟩ => ⟨g1, _, _, ro', g2, g3, rfl, rfl⟩, hY, ?_⟩
          rintro A' t' L' c' n' ⟨rfl, rfl⟩ ⟨rfl, rfl, rfl⟩
          exact ⟨⟨_, hc.more (f' := appA f s (turns + 1)) hM (Or.inr ⟨h1, h2⟩) rfl rfl rfl (fun m => lk_setF (f' := appA f s (turns + 1)) hok.2.1 h1 rfl rfl m)⟩, by unfold setF; rw [List.length_map]; omega, by omega, by omega, by omega⟩
end
end Go.Proofs.Ytpbkpaendhpbfaa
