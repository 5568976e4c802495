/-
  What a crash leaves of the program's disk, as plain data. No condition.
-/
import Derived.Test.YtkdglkaeglhibaaGreatDoorPKPieces
namespace Go.Proofs.YtkdglkaeglhibaaGreatDoor
open Go.RowKit Go.Sort

/-- How much of a file's pieces is kept; how much may still be kept behind them; how much there is of a file's. -/
def keptA : List P3 → Nat → Nat → Nat
  | [], _, _ => 0
  | x :: r, K, c => (if x.2.2 = c then min x.2.1 K else 0) + keptA r (K - min x.2.1 K) c
def leftA : List P3 → Nat → Nat
  | [], K => K
  | x :: r, K => leftA r (K - min x.2.1 K)
def sumC : List P3 → Nat → Nat
  | [], _ => 0
  | x :: r, c => (if x.2.2 = c then x.2.1 else 0) + sumC r c
theorem keptA_snoc (x : P3) (c : Nat) : ∀ (d : List P3) (K : Nat), keptA (d ++ [x]) K c = keptA d K c + (if x.2.2 = c then min x.2.1 (leftA d K) else 0)
  | [], K => by simp [keptA, leftA]
  | y :: d, K => by
    rw [List.cons_append]
    simp only [keptA, leftA]
    rw [keptA_snoc x c d]
    omega
theorem leftA_snoc (x : P3) : ∀ (d : List P3) (K : Nat), leftA (d ++ [x]) K = leftA d K - min x.2.1 (leftA d K)
  | [], K => by simp [leftA]
  | y :: d, K => by
    rw [List.cons_append]
    simp only [leftA]
    rw [leftA_snoc x d]
theorem leftA_le : ∀ (d : List P3) (K : Nat), leftA d K ≤ K
  | [], K => Nat.le_refl _
  | y :: d, K => by
    simp only [leftA]
    have := leftA_le d (K - min y.2.1 K)
    omega
theorem keptA_le (c : Nat) : ∀ (d : List P3) (K : Nat), keptA d K c ≤ sumC d c
  | [], K => Nat.le_refl _
  | y :: d, K => by
    simp only [keptA, sumC]
    have := keptA_le c d (K - min y.2.1 K)
    by_cases h : y.2.2 = c
    · rw [if_pos h, if_pos h]
      omega
    · rw [if_neg h, if_neg h]
      omega
theorem sumC_append (c : Nat) : ∀ (d e : List P3), sumC (d ++ e) c = sumC d c + sumC e c
  | [], e => by simp [sumC]
  | y :: d, e => by
    rw [List.cons_append]
    simp only [sumC]
    rw [sumC_append c d e]
    omega
theorem sumC_take (c k : Nat) (d : List P3) : sumC (d.take k) c ≤ sumC d c := by
  have h := sumC_append c (d.take k) (d.drop k)
  rw [List.take_append_drop] at h
  omega
theorem sumC_perm (c : Nat) {d e : List P3} (h : d.Perm e) : sumC d c = sumC e c := by
  induction h with
  | nil => rfl
  | cons x _ ih => simp only [sumC, ih]
  | swap x y l => simp only [sumC]; omega
  | trans _ _ h1 h2 => exact h1.trans h2
theorem sumC_other {c : Nat} : ∀ (d : List P3), (∀ x ∈ d, x.2.2 ≠ c) → sumC d c = 0
  | [], _ => rfl
  | y :: d, h => by
    simp only [sumC]
    rw [if_neg (h y (by simp)), sumC_other d (fun x hx => h x (by simp [hx]))]
theorem sumC_own (f : CF) : sumC (p3 f) f.c = tot f.ps := by
  unfold p3 tot
  generalize f.ps = ps
  induction ps with
  | nil => rfl
  | cons p ps ih =>
    simp only [List.map_cons, List.sum_cons, sumC]
    rw [if_pos trivial, ih]
theorem p3_c {f : CF} {x : P3} (h : x ∈ p3 f) : x.2.2 = f.c := by
  unfold p3 at h
  obtain ⟨p, _, rfl⟩ := List.mem_map.1 h
  rfl
theorem sumC_all {l : List CF} (hn : (l.map (·.c)).Nodup) {f : CF} (hf : f ∈ l) : sumC (allP l) f.c = tot f.ps := by
  induction l with
  | nil => simp at hf
  | cons g l ih =>
    rw [List.map_cons, List.nodup_cons] at hn
    unfold allP at ih ⊢
    rw [List.flatMap_cons, sumC_append]
    rcases List.mem_cons.1 hf with e | hf2
    · subst e
      rw [sumC_own, sumC_other _ (fun x hx => ?_)]
      · rfl
      · obtain ⟨h, hh, hx⟩ := List.mem_flatMap.1 hx
        rw [p3_c hx]
        intro e
        exact hn.1 (by rw [← e]; exact List.mem_map.2 ⟨h, hh, rfl⟩)
    · rw [ih hn.2 hf2, sumC_other _ (fun x hx => ?_)]
      · omega
      · rw [p3_c hx]
        intro e
        exact hn.1 (by rw [e]; exact List.mem_map.2 ⟨f, hf2, rfl⟩)
theorem p3_size {l : List CF} {x : P3} (h : x ∈ allP l) : ∃ f ∈ l, f.c = x.2.2 ∧ (x.1, x.2.1) ∈ f.ps := by
  obtain ⟨f, hf, hx⟩ := List.mem_flatMap.1 h
  unfold p3 at hx
  obtain ⟨p, hp, rfl⟩ := List.mem_map.1 hx
  exact ⟨f, hf, rfl, hp⟩
theorem tot_mem : ∀ {ps : List (Nat × Nat)} {p : Nat × Nat}, p ∈ ps → p.2 ≤ tot ps
  | q :: ps, p, h => by
    unfold tot
    rw [List.map_cons, List.sum_cons]
    rcases List.mem_cons.1 h with rfl | h
    · omega
    · have := tot_mem h
      unfold tot at this
      omega
/-- How many bytes of a file are sure behind the crash. -/
def sureN (d : List P3) (K : Nat) (f : CF) : Nat := f.sure + keptA d K f.c
def cutV : Value → Nat → Value
  | .slice a _ cap, n => .slice a n cap
  | v, _ => v
def crashF (d : List P3) (K : Nat) (f : CF) : CF := { f with bv := cutV f.bv (sureN d K f), lv := .slice none 0 0, bs := f.bs.take (sureN d K f), sure := sureN d K f, ps := [] }

/-- While the pieces are gone over: world wp behind the pieces, wr now. -/
structure CInv (wp wr : World) (l : List CF) (s : CF → Nat) : Prop where
  co : ∀ f ∈ l, wr.heap[f.c]? = some (.cells #[f.bv, .int .i64 (s f : Int), f.lv] 65 (0, 0))
  oth : ∀ b, b < wp.heap.size → (∀ f ∈ l, b ≠ f.c) → wr.heap[b]? = wp.heap[b]?
  os : wr.os = wp.os
  tape : wr.tape = wp.tape
  output : wr.output = wp.output
  size : wp.heap.size ≤ wr.heap.size
theorem CInv.step {wp wr : World} {l : List CF} {s s' : CF → Nat} (I : CInv wp wr l s) (hn : (l.map (·.c)).Nodup) {f : CF} (hf : f ∈ l) (hs : ∀ g ∈ l, g.c ≠ f.c → s' g = s g) (o : Obj) :
    CInv wp ((wr.setCell ⟨f.c, 1, none⟩ (.int .i64 (s' f : Int))).alloc o) l s' := by
  have hlt : ∀ g ∈ l, g.c < wr.heap.size := fun g hg => lt_of_block (I.co g hg)
  refine ⟨fun g hg => ?_, fun b hb hne => ?_, I.os, I.tape, I.output, by simp; have := I.size; omega⟩
  · rw [heap_alloc_old _ _ (by simpa using hlt g hg)]
    by_cases e : g.c = f.c
    · have := nodup_at hn hf hg e
      subst this
      rw [heap_setCell_same wr g.c 1 _ _ _ (I.co g hg)]
      rfl
    · rw [heap_setCell_other _ _ _ _ (by simpa using e), hs g hg e]
      exact I.co g hg
  · have := I.size
    rw [heap_alloc_old _ _ (by simp; omega), heap_setCell_other _ _ _ _ (by simpa using hne f hf)]
    exact I.oth b hb hne

/-- While the files are cut: 'left' is still to come. -/
structure DInv (wq wr : World) (mo : Option Nat) (r : Nat) (l : List CF) (s : CF → Nat) (left : List CF) : Prop where
  rg : Ranging wr mo r (nmL l) (nmL left)
  mem : ∀ f ∈ left, f ∈ l
  nd : (left.map (·.c)).Nodup
  co : ∀ f ∈ l, f.c ∈ left.map (·.c) → wr.heap[f.c]? = some (.cells #[f.bv, .int .i64 (s f : Int), f.lv] 65 (0, 0))
  cu : ∀ f ∈ l, ¬ f.c ∈ left.map (·.c) → wr.heap[f.c]? = some (.cells #[cutV f.bv (s f), .int .i64 (s f : Int), .slice none 0 0] 65 (0, 0))
  oth : ∀ b, b < wq.heap.size → (∀ f ∈ l, b ≠ f.c) → b ≠ r → wr.heap[b]? = wq.heap[b]?
  os : wr.os = wq.os
  tape : wr.tape = wq.tape
  output : wr.output = wq.output
  size : wq.heap.size ≤ wr.heap.size
theorem DInv.step {wq wr w2 : World} {mo : Option Nat} {r : Nat} {l : List CF} {s : CF → Nat} {LA LB : List CF} {f : CF} (I : DInv wq wr mo r l s (LA ++ f :: LB)) (hn : (l.map (·.c)).Nodup) (hrg : Ranging w2 mo r (nmL l) (nmL (LA ++ LB))) (hg2 : wr.grownBy w2 (some r)) (hs2 : w2.heap.size = wr.heap.size)
    (hr : ∀ g ∈ l, g.c ≠ r) (hM : ∀ M, mo = some M → M < wq.heap.size ∧ ∀ g ∈ l, M ≠ g.c) : DInv wq ((w2.setCell ⟨f.c, 0, none⟩ (cutV f.bv (s f))).setCell ⟨f.c, 2, none⟩ (.slice none 0 0)) mo r l s (LA ++ LB) := by
  have hfl : f ∈ l := I.mem f (by simp)
  have hfc : f.c ∈ (LA ++ f :: LB).map (·.c) := List.mem_map.2 ⟨f, by simp, rfl⟩
  have hlt : ∀ g ∈ l, g.c < wr.heap.size := fun g hg => by
    by_cases e : g.c ∈ (LA ++ f :: LB).map (·.c)
    · exact lt_of_block (I.co g hg e)
    · exact lt_of_block (I.cu g hg e)
  have k2 : ∀ g ∈ l, w2.heap[g.c]? = wr.heap[g.c]? := fun g hg => hg2.block g.c (hlt g hg) (by simpa using hr g hg)
  have bo : ∀ b, b ≠ f.c → ((w2.setCell ⟨f.c, 0, none⟩ (cutV f.bv (s f))).setCell ⟨f.c, 2, none⟩ (.slice none 0 0)).heap[b]? = w2.heap[b]? := fun b hb => by
    rw [heap_setCell_other _ _ _ _ (by simpa using hb), heap_setCell_other _ _ _ _ (by simpa using hb)]
  have hnd : ((LA ++ LB).map (·.c)).Nodup ∧ ¬ f.c ∈ (LA ++ LB).map (·.c) := by
    have h1 := I.nd
    rw [List.map_append, List.map_cons] at h1
    have h2 := (List.perm_middle (a := f.c) (l₁ := LA.map (·.c)) (l₂ := LB.map (·.c))).nodup_iff.1 h1
    rw [List.nodup_cons] at h2
    rw [List.map_append]
    exact ⟨h2.2, h2.1⟩
  have mem_of : ∀ g : CF, g.c ≠ f.c → (g.c ∈ (LA ++ f :: LB).map (·.c) ↔ g.c ∈ (LA ++ LB).map (·.c)) := fun g hg => by
    simp only [List.map_append, List.map_cons, List.mem_append, List.mem_cons]
    constructor
    · rintro (h | h | h)
      · exact Or.inl h
      · exact absurd h hg
      · exact Or.inr h
    · rintro (h | h)
      · exact Or.inl h
      · exact Or.inr (Or.inr h)
  refine ⟨hrg.kept (fun M e => bo M ((hM M e).2 f hfl)) (bo r (fun e => hr f hfl e.symm)), fun g hg => I.mem g ?_, hnd.1, fun g hg hm => ?_, fun g hg hm => ?_, fun b hb hne hbr => ?_, hg2.os.trans I.os, hg2.tape.trans I.tape, hg2.output.trans I.output, by simp; have := I.size; omega⟩
  · rcases List.mem_append.1 hg with h | h
    · exact List.mem_append_left _ h
    · exact List.mem_append_right _ (List.mem_cons_of_mem _ h)
  · have e : g.c ≠ f.c := fun e => hnd.2 (by rw [← e]; exact hm)
    rw [bo g.c e, k2 g hg]
    exact I.co g hg ((mem_of g e).2 hm)
  · by_cases e : g.c = f.c
    · have := nodup_at hn hfl hg e
      subst this
      have b0 := (k2 g hg).trans (I.co g hg hfc)
      have b1 := heap_setCell_same w2 g.c 0 _ _ (cutV g.bv (s g)) b0
      rw [heap_setCell_same _ g.c 2 _ _ _ b1]
      rfl
    · rw [bo g.c e, k2 g hg]
      exact I.cu g hg (fun h => hm ((mem_of g e).1 h))
  · rw [bo b (hne f hfl)]
    have := I.size
    rw [hg2.block b (by omega) (by simpa using hbr)]
    exact I.oth b hb hne hbr
theorem cut_own {w w' : World} {base n m : Nat} {v : Value} {bs : List UInt8} (h : w.ownsRow base 5 1 v n (Lib.byteCells bs)) (hn : bs.length = n) (hm : m ≤ n) (hk : ∀ g, v.ownBlock = some g → w'.heap[g]? = w.heap[g]?) : w'.ownsRow base 5 1 (cutV v m) (bs.take m).length (Lib.byteCells (bs.take m)) := by
  have e1 : (bs.take m).length = m := by rw [List.length_take]; omega
  have e2 : Lib.byteCells (bs.take m) = (Lib.byteCells bs).take m := by simp [Lib.byteCells, List.map_take]
  rw [e1, e2]
  refine ⟨by rw [List.length_take, h.1]; omega, ?_⟩
  rcases h.2 with ⟨rfl, h0⟩ | ⟨g, cap, cur, rfl, h2, h3, h4, h5, h6, h7⟩
  · left
    have : m = 0 := by omega
    subst this
    exact ⟨rfl, rfl⟩
  · right
    refine ⟨g, cap, cur, rfl, h2, (hk g rfl).trans h3, by omega, h5, h6, ?_⟩
    rw [← h7, List.take_take]
    congr 1
    omega
theorem cut_block (v : Value) (n : Nat) : (cutV v n).ownBlock = v.ownBlock := by
  cases v with
  | slice a len cap => cases a <;> rfl
  | _ => rfl
/-- The end of a crash. -/
theorem crash_end {w wp wq wr : World} {base D : Nat} {l : List CF} {turns : Nat} {mo : Option Nat} {ro : Nat → Option Nat} {d : List P3} {K r : Nat} (h : CdAt w base D l turns mo ro) (hp : d.Perm (allP l)) (hwp : Below w.heap.size w wp) (I : CInv wp wq l (sureN d K)) (hr : wq.heap.size = r) (J : DInv wq wr mo r l (sureN d K) []) :
    CdAt wr base D (l.map (crashF d K)) turns mo ro ∧ Ext w wr ro ro := by
  have lt : ∀ b x, ro b = some x → b < w.heap.size := fun b x e => (h.bd b (by rw [e]; simp)).2
  have sz1 := hwp.size
  have sz2 := I.size
  have ko : ∀ b, b < w.heap.size → (∀ f ∈ l, b ≠ f.c) → wr.heap[b]? = w.heap[b]? := fun b hb hne => by
    rw [J.oth b (by omega) hne (by omega), I.oth b (by omega) hne]
    exact hwp.block b hb
  have hle : ∀ f ∈ l, sureN d K f ≤ f.bs.length := fun f hf => by
    unfold sureN
    have h1 := keptA_le f.c d K
    rw [sumC_perm f.c hp, sumC_all h.nd hf] at h1
    have h2 := (h.each f hf).sm
    omega
  have hcs : (l.map (crashF d K)).map (·.c) = l.map (·.c) := by
    rw [List.map_map]
    rfl
  have hnm : nmL (l.map (crashF d K)) = nmL l := by
    unfold nmL
    rw [List.map_map]
    rfl
  refine ⟨⟨(ko D (lt D D h.rD) (fun f hf e => h.neD hf e.symm)).trans h.bl, ?_, fun f' hf' => ?_, h.rD, h.rM, by rw [hcs]; exact h.nd, fun b hb => ⟨(h.bd b hb).1, by have := (h.bd b hb).2; have := J.size; omega⟩⟩, J.os.trans (I.os.trans hwp.os), J.tape.trans (I.tape.trans hwp.tape), J.output.trans (I.output.trans hwp.output), by have := J.size; omega, fun _ _ => rfl, fun b hb hro => ko b hb ?_⟩
  · rw [hnm]
    cases hm : mo with
    | none =>
      have := h.mp
      rw [hm] at this
      exact this
    | some M =>
      have := h.mp
      rw [hm] at this
      refine MapAt.kept this (ko M (lt M D (h.rM M hm)) (fun f hf e => ?_))
      have h1 := (h.each f hf).rc
      rw [← e, h.rM M hm] at h1
      exact h.neD hf (by rw [← e]; exact (Option.some.inj h1).symm)
  · obtain ⟨f, hf, rfl⟩ := List.mem_map.1 hf'
    have hF := h.each f hf
    have hg : ∀ g, f.bv.ownBlock = some g → wr.heap[g]? = w.heap[g]? := fun g e => ko g (lt g _ (hF.ob g e)) (fun f2 hf2 e2 => by
      have h2 := (h.each f2 hf2).bl
      rw [← e2] at h2
      exact own_ne hF.rb h2 (by decide) e)
    refine ⟨J.cu f hf (by simp), cut_own hF.rb rfl (hle f hf) hg, World.ownsRow_nil _ _ _ _, hF.rc, fun g e => hF.ob g ?_, fun g e => by simp [crashF, Value.ownBlock] at e, ?_, ?_, fun p hp => by simp [crashF] at hp, hF.sz⟩
    · change (cutV f.bv (sureN d K f)).ownBlock = some g at e
      rw [cut_block] at e
      exact e
    · show (f.bs.take (sureN d K f)).length ≤ 4194304
      rw [List.length_take]
      have := hF.mx
      omega
    · show sureN d K f + tot [] = (f.bs.take (sureN d K f)).length
      rw [List.length_take]
      have := hle f hf
      simp [tot]
      omega
  · intro f hf e
    have h1 := (h.each f hf).rc
    rw [← e, hro] at h1
    simp at h1
end Go.Proofs.YtkdglkaeglhibaaGreatDoor
