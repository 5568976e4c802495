/-
  Parts of the proof, laid together: FoStore, DuNone, FoNone. The conditions stand at each part.
-/
import Derived.Test.YtodnnhidljfilaaGreatDoorFPackR
import Derived.Test.YtodnnhidljfilaaGreatDoorFPackS
import Derived.Test.YtodnnhidljfilaaGreatDoorFPack2
import Derived.Test.YtodnnhidljfilaaGreatDoorFPack3
/-
  Package durable: a store on a disk that has a log alone: opened, put to, told. The conditions: at most 300 records at a time; the library's own.
-/
namespace Go.Proofs.YtodnnhidljfilaaGreatDoor
open Go.Shelf Go.RowKit Go.Lib Go.Sort

abbrev stL (D L : Nat) : List Value := [.pointer (some ⟨D, 0, none⟩), .pointer (some ⟨L, 0, none⟩)]
/-- A store: its block, its log, its state. -/
structure StS (w : World) (base S L D k : Nat) (A : List CF) (t : Nat) (ro : Nat → Option Nat) (d : Du) (v : Value) : Prop where
  lg : LgS w base L D k A t ro
  st : DxAt w S 87 (stL D L) d v
  own : OwnEn w base v d.es
  roS : ro S = none
  neL : S ≠ L
  roV : ∀ g, v.ownBlock = some g → ro g = none ∧ g ≠ L
  lo : base ≤ S
  up : Rises d.b d.es
section
variable {w w' : World} {base S L D k k' : Nat} {A A' : List CF} {t t' : Nat} {ro ro' : Nat → Option Nat} {d d' : Du} {v v' : Value}
theorem StS.extL (h : StS w base S L D k A t ro d v) (hl : LgS w' base L D k' A' t' ro') (x : ExtL w w' ro ro' L) : StS w' base S L D k' A' t' ro' d v :=
  ⟨hl, (x.kept S (lt_of_block h.st) h.roS h.neL).trans h.st, own_keep h.own fun g e => x.kept g (h.own.lt g e).2 (h.roV g e).1 (h.roV g e).2, (x.old S (lt_of_block h.st)).trans h.roS, h.neL, fun g e => ⟨(x.old g (h.own.lt g e).2).trans (h.roV g e).1, (h.roV g e).2⟩, h.lo, h.up⟩
theorem StS.fresh (h : StS w base S L D k A t ro d v) (b : Below w.heap.size w w') : StS w' base S L D k A t ro d v := h.extL (h.lg.fresh b) (ExtL.of (Ext.of_below b))
theorem StS.folded (h : StS w base S L D k A t ro d v) (f : Fr w w' S v.ownBlock) (hd : DxAt w' S 87 (stL D L) d' v') (ho : OwnEn w' base v' d'.es) (hv : ∀ g, v'.ownBlock = some g → v.ownBlock = some g ∨ w.heap.size ≤ g) (hu : Rises d'.b d'.es) : StS w' base S L D k A t ro d' v' := by
  have hdk : DkS w' base D A t ro := h.lg.dk.keep f.size fun b hb => f.rest b (h.lg.dk.bd b hb).2 (fun e => hb (by rw [e]; exact h.roS)) (fun e => hb (h.roV b e).1)
  refine ⟨⟨hdk, (f.rest L h.lg.lt (fun e => h.neL e.symm) (fun e => (h.roV L e).2 rfl)).trans h.lg.lg, h.lg.out, h.lg.lo⟩, hd, ho, h.roS, h.neL, fun g hg => ?_, h.lo, hu⟩
  rcases hv g hg with h1 | h1
  · exact h.roV g h1
  · refine ⟨?_, fun e => by have := h.lg.lt; omega⟩
    cases hr : ro g with
    | none => rfl
    | some x =>
      have := (h.lg.dk.bd g (by rw [hr]; simp)).2
      omega
theorem StS.below (h : StS w base S L D k A t ro d v) (f : Fr w w' S v.ownBlock) : Below base w w' := f.below h.lo (Nat.le_trans h.lo (Nat.le_of_lt (lt_of_block h.st))) fun g e => (h.own.lt g e).1
end
abbrev du0 : Du := ⟨0, 0, ⟨#[]⟩, []⟩
theorem du0_sz : SzD du0 := ⟨by show (0 : Nat) ≤ _; omega, fun e he => by cases he⟩
section
variable {w : World} {base S L D k : Nat} {A : List CF} {t : Nat} {ro : Nat → Option Nat} {d : Du} {v : Value}
set_option maxHeartbeats 6400000 in
set_option maxRecDepth 100000 in
/-- What an opening leaves, whatever the log's own opening tells. -/
theorem open_by {l : List Rc} {Q : World → Nat → Prop} (ql : Calls Tryz.prog 39 #[.pointer (some ⟨D, 0, none⟩)] w fun e w' => e = .returned (.tuple #[.int .i64 0, .string ⟨#[]⟩, .int .i64 5]) ∧ Below w.heap.size w w')
    (qo : ∀ w1, Below w.heap.size w w1 → Calls Tryz.prog 40 #[.pointer (some ⟨D, 0, none⟩)] w1 fun e w' => ∃ L lv, e = .returned (.tuple #[.pointer (some ⟨L, 0, none⟩), lv, .int .i64 0]) ∧ RowAt rcC w' lv l ∧ Q w' L) (hl : l.length ≤ 536870912) (hs : SzR l) :
    Calls Tryz.prog 18 #[.pointer (some ⟨D, 0, none⟩)] w fun e w' => ∃ (S L : Nat) (v : Value) (w2 : World), e = .returned (.tuple #[.pointer (some ⟨S, 0, none⟩), .int .i64 0]) ∧ Q w2 L ∧ DxAt w' S 87 (stL D L) (foldD du0 l) v ∧ OwnEn w' w2.heap.size v (foldD du0 l).es ∧ w2.heap.size ≤ S ∧ (∀ g, v.ownBlock = some g → g ≠ S) ∧ Below w2.heap.size w2 w' := by
  go_enter Tryz.func18, Tryz.ntmps18
  go_wp2_with (first
    | (show wpList _ _ _ (⟨_, Op.load 24 _, _, _, _, _⟩ :: _) _ _; refine load_row_g rfl 24 _ rfl w3.heap.size rfl 24 (duA (foldD du0 l) (.slice p3 n3 c3)) (0, 0) _ D3.out Tryz.underlying24 rfl sizeDu ?_)
    | (go_at_call 10; refine (pFold_any _ du0 (.slice none 0 0) _ l (RowAt.nil _) R2.out (rises_nil _) (by show (0 : Nat) ≤ _; omega) hl du0_sz hs).mono ?_; rintro e w3 ⟨v3, rfl, o3, b3⟩; obtain ⟨p3, n3, c3, rfl⟩ := own_form o3; have D3 : Hid (DuAt (w3.alloc (.cells (duA (foldD du0 l) (.slice p3 n3 c3)) 24)) w3.heap.size (foldD du0 l) (.slice p3 n3 c3)) := heap_alloc_new w3 _; have O3 : Hid _ := o3; have B3 : Hid _ := b3; clear o3 b3)
    | (go_at_call 40; refine (qo _ B1.out).mono ?_; rintro e w2 ⟨L, lv, rfl, r2, q2⟩; obtain ⟨la, lc, rfl⟩ := r2.form; have R2 : Hid _ := r2; have Q2 : Hid _ := q2; clear r2 q2)
    | (go_at_call 39; refine ql.mono ?_; rintro e w1 ⟨rfl, b1⟩; have B1 : Hid _ := b1; clear b1))
  go_ret2
  have bb : Below w3.heap.size w3 ((w3.alloc (.cells (duA (foldD du0 l) (.slice p3 n3 c3)) 24)).alloc (.cells #[.pointer (some ⟨D, 0, none⟩), .pointer (some ⟨L, 0, none⟩), .int .i64 (foldD du0 l).p, .int .i64 (foldD du0 l).b, .string (foldD du0 l).s, .slice p3 n3 c3] 87)) := ((Below.refl _ w3).alloc (Nat.le_refl _) _).alloc (by simp) _
  refine ⟨w3.heap.size + 1, L, .slice p3 n3 c3, w2, rfl, Q2.out, (two_blocks w3 _ _).2.trans (heap_alloc_new _ _), own_keep O3.out (fun g e => bb.block g (World.ownsRow.lt O3.out g e).2), by have := B3.out.size; omega, fun g e => by have := (World.ownsRow.lt O3.out g e).2; omega, bmm B3.out B3.out.size bb⟩
/-- A store on a disk with nothing on it. -/
theorem popen0 {B : Nat} (h : DkS w base D [] t ro) (hE : Env w B) : Calls Tryz.prog 18 #[.pointer (some ⟨D, 0, none⟩)] w fun e w' => ∃ (S L : Nat) (v : Value), e = .returned (.tuple #[.pointer (some ⟨S, 0, none⟩), .int .i64 0]) ∧ StS w' base S L D 0 [] t ro du0 v ∧ Below w.heap.size w w' := by
  refine (open_by (l := []) (Q := fun w2 L => LgS w2 base L D 0 [] t ro ∧ Below w.heap.size w w2) (pload_no h hE rfl) (fun w1 b1 => (open_zero (h.fresh b1)).mono fun e w' ⟨L, h1, h2, h3⟩ => ⟨L, _, h1, RowAt.nil _, h2, bmm b1 b1.size h3⟩) (by simp) (fun r hr => by cases hr)).mono ?_
  rintro e w' ⟨S, L, v, w2, rfl, ⟨hl, hb⟩, hx, ho, hs, hv, b2⟩
  have hlt := hl.lt
  have hb0 := hl.base
  have nn : ∀ b, w2.heap.size ≤ b → ro b = none := fun b hb => by
    cases hr : ro b with
    | none => rfl
    | some x =>
      have := (hl.dk.bd b (by rw [hr]; simp)).2
      omega
  exact ⟨S, L, v, rfl, ⟨hl.fresh b2, hx, own_mono ho hb0, nn S hs, by omega, fun g hg => ⟨nn g (ho.lt g hg).1, by have := (ho.lt g hg).1; omega⟩, by omega, rises_nil _⟩, bmm hb hb.size b2⟩
/-- A store behind a crash. -/
theorem popenC {B : Nat} {la lb : List Rc} {keep : Int} (h : DkS w base D A t ro) (hC : StC la lb keep A) (ht : t ≤ 2) (hE : Env w B) (hl : (recs (crT la lb keep)).1.length ≤ 536870912) (hs : SzR (recs (crT la lb keep)).1) : Calls Tryz.prog 18 #[.pointer (some ⟨D, 0, none⟩)] w fun e w' => ∃ (S L : Nat) (v : Value) (ro' : Nat → Option Nat), e = .returned (.tuple #[.pointer (some ⟨S, 0, none⟩), .int .i64 0]) ∧ w.heap.size ≤ S ∧ DxAt w' S 87 (stL D L) (foldD du0 (recs (crT la lb keep)).1) v ∧ OwnEn w' w.heap.size v (foldD du0 (recs (crT la lb keep)).1).es ∧ Ext w w' ro ro' := by
  have hn : lk A snapB = none := by
    rcases hC with ⟨_, _, e3⟩ | ⟨c, e3⟩
    · rw [e3]
      rfl
    · rw [e3]
      exact lk_other (by decide) _ _ _ _
  refine (open_by (Q := fun w2 _ => ∃ ro', Ext w w2 ro ro') (pload_no h hE hn) (fun w1 b1 => (openSX (h.fresh b1) hC ht (hE.fresh b1).tab).mono fun e w' ⟨L, v, ro', h1, h2, h3⟩ => ⟨L, v, h1, h2, ro', (Ext.of_below b1).trans h3⟩) hl hs).mono ?_
  rintro e w' ⟨S, L, v, w2, rfl, ⟨ro', hx2⟩, hx, ho, hs, hv, b2⟩
  have := hx2.size
  exact ⟨S, L, v, ro', rfl, by omega, hx, own_mono ho (by omega), hx2.trans (Ext.of_below b2)⟩
set_option maxHeartbeats 6400000 in
set_option maxRecDepth 100000 in
theorem put_sync {P : Nat → List CF → Nat → Prop} {lv : Value} {l : List Rc} (h : StS w base S L D k A t ro d v) (hv : RowO w ro L lv l) (hsep : ∀ bk off n cap, 0 < n → lv = .slice (some ⟨bk, off, none⟩) n cap → bk ≠ S ∧ v.ownBlock ≠ some bk)
    (qc : Calls Tryz.prog 43 #[.pointer (some ⟨L, 0, none⟩), lv] w fun e w' => e = .returned (.int .i64 0) ∧ ∃ k' A' t' ro', LgS w' base L D k' A' t' ro' ∧ P k' A' t' ∧ Below base w w' ∧ ExtL w w' ro ro' L) (hl : d.es.length ≤ 536870912) (hm : l.length ≤ 536870912) (hs : SzR l) :
    Calls Tryz.prog 20 #[.pointer (some ⟨S, 0, none⟩), lv, .bool false] w fun e w' => e = .returned (.int .i64 0) ∧ ∃ k' A' t' ro' v', StS w' base S L D k' A' t' ro' (foldD d l) v' ∧ P k' A' t' ∧ Below base w w' := by
  obtain ⟨la, lc, rfl⟩ := hv.row.form
  have c1 : w.cell? ⟨S, 1, none⟩ = some (.pointer (some ⟨L, 0, none⟩)) := by simp [World.cell?, h.st]
  have H : Hid _ := h
  have HV : Hid _ := hv
  have SP : Hid _ := hsep
  clear h hv hsep
  go_enter Tryz.func20, Tryz.ntmps20
  go_wp2_with (first
    | (go_at_call 34; refine (pfold_any _ base S 87 (stL D L) d v _ l H1.out.st (by decide) H1.out.lo H1.out.own R1.out (fun bk off n cap h0 e => SP.out bk off n cap h0 e) H1.out.up hl hm hs).mono ?_; rintro e w2 ⟨rfl, v2, d2, o2, l2, f2⟩; have H2 : Hid (StS w2 base S L D k1 A1 t1 ro1 (foldD d l) v2) := H1.out.folded f2 d2 o2 l2 (foldD_rises l H1.out.up); have B2 : Hid (Below base w w2) := B1.out.trans (H1.out.below f2); clear d2 o2 l2 f2)
    | (go_at_call 43; refine qc.mono ?_; rintro e w1 ⟨rfl, k1, A1, t1, ro1, g1, p1, b1, x1⟩; have H1 : Hid (StS w1 base S L D k1 A1 t1 ro1 d v) := H.out.extL g1 x1; have P1 : Hid _ := p1; have B1 : Hid _ := b1; have R1 : Hid (RowAt rcC w1 (.slice la l.length lc) l) := HV.out.row.keep x1.size (fun bk off n cap h0 e => x1.kept bk (HV.out.own bk off n cap h0 e).1 (HV.out.own bk off n cap h0 e).2.1 (HV.out.own bk off n cap h0 e).2.2); clear g1 p1 b1 x1))
  go_ret
  exact ⟨rfl, k1, A1, t1, ro1, v2, H2.out, P1.out, B2.out⟩
set_option maxHeartbeats 6400000 in
set_option maxRecDepth 100000 in
theorem put_alone {P : Nat → List CF → Nat → Prop} {lv : Value} {l : List Rc} (h : StS w base S L D k A t ro d v) (hv : RowO w ro L lv l) (hsep : ∀ bk off n cap, 0 < n → lv = .slice (some ⟨bk, off, none⟩) n cap → bk ≠ S ∧ v.ownBlock ≠ some bk)
    (qc : Calls Tryz.prog 44 #[.pointer (some ⟨L, 0, none⟩), lv] w fun e w' => e = .returned (.int .i64 0) ∧ ∃ k' A' t' ro', LgS w' base L D k' A' t' ro' ∧ P k' A' t' ∧ Below base w w' ∧ ExtL w w' ro ro' L) (hl : d.es.length ≤ 536870912) (hm : l.length ≤ 536870912) (hs : SzR l) :
    Calls Tryz.prog 20 #[.pointer (some ⟨S, 0, none⟩), lv, .bool true] w fun e w' => e = .returned (.int .i64 0) ∧ ∃ k' A' t' ro' v', StS w' base S L D k' A' t' ro' (foldD d l) v' ∧ P k' A' t' ∧ Below base w w' := by
  obtain ⟨la, lc, rfl⟩ := hv.row.form
  have c1 : w.cell? ⟨S, 1, none⟩ = some (.pointer (some ⟨L, 0, none⟩)) := by simp [World.cell?, h.st]
  have H : Hid _ := h
  have HV : Hid _ := hv
  have SP : Hid _ := hsep
  clear h hv hsep
  go_enter Tryz.func20, Tryz.ntmps20
  go_wp2_with (first
    | (go_at_call 34; refine (pfold_any _ base S 87 (stL D L) d v _ l H1.out.st (by decide) H1.out.lo H1.out.own R1.out (fun bk off n cap h0 e => SP.out bk off n cap h0 e) H1.out.up hl hm hs).mono ?_; rintro e w2 ⟨rfl, v2, d2, o2, l2, f2⟩; have H2 : Hid (StS w2 base S L D k1 A1 t1 ro1 (foldD d l) v2) := H1.out.folded f2 d2 o2 l2 (foldD_rises l H1.out.up); have B2 : Hid (Below base w w2) := B1.out.trans (H1.out.below f2); clear d2 o2 l2 f2)
    | (go_at_call 44; refine qc.mono ?_; rintro e w1 ⟨rfl, k1, A1, t1, ro1, g1, p1, b1, x1⟩; have H1 : Hid (StS w1 base S L D k1 A1 t1 ro1 d v) := H.out.extL g1 x1; have P1 : Hid _ := p1; have B1 : Hid _ := b1; have R1 : Hid (RowAt rcC w1 (.slice la l.length lc) l) := HV.out.row.keep x1.size (fun bk off n cap h0 e => x1.kept bk (HV.out.own bk off n cap h0 e).1 (HV.out.own bk off n cap h0 e).2.1 (HV.out.own bk off n cap h0 e).2.2); clear g1 p1 b1 x1))
  go_ret
  exact ⟨rfl, k1, A1, t1, ro1, v2, H2.out, P1.out, B2.out⟩
set_option maxHeartbeats 6400000 in
set_option maxRecDepth 100000 in
theorem pstate (hx : DxAt w S 87 (stL D L) d v) (ho : RowAt enC w v d.es) (hl : d.es.length ≤ 1099511627776) (hs : SzD d) :
    Calls Tryz.prog 26 #[.pointer (some ⟨S, 0, none⟩)] w fun e w' => ∃ v', e = .returned (.agg (duA d v')) ∧ OwnEn w' w.heap.size v' d.es ∧ Below w.heap.size w w' := by
  obtain ⟨W, hW⟩ : ∃ W, W = w.alloc (.cells #[.int .i64 0, .int .i64 0, .string ⟨#[]⟩, .slice none 0 0] 24) := ⟨_, rfl⟩
  have bW : Below w.heap.size w W := by rw [hW]; exact (Below.refl _ w).alloc (Nat.le_refl _) _
  have hZ : W.heap[w.heap.size]? = some (.cells #[.int .i64 0, .int .i64 0, .string ⟨#[]⟩, .slice none 0 0] 24 (0, 0)) := by rw [hW]; exact heap_alloc_new w _
  have hX : DxAt W S 87 (stL D L) d v := (bW.block _ (lt_of_block hx)).trans hx
  have c2 : W.cell? ⟨S, 2, none⟩ = some (.int .i64 d.p) := hX.c0
  have c3 : W.cell? ⟨S, 3, none⟩ = some (.int .i64 d.b) := hX.c1
  have c4 : W.cell? ⟨S, 4, none⟩ = some (.string d.s) := by simp [World.cell?, hX]
  have c5 : W.cell? ⟨S, 5, none⟩ = some v := hX.c3
  have q := clone_d W d v (ho.fresh bW) hl hs.s hs.es
  have BW : Hid _ := bW
  have HZ : Hid _ := hZ
  have HW : Hid (w.alloc (.cells #[.int .i64 0, .int .i64 0, .string ⟨#[]⟩, .slice none 0 0] 24) = W) := hW.symm
  clear hW bW hZ hX hx ho
  go_enter Tryz.func26, Tryz.ntmps26
  go_upto_region 1 with fail
  rw [HW.out]
  go_wp2_with (first
    | (show wpList _ _ _ (⟨_, Op.store 24 _ _, _, _, _, _⟩ :: _) _ _; refine store_row_g rfl 24 _ _ rfl w.heap.size (duA d (.slice p1 n1 q1)) rfl rfl 24 _ Z1.out sizeDu rfl (by simp [Value.oneCell']) ?_; intro w6 h6 g6)
    | (go_at_call 33; refine q.mono ?_; rintro e w1 ⟨v1, rfl, o1, b1⟩; obtain ⟨p1, n1, q1, rfl⟩ := own_form o1; have Z1 : Hid _ := (b1.block _ (lt_of_block HZ.out)).trans HZ.out; have O1 : Hid _ := o1; have B1 : Hid (Below w.heap.size w w1) := bmm BW.out BW.out.size b1; clear o1 b1))
  refine bodyPost_ret (results_cell_row Tryz.results26 _ _ w.heap.size 24 _ (0, 0) _ rfl h6 Tryz.underlying24 rfl sizeDu) rfl ?_
  have hlt := lt_of_block HZ.out
  refine ⟨_, rfl, own_mono (own_keep O1.out (fun g e => g6.block g (World.ownsRow.lt O1.out g e).2 (fun e2 => ?_))) (by omega), B1.out.grown g6 B1.out.size (fun k hk => by have := Option.some.inj hk; omega)⟩
  have := (World.ownsRow.lt O1.out g e).1
  have := Option.some.inj e2
  omega
end
end Go.Proofs.YtodnnhidljfilaaGreatDoor
