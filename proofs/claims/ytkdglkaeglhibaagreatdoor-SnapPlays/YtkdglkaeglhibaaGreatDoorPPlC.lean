/-
  The document's disk (package latchkeyref05) as a look-up of names: each call, what it answers and what it leaves. The conditions: at most 99999 files, each with at most 4194304 bytes.
-/
import Derived.Test.YtkdglkaeglhibaaGreatDoorPPlB
import Derived.Test.YtkdglkaeglhibaaGreatDoorPRkD
import Derived.Test.YtkdglkaeglhibaaGreatDoorPNtMem
namespace Go.Proofs.YtkdglkaeglhibaaGreatDoor
open Go.RowKit

abbrev Look : Type := ByteArray → Option (List BB)
def updL (L : Look) (n : ByteArray) (x : Option (List BB)) : Look := fun m => if m = n then x else L m
structure RD (w : World) (base D : Nat) (S : Nat → Prop) (L : Look) (clock cnt : Nat) : Prop where
  ex : ∃ (lv : List (Fl × Value)) (v : Value), DkAt w base D lv clock v ∧ lv.length ≤ cnt ∧ SortedN lv ∧ (∀ n, lkR lv n = L n) ∧ (∀ g, v.ownBlock = some g → S g) ∧ ∀ p ∈ lv, ∀ g, p.2.ownBlock = some g → S g
  sD : S D
  bd : ∀ b, S b → base ≤ b ∧ b < w.heap.size
section
variable {w w' : World} {base D : Nat} {S : Nat → Prop} {L L' : Look} {clock clock' cnt cnt' : Nat}
theorem RD.keep (h : RD w base D S L clock cnt) (hs : w.heap.size ≤ w'.heap.size) (hk : ∀ b, S b → w'.heap[b]? = w.heap[b]?) : RD w' base D S L clock cnt := by
  obtain ⟨lv, v, hd, h1, h2, h3, h4, h5⟩ := h.ex
  exact ⟨⟨lv, v, ⟨(hk D h.sD).trans hd.bl, own_keep hd.row (fun g e => hk g (h4 g e)), fun p hp => own_keep (hd.each p hp) (fun g e => hk g (h5 p hp g e)), hd.lo, hd.nD, hd.eD, hd.sep⟩, h1, h2, h3, h4, h5⟩, h.sD, fun b hb => ⟨(h.bd b hb).1, Nat.lt_of_lt_of_le (h.bd b hb).2 hs⟩⟩
theorem RD.fresh (h : RD w base D S L clock cnt) (k : Below w.heap.size w w') : RD w' base D S L clock cnt := h.keep k.size (fun b hb => k.block b (h.bd b hb).2)
theorem RD.mono (h : RD w base D S L clock cnt) (hc : cnt ≤ cnt') : RD w base D S L clock cnt' := by
  obtain ⟨lv, v, hd, h1, h2⟩ := h.ex
  exact ⟨⟨lv, v, hd, by omega, h2⟩, h.sD, h.bd⟩
theorem RD.upd (h : RD w base D S L clock cnt) {lv' : List (Fl × Value)} {v' : Value} (hd : DkAt w' base D lv' clock' v') (hc : lv'.length ≤ cnt') (hs : SortedN lv') (hl : ∀ n, lkR lv' n = L' n) (hv : ∀ g, v'.ownBlock = some g → S g ∨ w.heap.size ≤ g) (hp : ∀ p ∈ lv', ∀ g, p.2.ownBlock = some g → S g ∨ w.heap.size ≤ g)
    (hos : w'.os = w.os) (htp : w'.tape = w.tape) (hot : w'.output = w.output) (hsz : w.heap.size ≤ w'.heap.size) (hk : ∀ b, b < w.heap.size → ¬ S b → w'.heap[b]? = w.heap[b]?) : ∃ S', RD w' base D S' L' clock' cnt' ∧ Kept w w' S S' := by
  have hb := h.bd D h.sD
  refine ⟨fun b => S b ∨ (w.heap.size ≤ b ∧ b < w'.heap.size), ⟨⟨lv', v', hd, hc, hs, hl, fun g e => ?_, fun p hpp g e => ?_⟩, Or.inl h.sD, fun b hb => ?_⟩, ⟨hos, htp, hot, hsz, fun b hb => ?_, hk⟩⟩
  · rcases hv g e with h1 | h1
    · exact Or.inl h1
    · exact Or.inr ⟨h1, (hd.row.lt g e).2⟩
  · rcases hp p hpp g e with h1 | h1
    · exact Or.inl h1
    · exact Or.inr ⟨h1, ((hd.each p hpp).lt g e).2⟩
  · rcases hb with h1 | h1
    · exact ⟨(h.bd b h1).1, Nat.lt_of_lt_of_le (h.bd b h1).2 hsz⟩
    · exact ⟨by omega, h1.2⟩
  · rcases hb with h1 | h1
    · exact Or.inl h1
    · exact Or.inr h1.1
theorem RD.base_le (h : RD w base D S L clock cnt) : base ≤ w.heap.size := by have := h.bd D h.sD; omega
theorem Kept.belowR {S' : Nat → Prop} (h : RD w base D S L clock cnt) (k : Kept w w' S S') : Below base w w' :=
  ⟨k.os, k.tape, k.output, k.size, fun i hi => k.kept i (by have := h.base_le; omega) (fun hs => by have := h.bd i hs; omega)⟩
theorem RD.new (w : World) : RD (w.alloc (.cells #[.slice none 0 0, .int .i64 0] 28)) w.heap.size w.heap.size (fun b => b = w.heap.size) (fun _ => none) 0 0 :=
  ⟨⟨[], .slice none 0 0, ⟨heap_alloc_new w _, World.ownsRow_nil _ _ _ _, fun p hp => by simp at hp, Nat.le_refl _, by simp [Value.ownBlock], fun p hp => by simp at hp, List.Pairwise.nil⟩, Nat.le_refl _, List.Pairwise.nil, fun n => rfl, fun g e => by simp [Value.ownBlock] at e, fun p hp => by simp at hp⟩, rfl, fun b hb => by subst hb; exact ⟨Nat.le_refl _, by simp⟩⟩
theorem rd_sync (h : RD w base D S L clock cnt) (hc : cnt ≤ 99999) (n : ByteArray) (bs : List BB) (hn : L n = some bs) (hb : bs.length ≤ 4194304) : Calls Tryz.prog 25 #[.pointer (some ⟨D, 0, none⟩), .string n] w fun e w' => e = .returned (.int .i64 0) ∧ ∃ S', RD w' base D S' (updL L n (some (bs.map sureB))) clock cnt ∧ Kept w w' S S' := by
  obtain ⟨lv, v, hd, h1, h2, h3, h4, h5⟩ := h.ex
  obtain ⟨hp, rfl⟩ := place_some ((h3 n).trans hn)
  refine (rsync_yes w base D lv clock v n (by omega) hd _ hp (findI_yes hp) (by omega)).mono fun e w' ⟨g1, g2, g3⟩ => ⟨g1, ?_⟩
  have hnm := place_name n lv hp
  refine h.upd g2 (by rw [List.length_set]; exact h1) (sorted_names (names_set hp _ _) h2) (fun m => ?_) (fun g e => Or.inl (h4 g e)) (fun p hpp g e => ?_) g3.os g3.tape g3.output g3.size (fun b hb hs => g3.block b hb (fun e => hs (h5 _ (List.getElem_mem hp) b e.symm)))
  · rw [hnm, lkR_set n _ _ m lv hp, h3]
    rfl
  · rcases set_mem hpp with rfl | ⟨i, hi, _, rfl⟩
    · exact Or.inl (h5 _ (List.getElem_mem hp) g e)
    · exact Or.inl (h5 _ (List.getElem_mem hi) g e)
/-- Read, Unsynced. -/
theorem rd_read_no (h : RD w base D S L clock cnt) (hc : cnt ≤ 99999) (n : ByteArray) (hn : L n = none) : Calls Tryz.prog 35 #[.pointer (some ⟨D, 0, none⟩), .string n] w fun e w' => e = .returned (.tuple #[.string ⟨#[]⟩, .int .i64 5]) ∧ w = w' := by
  obtain ⟨lv, v, hd, h1, h2, h3, h4, h5⟩ := h.ex
  exact rread_no w base D lv clock v n (by omega) hd (findI_no (place_none (by rw [h3]; exact hn)))
theorem rd_read (h : RD w base D S L clock cnt) (hc : cnt ≤ 99999) (n : ByteArray) (bs : List BB) (hn : L n = some bs) (hb : bs.length ≤ 4194304) : Calls Tryz.prog 35 #[.pointer (some ⟨D, 0, none⟩), .string n] w fun e w' => e = .returned (.tuple #[.string (textOf (bytesR bs)), .int .i64 0]) ∧ Below w.heap.size w w' := by
  obtain ⟨lv, v, hd, h1, h2, h3, h4, h5⟩ := h.ex
  obtain ⟨hp, rfl⟩ := place_some ((h3 n).trans hn)
  exact rread_yes w base D lv clock v n (by omega) hd _ hp (findI_yes hp) (by omega)
/-- Remove. -/
theorem rd_remove_no (h : RD w base D S L clock cnt) (hc : cnt ≤ 99999) (n : ByteArray) (hn : L n = none) : Calls Tryz.prog 24 #[.pointer (some ⟨D, 0, none⟩), .string n] w fun e w' => e = .returned (.int .i64 5) ∧ w = w' := by
  obtain ⟨lv, v, hd, h1, h2, h3, h4, h5⟩ := h.ex
  exact rremove_no w base D lv clock v n (by omega) hd (findI_no (place_none (by rw [h3]; exact hn)))
theorem rd_remove (h : RD w base D S L clock cnt) (hc : cnt ≤ 99999) (n : ByteArray) (bs : List BB) (hn : L n = some bs) : Calls Tryz.prog 24 #[.pointer (some ⟨D, 0, none⟩), .string n] w fun e w' => e = .returned (.int .i64 0) ∧ ∃ S', RD w' base D S' (updL L n none) clock cnt ∧ Kept w w' S S' := by
  obtain ⟨lv, v, hd, h1, h2, h3, h4, h5⟩ := h.ex
  obtain ⟨hp, rfl⟩ := place_some ((h3 n).trans hn)
  refine (rremove_yes w base D lv clock v n (by omega) hd _ hp (findI_yes hp)).mono fun e w' ⟨g1, v', g2, g3, g4⟩ => ⟨g1, ?_⟩
  have er : rm lv n = lv.eraseIdx (placeOf lv n) := by unfold rm; rw [if_pos hp]
  rw [← er] at g2
  refine h.upd g2 (Nat.le_trans (rm_sub lv n).length_le h1) (h2.sublist (rm_sub lv n)) (fun m => by rw [lkR_rm n m lv h2, h3]; rfl) (fun g e => Or.inr (g4 g e)) (fun p hpp g e => Or.inl (h5 p ((rm_sub lv n).subset hpp) g e)) g3.os g3.tape g3.output g3.size (fun b hb hs => g3.block b hb (fun e => hs (by
    have := Option.some.inj e
    subst this
    exact h.sD)))
theorem rd_rename (h : RD w base D S L clock cnt) (hc : cnt ≤ 99999) (n m : ByteArray) (hm : nameB m = true) (hnm : ¬ n = m) (bs : List BB) (hn : L n = some bs) : Calls Tryz.prog 26 #[.pointer (some ⟨D, 0, none⟩), .string n, .string m] w fun e w' => e = .returned (.int .i64 0) ∧ ∃ S', RD w' base D S' (updL (updL L n none) m (some bs)) clock cnt ∧ Kept w w' S S' := by
  obtain ⟨lv, v, hd, h1, h2, h3, h4, h5⟩ := h.ex
  obtain ⟨hp, rfl⟩ := place_some ((h3 n).trans hn)
  have s1 : SortedN (rm lv n) := h2.sublist (rm_sub lv n)
  have s2 : SortedN (rm (rm lv n) m) := s1.sublist (rm_sub _ m)
  have k2 : lkR (rm (rm lv n) m) m = none := by rw [lkR_rm m m _ s1, if_pos rfl]
  have k3 : lkR (insL (rm (rm lv n) m) m) m = some [] := by rw [lkR_ins m m _ k2, if_pos rfl]
  obtain ⟨hj, _⟩ := place_some k3
  have hjn := place_name m _ hj
  refine (rrename_yes w base D lv clock v n m hm (by omega) hd hp hnm _ hj (findI_yes hj) hjn).mono fun e w' ⟨g1, v', g2, g3, g4⟩ => ⟨g1, ?_⟩
  have len1 : (rm lv n).length + 1 = lv.length := by
    unfold rm
    rw [if_pos hp, List.length_eraseIdx_of_lt hp]
    omega
  have len2 := (rm_sub (rm lv n) m).length_le
  have e0 : ((insL (rm (rm lv n) m) m).set (placeOf (insL (rm (rm lv n) m) m) m) (⟨m, lv[placeOf lv n].1.bs⟩, lv[placeOf lv n].2)).map (·.1.name) = (insL (rm (rm lv n) m) m).map (·.1.name) := by
    have h6 := names_set hj lv[placeOf lv n].1.bs lv[placeOf lv n].2
    rw [hjn] at h6
    exact h6
  refine h.upd g2 (by rw [List.length_set, ins_length]; omega) (sorted_names e0 (sorted_ins m _ s2 k2)) (fun x => ?_) (fun g e => Or.inr (g4 g e)) (fun p hpp g e => ?_) g3.os g3.tape g3.output g3.size (fun b hb hs => g3.block b hb (fun e => hs (by
    have := Option.some.inj e
    subst this
    exact h.sD)))
  · rw [lkR_set m _ _ x _ hj]
    unfold updL
    by_cases c : x = m
    · rw [if_pos c, if_pos c]
    · rw [if_neg c, if_neg c, lkR_ins m x _ k2, if_neg c, lkR_rm m x _ s1, if_neg c, lkR_rm n x _ h2, h3]
  · rcases set_mem hpp with rfl | ⟨i, hi, _, rfl⟩
    · exact Or.inl (h5 _ (List.getElem_mem hp) g e)
    · rcases mem_ins (List.getElem_mem hi) with h6 | h6
      · exact Or.inl (h5 _ ((rm_sub lv n).subset ((rm_sub _ m).subset h6)) g e)
      · rw [h6] at e
        simp [Value.ownBlock] at e
theorem rd_append_long (h : RD w base D S L clock cnt) (hc : cnt ≤ 99999) (n s : ByteArray) (hm : nameB n = true) (bs : List BB) (hn : L n = some bs) (hb : bs.length ≤ 4194304) (hs : 4194304 < bs.length + s.size) : Calls Tryz.prog 10 #[.pointer (some ⟨D, 0, none⟩), .string n, .string s] w fun e w' => e = .returned (.int .i64 15) ∧ w = w' := by
  obtain ⟨lv, v, hd, h1, h2, h3, h4, h5⟩ := h.ex
  obtain ⟨hp, rfl⟩ := place_some ((h3 n).trans hn)
  exact rappend_long w base D lv clock v n s hm (by omega) hd _ hp (findI_yes hp) hb hs
theorem rd_append (h : RD w base D S L clock cnt) (hc : cnt ≤ 99999) (n s : ByteArray) (hm : nameB n = true) (bs : List BB) (hn : L n = some bs) (hs : bs.length + s.size ≤ 4194304) (hck : clock + s.size < 4611686018427387904) : Calls Tryz.prog 10 #[.pointer (some ⟨D, 0, none⟩), .string n, .string s] w fun e w' => e = .returned (.int .i64 0) ∧ ∃ S', RD w' base D S' (updL L n (some (bs ++ stR s.data.toList clock))) (clock + s.size) cnt ∧ Kept w w' S S' := by
  obtain ⟨lv, v, hd, h1, h2, h3, h4, h5⟩ := h.ex
  obtain ⟨hp, rfl⟩ := place_some ((h3 n).trans hn)
  refine (rappend_yes w base D lv clock v n s hm (by omega) hd _ hp (findI_yes hp) hs hck).mono fun e w' ⟨g1, g, cap, u, g2, I⟩ => ⟨g1, ?_⟩
  subst g2
  have hnm := place_name n lv hp
  have et : s.data.toList.take s.size = s.data.toList := List.take_of_length_le (by rw [← Lib.size_eq]; exact Nat.le_refl _)
  have hat := I.at_
  rw [et] at hat
  refine h.upd hat (by rw [List.length_set]; exact h1) (sorted_names (names_set hp _ _) h2) (fun m => ?_) (fun g e => Or.inl (h4 g e)) (fun p hpp q e => ?_) I.os I.tape I.output I.size (fun b hb hns => I.kept b hb (fun e => hns (by rw [e]; exact h.sD)) (fun e => hns (by rw [e]; exact h4 g rfl)) (fun e => hns (h5 _ (List.getElem_mem hp) b e.symm)))
  · rw [hnm, lkR_set n _ _ m lv hp, h3]
    rfl
  · rcases set_mem hpp with rfl | ⟨i, hi, _, rfl⟩
    · rcases I.ub with h6 | h6
      · exact Or.inl (h5 _ (List.getElem_mem hp) q (by rw [← h6]; exact e))
      · exact Or.inr (h6 q e)
    · exact Or.inl (h5 _ (List.getElem_mem hi) q e)
theorem rd_append_new (h : RD w base D S L clock cnt) (hc : cnt ≤ 99998) (n s : ByteArray) (hm : nameB n = true) (hn : L n = none) (hs : s.size ≤ 4194304) (hck : clock + s.size < 4611686018427387904) : Calls Tryz.prog 10 #[.pointer (some ⟨D, 0, none⟩), .string n, .string s] w fun e w' => e = .returned (.int .i64 0) ∧ ∃ S', RD w' base D S' (updL L n (some (stR s.data.toList clock))) (clock + s.size) (cnt + 1) ∧ Kept w w' S S' := by
  obtain ⟨lv, v, hd, h1, h2, h3, h4, h5⟩ := h.ex
  have k0 : lkR lv n = none := (h3 n).trans hn
  have k3 : lkR (insL lv n) n = some [] := by rw [lkR_ins n n _ k0, if_pos rfl]
  obtain ⟨hj, hbs⟩ := place_some k3
  have hjn := place_name n _ hj
  have sI := sorted_ins n lv h2 k0
  refine (rappend_new w base D lv (insL lv n) clock v n s hm (by omega) hd (findI_no (place_none k0)) rfl _ hj (findI_yes hj) (by rw [hbs]; simpa using hs) hs hck).mono fun e w' ⟨g1, w1, v1, d1, gr, fr, g, cap, u, g2, I⟩ => ⟨g1, ?_⟩
  subst g2
  have et : s.data.toList.take s.size = s.data.toList := List.take_of_length_le (by rw [← Lib.size_eq]; exact Nat.le_refl _)
  have hat := I.at_
  rw [et] at hat
  have hg := fr g rfl
  have hub : (insL lv n)[placeOf (insL lv n) n].2.ownBlock = none ∨ ∃ p ∈ lv, p = (insL lv n)[placeOf (insL lv n) n] := by
    rcases mem_ins (List.getElem_mem hj) with h6 | h6
    · exact Or.inr ⟨_, h6, rfl⟩
    · left
      rw [h6]
      rfl
  refine h.upd hat (by rw [List.length_set, ins_length]; omega) (sorted_names (names_set hj _ _) sI) (fun m => ?_) (fun g' e => Or.inr ?_) (fun p hpp q e => ?_) (I.os.trans gr.os) (I.tape.trans gr.tape) (I.output.trans gr.output) (Nat.le_trans gr.size I.size) (fun b hb hns => ?_)
  · rw [hjn, lkR_set n _ _ m _ hj, lkR_ins n m lv k0, h3, hbs]
    unfold updL
    by_cases c : m = n
    · rw [if_pos c, if_pos c, List.nil_append]
    · rw [if_neg c, if_neg c, if_neg c]
  · simp only [Value.ownBlock, Option.some.injEq] at e
    omega
  · rcases set_mem hpp with rfl | ⟨i, hi, _, rfl⟩
    · rcases I.ub with h6 | h6
      · rcases hub with h7 | ⟨p, hpl, h7⟩
        · rw [h6, h7] at e
          cases e
        · exact Or.inl (h5 p hpl q (by rw [h7, ← h6]; exact e))
      · exact Or.inr (Nat.le_trans gr.size (h6 q e))
    · rcases mem_ins (List.getElem_mem hi) with h6 | h6
      · exact Or.inl (h5 _ h6 q e)
      · rw [h6] at e
        simp [Value.ownBlock] at e
  · rw [I.kept b (Nat.lt_of_lt_of_le hb gr.size) (fun e => hns (by rw [e]; exact h.sD)) (by omega) (fun e => by
      rcases hub with h7 | ⟨p, hpl, h7⟩
      · rw [h7] at e
        cases e
      · exact hns (h5 p hpl b (by rw [h7]; exact e.symm)))]
    exact gr.block b hb (fun e => hns (by
      have := Option.some.inj e
      subst this
      exact h.sD))
/-- Crash: for some time. -/
theorem rd_crash (h : RD w base D S L clock cnt) (hc : cnt ≤ 99999) (keep : Int) (hk1 : -9223372036854775808 ≤ keep) (hk2 : keep ≤ 9223372036854775807) (hb : ∀ n bs, L n = some bs → bs.length ≤ 4194304)
    (hdist : ∀ n bs m cs i (hi : i < bs.length) j (hj : j < cs.length), L n = some bs → L m = some cs → 0 < bs[i].2 → bs[i].2 = cs[j].2 → n = m ∧ i = j) :
    Calls Tryz.prog 8 #[.pointer (some ⟨D, 0, none⟩), .int .i64 keep] w fun e w' => e = .returned (.tuple #[]) ∧ ∃ (S' : Nat → Prop) (T : Nat) (ns : List ByteArray), ns.Nodup ∧ (∀ n, n ∈ ns ↔ L n ≠ none) ∧ ((ns.map fun n => cntB T ((L n).getD [])).sum = keep.toNat ∨ ((ns.map fun n => cntB T ((L n).getD [])).sum ≤ keep.toNat ∧ ∀ n bs, L n = some bs → ∀ b ∈ bs, b.2 ≤ T)) ∧
      RD w' base D S' (fun n => (L n).map (cutF T)) clock cnt ∧ Kept w w' S S' := by
  obtain ⟨lv, v, hd, h1, h2, h3, h4, h5⟩ := h.ex
  have hmem : ∀ p ∈ lv, L p.1.name = some p.1.bs := fun p hp => by rw [← h3]; exact lkR_mem h2 p hp
  have hD : Dist (bsO lv) := ⟨fun i hi j hj i' hi' j' hj' hp he => by
    have a1 : i < lv.length := by rw [← bsO_len]; exact hi
    have a2 : i' < lv.length := by rw [← bsO_len]; exact hi'
    have e1 := bsO_at a1
    have e2 := bsO_at a2
    have b1 : j < lv[i].1.bs.length := by rw [← e1]; exact hj
    have b2 : j' < lv[i'].1.bs.length := by rw [← e2]; exact hj'
    have f1 : (bsO lv)[i][j] = lv[i].1.bs[j] := List.getElem_of_eq e1 _
    have f2 : (bsO lv)[i'][j'] = lv[i'].1.bs[j'] := List.getElem_of_eq e2 _
    rw [f1] at hp he
    rw [f2] at he
    obtain ⟨c1, c2⟩ := hdist _ _ _ _ j b1 j' b2 (hmem _ (List.getElem_mem a1)) (hmem _ (List.getElem_mem a2)) hp he
    refine ⟨?_, c2⟩
    unfold SortedN at h2
    rw [List.pairwise_iff_getElem] at h2
    rcases Nat.lt_trichotomy i i' with c | c | c
    · have := h2 i i' a1 a2 c
      rw [c1, ltN_irr] at this
      cases this
    · exact c
    · have := h2 i' i a2 a1 c
      rw [c1, ltN_irr] at this
      cases this⟩
  refine (rcrash_any w base D lv clock v keep hk1 hk2 (by omega) (fun p hp => hb _ _ (hmem p hp)) hd).mono fun e w' ⟨g1, l', d', nm, cr, fr⟩ => ⟨g1, ?_⟩
  obtain ⟨T, hT, hcnt⟩ := CR_cut _ _ _ hD cr
  have hl' : ∀ n, lkR l' n = (L n).map (cutF T) := fun n => by rw [lkR_zip n lv l' nm hT, h3]
  have hlen : l'.length = lv.length := by simpa using congrArg List.length nm
  obtain ⟨S', r1, r2⟩ := h.upd (L' := fun n => (L n).map (cutF T)) (cnt' := cnt) d' (by omega) (sorted_names nm h2) hl' (fun g e => Or.inl (h4 g e)) (fun p hp g e => by
    rcases fr.blk p hp g e with ⟨q, hq, e2⟩ | h6
    · exact Or.inl (h5 q hq g e2)
    · exact Or.inr h6) fr.os fr.tape fr.output fr.size (fun b hb2 hns => fr.kept b hb2 (fun e => hns (h4 b e)) (fun p hp e => hns (h5 p hp b e)))
  have hsum : (lv.map (fun p => p.1.name)).map (fun n => cntB T ((L n).getD [])) = (bsO lv).map (cntB T) := by
    unfold bsO
    rw [List.map_map, List.map_map]
    refine List.map_congr_left fun p hp => ?_
    simp only [Function.comp]
    rw [hmem p hp]
    rfl
  refine ⟨S', T, lv.map (fun p => p.1.name), ?_, fun n => ?_, ?_, r1, r2⟩
  · unfold SortedN at h2
    rw [List.nodup_iff_pairwise_ne, List.pairwise_map]
    exact h2.imp (fun hlt e => by rw [e, ltN_irr] at hlt; cases hlt)
  · constructor
    · intro hn
      obtain ⟨p, hp, rfl⟩ := List.mem_map.1 hn
      rw [hmem p hp]
      simp
    · intro hn
      rw [← h3] at hn
      obtain ⟨p, hp, e⟩ := lkR_name hn
      exact List.mem_map.2 ⟨p, hp, e⟩
  · rw [hsum]
    rcases hcnt with h6 | ⟨h6, h7⟩
    · exact Or.inl h6
    · refine Or.inr ⟨h6, fun n bs hn b hb2 => ?_⟩
      rw [← h3] at hn
      obtain ⟨hp, e⟩ := place_some hn
      exact h7 bs (List.mem_map.2 ⟨_, List.getElem_mem hp, e⟩) b hb2
/-- Files: the names in their order. -/
theorem rd_files (h : RD w base D S L clock cnt) (hc : cnt ≤ 99999) : Calls Tryz.prog 15 #[.pointer (some ⟨D, 0, none⟩)] w fun e w' => ∃ (u : Value) (ns : List ByteArray), e = .returned u ∧ StrAt w' u ns ∧ ns.Pairwise (fun a b => ltN a b = true) ∧ (∀ n, n ∈ ns ↔ L n ≠ none) ∧ ns.length ≤ cnt ∧ Below w.heap.size w w' := by
  obtain ⟨lv, v, hd, h1, h2, h3, h4, h5⟩ := h.ex
  refine (files_any w base D lv clock v (by omega) hd).mono fun e w' ⟨u, g1, g2, g3⟩ => ⟨u, namesOf lv, g1, StrAt.own g2, ?_, fun n => ?_, by unfold namesOf; simpa using h1, g3⟩
  · unfold namesOf
    rw [List.pairwise_map]
    exact h2
  · unfold namesOf
    constructor
    · intro hn
      obtain ⟨p, hp, rfl⟩ := List.mem_map.1 hn
      rw [← h3, lkR_mem h2 p hp]
      simp
    · intro hn
      rw [← h3] at hn
      obtain ⟨p, hp, e⟩ := lkR_name hn
      exact List.mem_map.2 ⟨p, hp, e⟩
end
end Go.Proofs.YtkdglkaeglhibaaGreatDoor
