/-
  A new file where its name belongs, by the document's own disk (package latchkeyref05). The condition: there are at most 100000 files.
-/
import Derived.Test.YtkdglkaeglhibaaGreatDoorPDkMem
import Derived.Laws.AppendOwnNone
import Derived.Deep.MidRow
namespace Go.Proofs.YtkdglkaeglhibaaGreatDoor
open Go.RowKit

/-- Which of two names is the lesser. -/
def ltN (a b : ByteArray) : Bool := Op.bytesLess a.toList b.toList
/-- Where a name belongs. -/
def insAt (l : List (Fl × Value)) (n : ByteArray) : Nat := (l.takeWhile fun p => ltN p.1.name n).length
def insL (l : List (Fl × Value)) (n : ByteArray) : List (Fl × Value) := l.take (insAt l n) ++ ((⟨n, []⟩, .slice none 0 0) :: l.drop (insAt l n))
theorem insAt_eq {n : ByteArray} : ∀ (l : List (Fl × Value)) (k : Nat), k ≤ l.length → (∀ j (_ : j < k) (hjl : j < l.length), ltN l[j].1.name n = true) → (∀ (hk : k < l.length), ltN l[k].1.name n = false) → insAt l n = k := by
  intro l
  induction l with
  | nil => intro k hk _ _; simp at hk; subst hk; rfl
  | cons p l ih =>
    intro k hk h1 h2
    unfold insAt
    cases k with
    | zero =>
      have := h2 (by simp)
      simp at this
      rw [List.takeWhile_cons, if_neg (by rw [this]; simp)]
      rfl
    | succ k =>
      have h0 := h1 0 (by omega) (by simp)
      simp at h0
      rw [List.takeWhile_cons, if_pos h0, List.length_cons]
      have := ih k (by simpa using hk) (fun j hj hjl => by have := h1 (j + 1) (by omega) (by simpa using hjl); simpa using this) (fun hk' => by have := h2 (by simpa using hk'); simpa using this)
      unfold insAt at this
      rw [this]
theorem fsL_append (l m : List (Fl × Value)) : fsL (l ++ m) = fsL l ++ fsL m := by
  unfold fsL
  rw [List.flatMap_append]
theorem slice_one {w : World} {base size n : Nat} {e : TypeId} {v : Value} {xs : List Value} (h : w.ownsRow base e size v n xs) : v.oneCell' = true := by
  rcases h.2 with ⟨rfl, _⟩ | ⟨g, cap, cur, rfl, _⟩ <;> rfl
theorem fL_one {w : World} {base D : Nat} {l : List (Fl × Value)} {clock : Nat} {v : Value} (h : DkAt w base D l clock v) {p : Fl × Value} (hp : p ∈ l) : ∀ u ∈ fL p, u.oneCell' = true := by
  intro u hu
  unfold fL at hu
  simp only [List.mem_cons, List.not_mem_nil, or_false] at hu
  rcases hu with rfl | rfl
  · rfl
  · exact slice_one (h.each p hp)
theorem infoF : (Tryz.prog.info? 68).map (fun i => (i.zero, i.size, i.bytes)) = some (some (.agg #[.string ⟨#[]⟩, .slice none 0 0]), 2, 40) := by kernel_rfl
/-- Files more onto a row of one's own. -/
theorem append_fs {ops : Array Oper} {rest : List Oper} {o : Oper} {a : Act} {w : World} {Q : Exit → Act → World → Prop} (hgd : o.guard = none) (s x : Operand)
    (ho : o.op = .call { callee := .builtin .append, args := #[s, x], argTypes := #[26, 26] }) {base : Nat} {v : Value} {l m : List (Fl × Value)} {ad : Addr} {c : Nat}
    (hs : a.eval s = v) (hx : a.eval x = .slice (some ad) m.length c) (hown : w.ownsRow base 68 2 v l.length (fsL l)) (hB : ∀ j u, (fsL m)[j]? = some u → w.cell? (ad.add j) = some u) (h1 : ∀ u ∈ fsL m, u.oneCell' = true)
    (hl : l.length + m.length ≤ 200000) (hbase : base ≤ w.heap.size)
    (h : ∀ v' w', w'.ownsRow base 68 2 v' (l ++ m).length (fsL (l ++ m)) → w.grownBy w' v.ownBlock → wpList Tryz.prog ops Q rest (a.put o.dst v') w') :
    wpList Tryz.prog ops Q (o :: rest) a w := by
  obtain ⟨i0, hi, hz0, hz1, hz2⟩ := info_parts infoF
  refine wpList_append_own w hgd s x 26 ho base 68 i0 _ 2 40 Tryz.underlying26 hi hz0 hz1 hz2 rfl (by decide) v l.length (fsL l) hs hown ad m.length c (fsL m) hx (pairs_length fL (fun _ => rfl) m) hB h1 (by unfold maxLen; omega) (by omega) hbase ?_
  intro v' w' ho' hg _
  rw [← fsL_append] at ho'
  exact h v' w' (by rw [List.length_append]; exact ho') hg
/-- Nothing more onto it. -/
theorem append_no {ops : Array Oper} {rest : List Oper} {o : Oper} {a : Act} {w : World} {Q : Exit → Act → World → Prop} (hgd : o.guard = none) (s x : Operand)
    (ho : o.op = .call { callee := .builtin .append, args := #[s, x], argTypes := #[26, 26] }) {base : Nat} {v : Value} {l : List (Fl × Value)}
    (hs : a.eval s = v) (hx : a.eval x = .slice none 0 0) (hown : w.ownsRow base 68 2 v l.length (fsL l)) (h : wpList Tryz.prog ops Q rest (a.put o.dst v) w) : wpList Tryz.prog ops Q (o :: rest) a w := by
  obtain ⟨i0, hi, _, _, _⟩ := info_parts infoF
  exact wpList_append_own_none hgd s x 26 ho base 68 i0 2 Tryz.underlying26 hi v l.length (fsL l) hs hown hx h

theorem pairwise_in {l : List (Fl × Value)} (h : l.Pairwise (fun p q => ∀ g, p.2.ownBlock = some g → q.2.ownBlock ≠ some g)) (k : Nat) (x : Fl × Value) (hx : x.2.ownBlock = none) :
    (l.take k ++ (x :: l.drop k)).Pairwise (fun p q => ∀ g, p.2.ownBlock = some g → q.2.ownBlock ≠ some g) := by
  have h' := h
  rw [← List.take_append_drop k l, List.pairwise_append] at h'
  obtain ⟨h1, h2, h3⟩ := h'
  rw [List.pairwise_append]
  refine ⟨h1, List.pairwise_cons.2 ⟨fun q _ g e => (by rw [hx] at e; cases e), h2⟩, fun p hp q hq g e => ?_⟩
  rcases List.mem_cons.1 hq with rfl | hq
  · rw [hx]
    simp
  · exact h3 p hp q hq g e
theorem own_cap {w : World} {base size n n' cap : Nat} {e : TypeId} {a : Option Addr} {xs : List Value} (h : w.ownsRow base e size (.slice a n' cap) n xs) : n ≤ cap := by
  rcases h.2 with ⟨h1, h0⟩ | ⟨g, c, cur, h1, _, _, h2, _⟩
  · omega
  · simp only [Value.slice.injEq] at h1
    omega
theorem mem_ins {l : List (Fl × Value)} {n : ByteArray} {p : Fl × Value} (h : p ∈ insL l n) : p ∈ l ∨ p = (⟨n, []⟩, .slice none 0 0) := by
  unfold insL at h
  rw [List.mem_append, List.mem_cons] at h
  rcases h with h | rfl | h
  · exact Or.inl (List.mem_of_mem_take h)
  · exact Or.inr rfl
  · exact Or.inl (List.mem_of_mem_drop h)
/-- The disk behind a new row of files in its block, nothing else of it turned. -/
theorem DkAt.made {w w' : World} {base D : Nat} {l : List (Fl × Value)} {clock : Nat} {v v' : Value} {n : ByteArray} (h : DkAt w base D l clock v) (hg : w.grownBy w' (some D)) (hb : w'.heap[D]? = some (.cells #[v', .int .i64 (clock : Int)] 28 (0, 0)))
    (hr : w'.ownsRow w.heap.size 68 2 v' (insL l n).length (fsL (insL l n))) : DkAt w' base D (insL l n) clock v' := by
  have hD : D < w.heap.size := lt_of_block h.bl
  have hbase : base ≤ w.heap.size := Nat.le_trans h.lo (Nat.le_of_lt hD)
  have hv : ∀ g, v'.ownBlock = some g → w.heap.size ≤ g := fun g e => (hr.lt g e).1
  have hp : ∀ p ∈ l, ∀ g, p.2.ownBlock = some g → g < w.heap.size := fun p hp g e => ((h.each p hp).lt g e).2
  refine ⟨hb, own_mono hr hbase, fun p hm => ?_, h.lo, fun e => by have := hv D e; omega, fun p hm => ?_, ?_⟩
  · rcases mem_ins hm with hm | rfl
    · refine (h.each p hm).kept hg ?_
      exact Or.inr (h.eD p hm).1
    · exact World.ownsRow_nil _ _ _ _
  · rcases mem_ins hm with hm | rfl
    · exact ⟨(h.eD p hm).1, fun g e e' => by have := hp p hm g e; have := hv g e'; omega⟩
    · exact ⟨by simp [Value.ownBlock], fun g e => by simp [Value.ownBlock] at e⟩
  · exact pairwise_in h.sep _ _ rfl

theorem fsL_drop (l : List (Fl × Value)) (k : Nat) (hk : k ≤ l.length) (j : Nat) : (fsL (l.drop k))[j]? = (fsL l)[k * 2 + j]? := by
  have e : fsL l = fsL (l.take k) ++ fsL (l.drop k) := by rw [← fsL_append, List.take_append_drop]
  have hl : (fsL (l.take k)).length = k * 2 := by
    have := pairs_length fL (fun _ => rfl) (l.take k)
    unfold fsL
    rw [this, List.length_take]
    congr 1
    omega
  rw [e, List.getElem?_append_right (by omega), hl]
  congr 1
  omega
theorem fsL_one {w : World} {base D : Nat} {l : List (Fl × Value)} {clock : Nat} {v : Value} (h : DkAt w base D l clock v) (k : Nat) : ∀ u ∈ fsL (l.drop k), u.oneCell' = true := by
  intro u hu
  unfold fsL at hu
  rw [List.mem_flatMap] at hu
  obtain ⟨p, hp, hu⟩ := hu
  exact fL_one h (List.mem_of_mem_drop hp) u hu
theorem DkAt.end {w w9 : World} {base D : Nat} {l : List (Fl × Value)} {clock : Nat} {v u : Value} {n : ByteArray} (h : DkAt w base D l clock v) (bel : Below w.heap.size w w9)
    (hr : w9.ownsRow w.heap.size 68 2 u (insL l n).length (fsL (insL l n))) :
    DkAt (w9.setCell ⟨D, 0, none⟩ u) base D (insL l n) clock u ∧ w.grownBy (w9.setCell ⟨D, 0, none⟩ u) (some D) := by
  have hD : D < w.heap.size := lt_of_block h.bl
  have hg : w.grownBy (w9.setCell ⟨D, 0, none⟩ u) (some D) := ⟨bel.os, bel.tape, bel.output, by simpa using bel.size, fun i hi hr => by
    rw [heap_setCell_other _ _ _ _ (by simp; exact fun e => hr (by rw [e]))]
    exact bel.block i hi⟩
  refine ⟨h.made hg ?_ (ownsRow_setCell_below hr (by exact hD) u), hg⟩
  have hb := (bel.block D hD).trans h.bl
  rw [heap_setCell_same _ _ _ _ _ _ hb]
  rfl

set_option maxHeartbeats 3200000 in
set_option maxRecDepth 100000 in
/-- make. -/
theorem make_any (w : World) (base D : Nat) (l : List (Fl × Value)) (clock : Nat) (v : Value) (n : ByteArray) (hl : l.length ≤ 100000) (h : DkAt w base D l clock v) :
    Calls Tryz.prog 32 #[.pointer (some ⟨D, 0, none⟩), .string n] w fun e w' => e = .returned (.tuple #[]) ∧ ∃ v', DkAt w' base D (insL l n) clock v' ∧ w.grownBy w' (some D) ∧ ∀ g, v'.ownBlock = some g → w.heap.size ≤ g := by
  have hD : D < w.heap.size := lt_of_block h.bl
  obtain ⟨a, cap, rfl, hf⟩ := h.files
  have GF : Hid _ := hf
  have HK : Hid _ := h
  clear hf h
  go_enter Tryz.func32, Tryz.ntmps32
  go_wp2
  go_loopw [4, 5] (fun u i wr => ∃ k : Nat, k ≤ l.length ∧ i = .int .i64 k ∧ wr.ownsRow w.heap.size 68 2 u (l.take k).length (fsL (l.take k)) ∧ Below w.heap.size w wr ∧ Hid (∀ j (_ : j < k) (hjl : j < l.length), ltN l[j].1.name n = true)) (fun _ i _ => l.length - (intOf i).toNat)
  case atStart => exact ⟨0, Nat.zero_le _, rfl, World.ownsRow_nil _ _ _ _, Below.refl _ _, fun j hj => by omega⟩
  case round =>
    obtain ⟨k, hk, rfl, hown, bel, HN⟩ := hrel
    have c0 : wr.cell? ⟨D, 0, none⟩ = some (.slice a l.length cap) := (bel.cell (by exact hD)).trans HK.out.cell0
    by_cases hkl : k < l.length
    · rcases GF.out with h0 | ⟨g, rfl, hg, hc⟩
      · omega
      have z0 := (bel.cell (p := ⟨g, k * 2, none⟩) (by exact hg)).trans (hc k hkl).1
      have z1 := (bel.cell (p := ⟨g, k * 2 + 1, none⟩) (by exact hg)).trans (hc k hkl).2
      obtain ⟨p, hp⟩ : ∃ p, p = l[k] := ⟨_, rfl⟩
      rw [← hp] at z0 z1
      have hpm : p ∈ l := by rw [hp]; exact List.getElem_mem hkl
      have HP : Hid (p = l[k]) := hp
      have hdk : (k : Int) < (l.length : Int) := by omega
      cases hlt : Op.bytesLess p.1.name.toList n.toList with
      | true =>
        have HN2 : Hid (∀ j (_ : j < k + 1) (hjl : j < l.length), ltN l[j].1.name n = true) := fun j hj hjl => by
          by_cases hjk : j < k
          · exact HN.out j hjk hjl
          · have : j = k := by omega
            subst this
            rw [← HP.out]
            exact hlt
        have htk : l.take (k + 1) = l.take k ++ [p] := by rw [List.take_add_one, List.getElem?_eq_getElem hkl, HP.out]; rfl
        have hlen : (l.take k).length = k := by rw [List.length_take]; omega
        have one := fL_one HK.out hpm
        obtain ⟨vb, hvb⟩ : ∃ vb, vb = p.2 := ⟨_, rfl⟩
        obtain ⟨nm, hnm⟩ : ∃ nm, nm = p.1.name := ⟨_, rfl⟩
        rw [← hvb] at z1
        rw [← hnm] at z0 hlt
        have y1 := hown.alloc (.cells #[.string nm, vb] 68)
        have hB : ∀ j u, (fsL [p])[j]? = some u → (wr.alloc (.cells #[.string nm, vb] 68)).cell? ((⟨wr.heap.size, 0, none⟩ : Addr).add j) = some u := fun j u hu => by
          rw [Addr.add_mid, Nat.zero_add]
          have e : fsL [p] = [.string nm, vb] := by rw [hnm, hvb]; rfl
          rw [e] at hu
          rw [← hu]
          simp
        have one' : ∀ u ∈ fsL [p], u.oneCell' = true := by
          have e : fsL [p] = fL p := by unfold fsL; simp
          rw [e]
          exact one
        have HT : Hid (l.take (k + 1) = l.take k ++ [p]) := htk
        have by1 := bel.alloc bel.size (.cells #[.string nm, vb] 68)
        clear hc hp HP htk one hvb hnm HN
        go_wp2_with (first
          | (at_builtin; refine append_fs rfl (.tmp 25) (.tmp 33) rfl (l := l.take k) (m := [p]) rfl rfl (by exact y1) (by exact hB) one' (by rw [hlen]; simp; omega) (by exact by1.size) ?_; intro u' w7 ho hgr))
        go_roundw
        case rel =>
          rw [← HT.out] at ho
          refine ⟨k + 1, hkl, by go_num, ho, ?_, HN2⟩
          exact by1.grown hgr by1.size (fun k hk => (y1.lt k hk).1)
        case measure => simp [intOf]; omega
      | false =>
        have HP2 : Hid (insAt l n = k) := insAt_eq l k hk HN.out (fun _ => by rw [← HP.out]; exact hlt)
        have HP : Hid (insAt l n = k) := HP2
        have hck : ¬ cap = k := by have := own_cap HK.out.row; omega
        have hB2 : ∀ w7, Below w.heap.size w w7 → ∀ j u, (fsL (l.drop k))[j]? = some u → w7.cell? ((⟨g, k * 2, none⟩ : Addr).add j) = some u := fun w7 b7 j u hu => by
          rw [fsL_drop l k hk] at hu
          rw [Addr.add_mid, b7.cell (p := ⟨g, k * 2 + j, none⟩) (by exact hg), ← hu]
          have hj : k * 2 + j < l.length * 2 := by
            rcases Nat.lt_or_ge (k * 2 + j) (l.length * 2) with h' | h'
            · exact h'
            · rw [List.getElem?_eq_none (by unfold fsL; rw [pairs_length fL (fun _ => rfl)]; exact h')] at hu
              cases hu
          exact World.ownsRow.cellAt HK.out.row (k * 2 + j) hj
        clear hc hp
        have hlen : (l.take k).length = k := by rw [List.length_take]; omega
        have y1 := hown.alloc (.cells #[.string n, .slice none 0 0] 68)
        have hB : ∀ j u, (fsL [((⟨n, []⟩ : Fl), Value.slice none 0 0)])[j]? = some u → (wr.alloc (.cells #[.string n, .slice none 0 0] 68)).cell? ((⟨wr.heap.size, 0, none⟩ : Addr).add j) = some u := fun j u hu => by
          rw [Addr.add_mid, Nat.zero_add]
          have e : fsL [((⟨n, []⟩ : Fl), Value.slice none 0 0)] = [.string n, .slice none 0 0] := rfl
          rw [e] at hu
          rw [← hu]
          simp
        have one1 : ∀ u ∈ fsL [((⟨n, []⟩ : Fl), Value.slice none 0 0)], u.oneCell' = true := by
          intro u hu
          have e : fsL [((⟨n, []⟩ : Fl), Value.slice none 0 0)] = [.string n, .slice none 0 0] := rfl
          rw [e] at hu
          simp only [List.mem_cons, List.not_mem_nil, or_false] at hu
          rcases hu with rfl | rfl <;> rfl
        have by1 := bel.alloc bel.size (.cells #[.string n, .slice none 0 0] 68)
        have one2 := fsL_one HK.out k
        have fD : w.frozen? ⟨D, 0, none⟩ = false := by simp [World.frozen?, HK.out.bl]
        have hl1 : (l.take k).length + [((⟨n, []⟩ : Fl), Value.slice none 0 0)].length ≤ 200000 := by rw [hlen]; simp; omega
        have hl2 : (l.take k ++ [((⟨n, []⟩ : Fl), Value.slice none 0 0)]).length + (l.drop k).length ≤ 200000 := by simp; omega
        have HI : Hid (l.take k ++ [((⟨n, []⟩ : Fl), Value.slice none 0 0)] ++ l.drop k = insL l n) := by
          show _ = _
          unfold insL
          rw [HP.out, List.append_assoc]
          rfl
        clear HN HP HP2
        go_wp2_with (first
          | (at_builtin; have no := t7; refine append_fs rfl (.tmp 43) (.tmp 49) rfl (l := l.take k ++ [((⟨n, []⟩ : Fl), Value.slice none 0 0)]) (m := l.drop k) (ad := ⟨g, k * 2, none⟩) (c := cap - k) rfl (by rw [List.length_drop]; rfl) (by exact t7) (by exact hB2 w7 b7) one2 hl2 (by exact b7.size) ?_; intro u9 w9 t9 hg9; obtain ⟨pv9, nv9, cv9, rfl⟩ := own_form t9; have b9 := b7.grown hg9 b7.size (fun k hk => (t7.lt k hk).1); have x9 := (b9.cell (p := ⟨D, 0, none⟩) (by exact hD)).trans HK.out.cell0; have f9 := (b9.frozen (p := ⟨D, 0, none⟩) (by exact hD)).trans fD)
          | (at_builtin; refine append_fs rfl (.tmp 37) (.tmp 40) rfl (l := l.take k) (m := [((⟨n, []⟩ : Fl), Value.slice none 0 0)]) rfl rfl (by exact y1) (by exact hB) one1 hl1 (by exact by1.size) ?_; intro u7 w7 t7 hg7; have b7 := by1.grown hg7 by1.size (fun k hk => (y1.lt k hk).1); have x7 := (b7.cell (p := ⟨D, 0, none⟩) (by exact hD)).trans HK.out.cell0; have f7 := (b7.frozen (p := ⟨D, 0, none⟩) (by exact hD)).trans fD))
        go_returns
        rw [HI.out] at t9
        obtain ⟨e1, e2⟩ := HK.out.end b9 t9
        exact ⟨rfl, _, e1, e2, fun g hg => (t9.lt g hg).1⟩
    · have hke : k = l.length := by omega
      subst hke
      have HP : Hid (insAt l n = l.length) := insAt_eq l l.length (Nat.le_refl _) HN.out (fun h => by omega)
      have hB2 : ∀ (w7 : World) {ad : Addr} (j : Nat) (u : Value), (fsL (l.drop l.length))[j]? = some u → w7.cell? (ad.add j) = some u := fun w7 ad j u hu => by
        rw [List.drop_length] at hu
        simp [fsL] at hu
      have hlen : (l.take l.length).length = l.length := by rw [List.length_take]; omega
      have y1 := hown.alloc (.cells #[.string n, .slice none 0 0] 68)
      have hB : ∀ j u, (fsL [((⟨n, []⟩ : Fl), Value.slice none 0 0)])[j]? = some u → (wr.alloc (.cells #[.string n, .slice none 0 0] 68)).cell? ((⟨wr.heap.size, 0, none⟩ : Addr).add j) = some u := fun j u hu => by
        rw [Addr.add_mid, Nat.zero_add]
        have e : fsL [((⟨n, []⟩ : Fl), Value.slice none 0 0)] = [.string n, .slice none 0 0] := rfl
        rw [e] at hu
        rw [← hu]
        simp
      have one1 : ∀ u ∈ fsL [((⟨n, []⟩ : Fl), Value.slice none 0 0)], u.oneCell' = true := by
        intro u hu
        have e : fsL [((⟨n, []⟩ : Fl), Value.slice none 0 0)] = [.string n, .slice none 0 0] := rfl
        rw [e] at hu
        simp only [List.mem_cons, List.not_mem_nil, or_false] at hu
        rcases hu with rfl | rfl <;> rfl
      have by1 := bel.alloc bel.size (.cells #[.string n, .slice none 0 0] 68)
      have one2 := fsL_one HK.out l.length
      have fD : w.frozen? ⟨D, 0, none⟩ = false := by simp [World.frozen?, HK.out.bl]
      have hl1 : (l.take l.length).length + [((⟨n, []⟩ : Fl), Value.slice none 0 0)].length ≤ 200000 := by rw [hlen]; simp; omega
      have hl2 : (l.take l.length ++ [((⟨n, []⟩ : Fl), Value.slice none 0 0)]).length + (l.drop l.length).length ≤ 200000 := by simp; omega
      have HI : Hid (l.take l.length ++ [((⟨n, []⟩ : Fl), Value.slice none 0 0)] ++ l.drop l.length = insL l n) := by
        show _ = _
        unfold insL
        rw [HP.out, List.append_assoc]
        rfl
      clear HN HP
      cases a with
      | none =>
        have h00 : l.length = 0 ∧ cap = 0 := by
          rcases HK.out.row.2 with ⟨h1, h0⟩ | ⟨g, c, cur, h1, _⟩
          · simp only [Value.slice.injEq] at h1
            omega
          · simp only [Value.slice.injEq] at h1
            cases h1.1
        obtain rfl : l = [] := List.eq_nil_of_length_eq_zero h00.1
        obtain rfl := h00.2
        go_wp2_with (first
          | (at_builtin; have no := t7; refine append_no rfl (.tmp 43) (.tmp 49) rfl (l := ([] : List (Fl × Value)).take ([] : List (Fl × Value)).length ++ [((⟨n, []⟩ : Fl), Value.slice none 0 0)]) rfl (by rfl) (by exact t7) ?_; have t9 := t7; have b9 := b7)
          | (at_builtin; refine append_fs rfl (.tmp 37) (.tmp 40) rfl (l := ([] : List (Fl × Value)).take ([] : List (Fl × Value)).length) (m := [((⟨n, []⟩ : Fl), Value.slice none 0 0)]) rfl rfl (by exact y1) (by exact hB) one1 hl1 (by exact by1.size) ?_; intro u7 w7 t7 hg7; obtain ⟨pv7, nv7, cv7, rfl⟩ := own_form t7; have b7 := by1.grown hg7 by1.size (fun k hk => (y1.lt k hk).1); have x7 := (b7.cell (p := ⟨D, 0, none⟩) (by exact hD)).trans HK.out.cell0; have f7 := (b7.frozen (p := ⟨D, 0, none⟩) (by exact hD)).trans fD))
        go_returns
        have hI := HI.out
        rw [List.drop_nil, List.append_nil] at hI
        rw [hI] at t9
        obtain ⟨e1, e2⟩ := HK.out.end b9 t9
        exact ⟨rfl, _, e1, e2, fun g hg => (t9.lt g hg).1⟩
      | some x =>
        by_cases hck : cap = l.length
        · go_wp2_with (first
            | (at_builtin; have no := t7; refine append_fs rfl (.tmp 43) (.tmp 49) rfl (l := l.take l.length ++ [((⟨n, []⟩ : Fl), Value.slice none 0 0)]) (m := l.drop l.length) (ad := x) (c := 0) rfl (by rw [List.drop_length]; rfl) (by exact t7) (by exact hB2 w7) one2 hl2 (by exact b7.size) ?_; intro u9 w9 t9 hg9; obtain ⟨pv9, nv9, cv9, rfl⟩ := own_form t9; have b9 := b7.grown hg9 b7.size (fun k hk => (t7.lt k hk).1); have x9 := (b9.cell (p := ⟨D, 0, none⟩) (by exact hD)).trans HK.out.cell0; have f9 := (b9.frozen (p := ⟨D, 0, none⟩) (by exact hD)).trans fD)
            | (at_builtin; refine append_fs rfl (.tmp 37) (.tmp 40) rfl (l := l.take l.length) (m := [((⟨n, []⟩ : Fl), Value.slice none 0 0)]) rfl rfl (by exact y1) (by exact hB) one1 hl1 (by exact by1.size) ?_; intro u7 w7 t7 hg7; obtain ⟨pv7, nv7, cv7, rfl⟩ := own_form t7; have b7 := by1.grown hg7 by1.size (fun k hk => (y1.lt k hk).1); have x7 := (b7.cell (p := ⟨D, 0, none⟩) (by exact hD)).trans HK.out.cell0; have f7 := (b7.frozen (p := ⟨D, 0, none⟩) (by exact hD)).trans fD))
          go_returns
          rw [HI.out] at t9
          obtain ⟨e1, e2⟩ := HK.out.end b9 t9
          exact ⟨rfl, _, e1, e2, fun g hg => (t9.lt g hg).1⟩
        · go_wp2_with (first
            | (at_builtin; have no := t7; refine append_fs rfl (.tmp 43) (.tmp 49) rfl (l := l.take l.length ++ [((⟨n, []⟩ : Fl), Value.slice none 0 0)]) (m := l.drop l.length) (ad := (x.add (l.length * 2))) (c := (cap - l.length)) rfl (by rw [List.drop_length]; rfl) (by exact t7) (by exact hB2 w7) one2 hl2 (by exact b7.size) ?_; intro u9 w9 t9 hg9; obtain ⟨pv9, nv9, cv9, rfl⟩ := own_form t9; have b9 := b7.grown hg9 b7.size (fun k hk => (t7.lt k hk).1); have x9 := (b9.cell (p := ⟨D, 0, none⟩) (by exact hD)).trans HK.out.cell0; have f9 := (b9.frozen (p := ⟨D, 0, none⟩) (by exact hD)).trans fD)
            | (at_builtin; refine append_fs rfl (.tmp 37) (.tmp 40) rfl (l := l.take l.length) (m := [((⟨n, []⟩ : Fl), Value.slice none 0 0)]) rfl rfl (by exact y1) (by exact hB) one1 hl1 (by exact by1.size) ?_; intro u7 w7 t7 hg7; obtain ⟨pv7, nv7, cv7, rfl⟩ := own_form t7; have b7 := by1.grown hg7 by1.size (fun k hk => (y1.lt k hk).1); have x7 := (b7.cell (p := ⟨D, 0, none⟩) (by exact hD)).trans HK.out.cell0; have f7 := (b7.frozen (p := ⟨D, 0, none⟩) (by exact hD)).trans fD))
          go_returns
          rw [HI.out] at t9
          obtain ⟨e1, e2⟩ := HK.out.end b9 t9
          exact ⟨rfl, _, e1, e2, fun g hg => (t9.lt g hg).1⟩
end Go.Proofs.YtkdglkaeglhibaaGreatDoor
