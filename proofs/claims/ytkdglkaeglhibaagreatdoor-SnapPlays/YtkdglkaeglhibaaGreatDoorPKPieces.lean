/-
  The program's disk: the pieces of all files, in the order in which they were appended. The condition: at most 100000 files.
-/
import Derived.Test.YtkdglkaeglhibaaGreatDoorPKName
import Derived.Test.YtkdglkaeglhibaaGreatDoorPSB
import Derived.Laws.AppendOwnNone
namespace Go.Proofs.YtkdglkaeglhibaaGreatDoor
open Go.RowKit Go.Shelf Go.Lib Go.Sort

/-- A piece: its turn, its size, the file's block. -/
abbrev P3 : Type := Nat × Nat × Nat
def encP (x : P3) : List Value := [.int .i64 (x.1 : Int), .int .i64 (x.2.1 : Int), .pointer (some ⟨x.2.2, 0, none⟩)]
def p3 (f : CF) : List P3 := f.ps.map fun p => (p.1, p.2, f.c)
def allP (l : List CF) : List P3 := l.flatMap p3
theorem pcsL_p3 (f : CF) : pcsL f.c f.ps = (p3 f).flatMap encP := by
  unfold pcsL p3
  rw [List.flatMap_map]
  rfl
theorem encP_length (l : List P3) : (l.flatMap encP).length = l.length * 3 := by
  induction l with
  | nil => rfl
  | cons a l ih =>
    rw [List.flatMap_cons, List.length_append, ih, List.length_cons]
    simp [encP]
    omega
theorem allP_length : ∀ (l : List CF), (∀ f ∈ l, f.ps.length ≤ 4194304) → (allP l).length ≤ l.length * 4194304
  | [], _ => by simp [allP]
  | f :: l, h => by
    have h1 := allP_length l (fun g hg => h g (by simp [hg]))
    have h2 := h f (by simp)
    unfold allP at h1 ⊢
    rw [List.flatMap_cons, List.length_append, List.length_cons]
    have h3 : (p3 f).length = f.ps.length := by simp [p3]
    omega

set_option maxHeartbeats 1000000 in
/-- How two pieces are compared. -/
theorem cmp_pieces (x y : P3) (W : World) : Calls Tryz.prog 54 #[.agg #[.int .i64 (x.1 : Int), .int .i64 (x.2.1 : Int), .pointer (some ⟨x.2.2, 0, none⟩)], .agg #[.int .i64 (y.1 : Int), .int .i64 (y.2.1 : Int), .pointer (some ⟨y.2.2, 0, none⟩)]] W fun e w' =>
    e = .returned (.int .i64 (Lib.compareInt (x.1 : Int) (y.1 : Int))) ∧ ∃ q os', w' = grow (W.drewN q) os' := by
  have hcon := fun W' => Tryz.cmp_Compare_int (x.1 : Int) (y.1 : Int) W'
  generalize Lib.compareInt (x.1 : Int) (y.1 : Int) = r at hcon ⊢
  go_enter Tryz.func54, Tryz.ntmps54
  go_wp2_with (go_at_call 55; refine (hcon _).mono ?_; rintro e w' ⟨rfl, rfl⟩)
  go_ret
  exact ⟨rfl, 0, _, by rw [alloc_eq_grow, alloc_eq_grow, grow_grow]; rfl⟩
def cfP (x y : P3) : Int := Lib.compareInt (x.1 : Int) (y.1 : Int)
theorem cmpLaysP (blk off size : Nat) (w : World) : CmpLays Tryz.prog 54 #[] encP 3 cfP blk off size w :=
  fun _ _ _ _ x y => cmp_pieces x y _
theorem ltP (x y : P3) : ltOf cfP x y = decide (x.1 < y.1) := by
  unfold ltOf cfP Lib.compareInt
  by_cases h1 : (x.1 : Int) < (y.1 : Int)
  · simp [h1]
    omega
  · by_cases h2 : (y.1 : Int) < (x.1 : Int)
    · simp [h1, h2]
      omega
    · simp [h1, h2]
      omega
theorem swoP : SWO (ltOf cfP) where
  irrefl x := by rw [ltP]; simp
  trans x y z h1 h2 := by rw [ltP] at *; simp at *; omega
  ntrans x y z h1 h2 := by rw [ltP] at *; simp at *; omega

/-- Pieces behind a row of pieces of one's own. -/
theorem append_pc {ops : Array Oper} {rest : List Oper} {o : Oper} {a : Act} {w : World} {Q : Exit → Act → World → Prop} (hgd : o.guard = none) (s x : Operand)
    (ho : o.op = .call { callee := .builtin .append, args := #[s, x], argTypes := #[58, 58] }) {base b2 : Nat} {v : Value} {acc : List P3} {f : CF}
    (hs : a.eval s = v) (hx : a.eval x = f.lv) (hown : w.ownsRow base 62 3 v acc.length (acc.flatMap encP)) (hrl : w.ownsRow b2 62 3 f.lv f.ps.length (pcsL f.c f.ps))
    (hl : acc.length + f.ps.length ≤ 1000000000000) (hbase : base ≤ w.heap.size)
    (h : ∀ v' w', w'.ownsRow base 62 3 v' (acc ++ p3 f).length ((acc ++ p3 f).flatMap encP) → w.grownBy w' v.ownBlock → wpList Tryz.prog ops Q rest (a.put o.dst v') w') :
    wpList Tryz.prog ops Q (o :: rest) a w := by
  obtain ⟨i0, hi, hz0, hz1, hz2⟩ := info_parts infoP
  have e1 : (p3 f).length = f.ps.length := by simp [p3]
  rcases hrl.2 with ⟨e, e0⟩ | ⟨g, cap, cur, e, _⟩
  · have e2 : p3 f = [] := List.eq_nil_of_length_eq_zero (by rw [e1, e0])
    have h2 := h v w (by rw [e2, List.append_nil]; exact hown) ⟨rfl, rfl, rfl, Nat.le_refl _, fun _ _ _ => rfl⟩
    exact wpList_append_own_none hgd s x 58 ho base 62 i0 3 Tryz.underlying58 hi v acc.length _ hs hown (hx.trans e) h2
  · have hc : ∀ j u, ((p3 f).flatMap encP)[j]? = some u → w.cell? ((⟨g, 0, none⟩ : Addr).add j) = some u := by
      rw [← pcsL_p3]
      rw [e] at hrl
      exact hrl.cells (g := g) rfl
    refine wpList_append_own w hgd s x 58 ho base 62 i0 _ 3 24 Tryz.underlying58 hi hz0 hz1 hz2 rfl (by decide) v acc.length _ hs hown ⟨g, 0, none⟩ f.ps.length cap ((p3 f).flatMap encP) (hx.trans e) (by rw [encP_length, e1]) hc ?_ (by unfold maxLen; omega) (by omega) hbase ?_
    · intro u hu
      rw [List.mem_flatMap] at hu
      obtain ⟨y, _, hu⟩ := hu
      simp only [encP, List.mem_cons, List.not_mem_nil, or_false] at hu
      rcases hu with rfl | rfl | rfl <;> rfl
    · intro v' w' ho' hg _
      rw [← List.flatMap_append] at ho'
      exact h v' w' (by rw [List.length_append, e1]; exact ho') hg

/-- While the files are gone over. -/
structure PInv (w wr : World) (mo : Option Nat) (l : List CF) (v : Value) (acc : List P3) (leftF : List CF) : Prop where
  rg : Ranging wr mo w.heap.size (nmL l) (nmL leftF)
  mem : ∀ f ∈ leftF, f ∈ l
  row : wr.ownsRow w.heap.size 62 3 v acc.length (acc.flatMap encP)
  pm : (acc ++ allP leftF).Perm (allP l)
  bel : Below w.heap.size w wr
def leftN (w : World) (mo : Option Nat) (r : Nat) : Nat :=
  match mo with
  | none => 0
  | some M => w.rangeLeft M r
theorem Ranging.leftN {w : World} {mo : Option Nat} {r : Nat} {l left : List (ByteArray × Nat)} (h : Ranging w mo r l left) : leftN w mo r = left.length := by
  cases mo with
  | none =>
    obtain ⟨rfl, _⟩ := h
    rfl
  | some M =>
    obtain ⟨es, clock, since, seen, c0, hb, hm, hr, _, _, _, hl⟩ := h
    have := congrArg List.length hl
    simp only [List.length_map, Array.length_toList] at this
    simp only [Proofs.YtkdglkaeglhibaaGreatDoor.leftN, World.rangeLeft, hb, hr]
    exact this
/-- What the pieces come back as. -/
def PcPost (w w' : World) (l : List CF) (v : Value) : Prop :=
  ∃ (d : List P3) (p : Option Addr) (cap : Nat), v = .slice p d.length cap ∧ d.Perm (allP l) ∧ d.Pairwise (fun x y => x.1 ≤ y.1) ∧ Below w.heap.size w w' ∧ (d = [] ∨ ∃ g, p = some ⟨g, 0, none⟩ ∧ w.heap.size ≤ g ∧ HoldsK encP 3 w' g 0 d.toArray)

theorem split_nm {l : List CF} {A B : List (ByteArray × Nat)} {n : ByteArray} {c : Nat} (h : nmL l = A ++ (n, c) :: B) : ∃ LA f LB, l = LA ++ f :: LB ∧ f.name = n ∧ f.c = c ∧ nmL (LA ++ LB) = A ++ B := by
  unfold nmL at h
  obtain ⟨LA, R, e1, eA, eR⟩ := List.map_eq_append_iff.1 h
  obtain ⟨f, LB, e2, ef, eB⟩ := List.map_eq_cons_iff.1 eR
  simp only [Prod.mk.injEq] at ef
  refine ⟨LA, f, LB, by rw [e1, e2], ef.1, ef.2, ?_⟩
  unfold nmL
  rw [List.map_append, eA, eB]
theorem enc_at (l : List P3) : ∀ (j i : Nat) (hj : j < l.length), i < 3 → (l.flatMap encP)[j * 3 + i]? = (encP l[j])[i]? := by
  induction l with
  | nil => intro j i hj; simp at hj
  | cons a l ih =>
    intro j i hj hi
    rw [List.flatMap_cons]
    have ha : (encP a).length = 3 := rfl
    cases j with
    | zero =>
      rw [List.getElem?_append_left (by rw [ha]; omega)]
      simp
    | succ j =>
      rw [List.getElem?_append_right (by rw [ha]; omega), ha, show (j + 1) * 3 + i - 3 = j * 3 + i by omega]
      exact ih j i (by simpa using hj) hi
theorem flat_of {w : World} {g : Nat} {cur : Array Value} {t : TypeId} {acc : List P3} (hb : w.heap[g]? = some (.cells cur t (0, 0))) (ht : cur.toList.take (acc.length * 3) = acc.flatMap encP) : HoldsK encP 3 w g 0 acc.toArray := by
  intro j hj
  rw [size_flatK] at hj
  simp only [List.size_toArray] at hj
  refine ⟨?_, by simp [World.frozen?, hb]⟩
  rw [get_flatK _ _ _ _ (by simpa using hj)]
  have h1 : (cur.toList.take (acc.length * 3))[j]? = (acc.flatMap encP)[j]? := by rw [ht]
  rw [List.getElem?_take_of_lt hj] at h1
  simp only [World.cell?, hb, Nat.zero_add]
  simp only [Option.isSome_none, Bool.false_eq_true, if_false]
  rw [← Array.getElem?_toList, h1]
  have hq : j / 3 < acc.length := by omega
  have hm : j % 3 < 3 := Nat.mod_lt _ (by omega)
  have h2 := enc_at acc (j / 3) (j % 3) hq hm
  rw [show j / 3 * 3 + j % 3 = j by omega] at h2
  rw [h2]
  have h3 : acc.toArray[j / 3]! = acc[j / 3] := by simp [hq]
  rw [h3, List.getElem?_eq_getElem (by simpa [encP] using hm)]
  simp [getElem!_pos, encP, hm]
/-- The world behind the sort. -/
theorem sorted_world {w : World} {g n : Nat} {os : Array Obj} {d d0 : Array P3} (hb : g < w.heap.size) (h0 : HoldsK encP 3 w g 0 d0) (hs : d.size = d0.size) :
    HoldsK encP 3 (sortWorldK encP 3 w g 0 n d os) g 0 d ∧ w.grownBy (sortWorldK encP 3 w g 0 n d os) (some g) := by
  refine ⟨?_, ?_⟩
  · unfold sortWorldK
    refine holdsK_grow _ _ _ _ _ _ _ (by simpa [putRowK, putRow, mapBlock, Sort.ahead] using hb) ?_
    exact holdsK_putRowK _ _ _ _ _ d0 _ (holdsK_ahead _ _ _ _ _ _ _ h0) hs
  · refine ⟨rfl, rfl, rfl, ?_, fun k hk hne => ?_⟩
    · simp [sortWorldK, grow, putRowK, putRow, mapBlock, Sort.ahead]
    · unfold sortWorldK
      rw [heap_grow_old _ _ (by simpa [putRowK, putRow, mapBlock, Sort.ahead] using hk)]
      have hkg : ¬ g = k := fun e => hne (by rw [e])
      simp [putRowK, putRow, mapBlock, Sort.ahead, Array.getElem?_modify, hkg]
theorem perm_list {d0 d : Array P3} (h : PermIn 0 d0.size d0 d) : d.toList.Perm d0.toList ∧ d.size = d0.size := by
  have e1 : d.extract 0 d0.size = d := by rw [← h.1]; simp
  have e2 : d0.extract 0 d0.size = d0 := by simp
  have h2 := h.2.2
  rw [e1, e2] at h2
  exact ⟨h2, h.1⟩
theorem sorted_list {d : Array P3} (h : SortedIn (ltOf cfP) 0 d.size d) : d.toList.Pairwise (fun x y => x.1 ≤ y.1) := by
  rw [List.pairwise_iff_getElem]
  intro i j hi hj hij
  have h1 := h i j (by omega) hij (by simpa using hj)
  rw [ltP] at h1
  simp only [decide_eq_false_iff_not, Nat.not_lt] at h1
  simpa [getElem!_pos, show i < d.size by simpa using hi, show j < d.size by simpa using hj] using h1
theorem sort_pieces (w : World) (base : Nat) (v : Value) (acc : List P3) (hown : w.ownsRow base 62 3 v acc.length (acc.flatMap encP)) (hl : acc.length ≤ 1000000000000) :
    Calls Tryz.prog 53 #[v, .func (.func 54) #[] #[]] w fun e w' => e = .returned (.tuple #[]) ∧ ∃ (d : List P3) (p : Option Addr) (cap : Nat), v = .slice p d.length cap ∧ d.Perm acc ∧ d.Pairwise (fun x y => x.1 ≤ y.1) ∧ w.grownBy w' v.ownBlock ∧ (d = [] ∨ ∃ g, p = some ⟨g, 0, none⟩ ∧ base ≤ g ∧ HoldsK encP 3 w' g 0 d.toArray) := by
  rcases hown.2 with ⟨rfl, h0⟩ | ⟨g, cap, cur, rfl, hbg, hb, _, _, _, htk⟩
  · have e : acc = [] := List.eq_nil_of_length_eq_zero h0
    subst e
    have hcon := AnyF.slices_SortFunc_none Tryz.sortP none 0 (.func (.func 54) #[] #[]) w
    change Calls Tryz.prog 53 _ _ _ at hcon
    exact hcon.mono fun e w' ⟨h1, h2⟩ => ⟨h1, [], none, 0, rfl, List.Perm.refl _, List.Pairwise.nil, by rw [h2]; exact ⟨rfl, rfl, rfl, Nat.le_refl _, fun _ _ _ => rfl⟩, Or.inl rfl⟩
  · have hH := flat_of hb htk
    have hg := lt_of_block hb
    have eg : ∀ args w, (callFunc 54 args).run Tryz.prog w = .ok (.enter 54 args) w := enters_of Tryz.func54 (by kernel_rfl) rfl
    have hcon := AnyQ.slices_SortFunc Tryz.sortP 3 Tryz.isAgg62 Tryz.sizeOf62 encP (fun _ => rfl) (fun x v hv => by simp only [encP, List.mem_cons, List.not_mem_nil, or_false] at hv; rcases hv with rfl | rfl | rfl <;> rfl) cfP swoP 54 #[] g 0 cap acc.toArray w eg (cmpLaysP g 0 acc.toArray.size w) hH hg (by simp; omega)
    change Calls Tryz.prog 53 _ _ _ at hcon
    refine hcon.mono ?_
    rintro e w' ⟨h1, d', n, os, hp, hs, rfl⟩
    obtain ⟨p1, p2⟩ := perm_list hp
    obtain ⟨q1, q2⟩ := sorted_world (n := n) (os := os) hg hH p2
    rw [← p2] at hs
    have e3 : d'.toList.length = acc.length := by rw [Array.length_toList, p2]; simp
    refine ⟨h1, d'.toList, some ⟨g, 0, none⟩, cap, by rw [e3], by simpa using p1, sorted_list hs, q2, Or.inr ⟨g, rfl, hbg, ?_⟩⟩
    simpa using q1
theorem PInv.done {w wr w9 : World} {mo : Option Nat} {l : List CF} {v : Value} {acc d : List P3} (I : PInv w wr mo l v acc []) {p : Option Addr} {cap : Nat} (h1 : v = .slice p d.length cap) (h2 : d.Perm acc) (h3 : d.Pairwise (fun x y => x.1 ≤ y.1)) (h4 : wr.grownBy w9 v.ownBlock) (h5 : d = [] ∨ ∃ g, p = some ⟨g, 0, none⟩ ∧ w.heap.size ≤ g ∧ HoldsK encP 3 w9 g 0 d.toArray) : PcPost w w9 l v := by
  have hpm := I.pm
  have e : allP ([] : List CF) = [] := rfl
  rw [e, List.append_nil] at hpm
  exact ⟨d, p, cap, h1, h2.trans hpm, h3, I.bel.grown h4 I.bel.size (fun k hk => (I.row.lt k hk).1), h5⟩
theorem perm_mid (acc : List P3) (A : List CF) (f : CF) (B : List CF) : (acc ++ allP (A ++ f :: B)).Perm ((acc ++ p3 f) ++ allP (A ++ B)) := by
  unfold allP
  rw [List.flatMap_append, List.flatMap_cons, List.flatMap_append, List.append_assoc]
  refine List.Perm.append_left acc ?_
  rw [← List.append_assoc, ← List.append_assoc]
  exact List.Perm.append_right _ List.perm_append_comm
theorem PInv.ne {w wr : World} {mo : Option Nat} {l : List CF} {v : Value} {acc : List P3} {leftF : List CF} (I : PInv w wr mo l v acc leftF) : v.ownBlock ≠ some w.heap.size := by
  intro e
  have hr := I.rg
  rcases I.row.2 with ⟨e1, _⟩ | ⟨g, cap, cur, e1, _, hb, _⟩
  · rw [e1] at e
    simp [Value.ownBlock] at e
  · rw [e1] at e
    simp only [Value.ownBlock, Option.some.injEq] at e
    subst e
    cases mo with
    | none =>
      obtain ⟨_, _, a, s, b, hr⟩ := hr
      rw [hb] at hr
      simp at hr
    | some M =>
      obtain ⟨es, clock, since, seen, c0, _, _, hr, _⟩ := hr
      rw [hb] at hr
      simp at hr
theorem PInv.step {w wr w2 w3 : World} {mo : Option Nat} {l : List CF} {v v3 : Value} {acc : List P3} {LA LB : List CF} {f : CF} (I : PInv w wr mo l v acc (LA ++ f :: LB)) (hM : ∀ M, mo = some M → M < w.heap.size) (hrg : Ranging w2 mo w.heap.size (nmL l) (nmL (LA ++ LB))) (hg2 : wr.grownBy w2 (some w.heap.size))
    (hg3 : w2.grownBy w3 v.ownBlock) (hrow : w3.ownsRow w.heap.size 62 3 v3 (acc ++ p3 f).length ((acc ++ p3 f).flatMap encP)) : PInv w w3 mo l v3 (acc ++ p3 f) (LA ++ LB) := by
  have hlt := hrg.lt
  have hvr := I.ne
  refine ⟨hrg.kept (fun M e => hg3.block M (Nat.lt_of_lt_of_le (hM M e) (Nat.le_trans I.bel.size hg2.size)) (fun e2 => ?_)) (hg3.block _ hlt (fun e => hvr e.symm)), fun g hg => I.mem g ?_, hrow, (perm_mid acc LA f LB).symm.trans I.pm, ?_⟩
  · have := (I.row.lt M e2.symm).1
    have := hM M e
    omega
  · rcases List.mem_append.1 hg with h | h
    · exact List.mem_append_left _ h
    · exact List.mem_append_right _ (List.mem_cons_of_mem _ h)
  · have b2 : Below w.heap.size w w2 := I.bel.grown hg2 I.bel.size (fun k hk => by cases hk; exact Nat.le_refl _)
    exact b2.grown hg3 b2.size (fun k hk => (I.row.lt k hk).1)
set_option maxHeartbeats 3200000 in
set_option maxRecDepth 100000 in
/-- pieces. -/
theorem pieces_any (w : World) (base D : Nat) (l : List CF) (turns : Nat) (mo : Option Nat) (ro : Nat → Option Nat) (hl : l.length ≤ 100000) (h : CdAt w base D l turns mo ro) :
    Calls Tryz.prog 27 #[.pointer (some ⟨D, 0, none⟩)] w fun e w' => ∃ v, e = .returned v ∧ PcPost w w' l v := by
  have c0 := h.cell0
  obtain ⟨w1, hrun1, hR, hg1, hs1⟩ := range_map h.mp
  have HH : Hid (CdAt w base D l turns mo ro) := h
  have hall : (allP l).length ≤ 1000000000000 := by
    have := allP_length l (fun f hf => (h.each f hf).pl)
    omega
  have HI : PInv w w1 mo l (.slice none 0 0) [] l := ⟨hR, fun f hf => hf, World.ownsRow_nil _ _ _ _, List.Perm.refl _, ⟨hg1.os, hg1.tape, hg1.output, hg1.size, fun k hk => hg1.block k hk (by simp)⟩⟩
  clear h hR hg1 hs1 hl
  go_enter Tryz.func27, Tryz.ntmps27
  go_wp2
  go_loopw [3] (fun v wr => ∃ acc leftF, PInv w wr mo l v acc leftF) (fun _ wr => leftN wr mo w.heap.size)
  case atStart => exact ⟨[], l, HI⟩
  case round =>
    obtain ⟨acc, leftF, I⟩ := hrel
    obtain ⟨pv, nv, cv, rfl⟩ := own_form I.row
    rcases next_map I.rg 0 with ⟨h0, hrun⟩ | ⟨n, c, A, B, w2, hsp, hin, hrun, hrg, hg2, hs2, hen⟩
    · have e0 : leftF = [] := by
        unfold nmL at h0
        exact List.map_eq_nil_iff.1 h0
      subst e0
      have hacc : acc.length ≤ 1000000000000 := by
        have := I.pm.length_eq
        rw [List.length_append] at this
        omega
      have hsort := sort_pieces wr w.heap.size (.slice pv nv cv) acc I.row hacc
      go_wp2_with (go_at_call 53; refine hsort.mono ?_; rintro e w9 ⟨rfl, d, p, cap, h1, h2, h3, h4, h5⟩; have HP : Hid _ := I.done h1 h2 h3 h4 h5; clear h1 h2 h3 h4 h5)
      go_ret
      exact ⟨_, rfl, HP.out⟩
    · obtain ⟨LA, f, LB, rfl, rfl, rfl, hAB⟩ := split_nm hsp
      have hfl := I.mem f (by simp)
      have hF := HH.out.each f hfl
      have hcl := lt_of_block hF.bl
      have HM : Hid (∀ M, mo = some M → M < w.heap.size) := fun M e => (HH.out.bd M (by rw [HH.out.rM M e]; simp)).2
      have b2 : Below w.heap.size w w2 := I.bel.grown hg2 I.bel.size (fun k hk => by cases hk; exact Nat.le_refl _)
      have c2 : w2.cell? ⟨f.c, 2, none⟩ = some f.lv := (b2.cell (p := ⟨f.c, 2, none⟩) hcl).trans hF.cell2
      have hrl : w2.ownsRow base 62 3 f.lv f.ps.length (pcsL f.c f.ps) := own_keep hF.rl (fun g e => b2.block g ((hF.rl.lt g e).2))
      have hrow2 : w2.ownsRow w.heap.size 62 3 (.slice pv nv cv) acc.length (acc.flatMap encP) := own_keep I.row (fun g e => hg2.block g ((I.row.lt g e).2) (fun e2 => I.ne (e.trans e2)))
      have hlen : acc.length + f.ps.length ≤ 1000000000000 := by
        have h1 := I.pm.length_eq
        have h2 := (perm_mid acc LA f LB).length_eq
        rw [h1] at h2
        simp only [List.length_append] at h2
        have h3 : (p3 f).length = f.ps.length := by simp [p3]
        omega
      rw [← hAB] at hrg
      have hms : leftN wr mo w.heap.size = (nmL (LA ++ f :: LB)).length := I.rg.leftN
      change _ = Result.ok (Value.tuple #[_, _, Value.pointer (some ⟨f.c, 0, none⟩)]) w2 at hrun
      change _ = Result.ok (Value.tuple #[_, Value.pointer (some ⟨f.c, 0, none⟩)]) w2 at hen
      have hbase : w.heap.size ≤ w2.heap.size := b2.size
      obtain ⟨lp, ln, lc, hlv⟩ := own_form hF.rl
      rw [hlv] at c2
      have HLV : Hid (f.lv = .slice lp ln lc) := hlv
      clear hF hlv
      go_wp2_with (at_builtin; refine append_pc (f := f) rfl (.tmp 15) (.tmp 19) rfl rfl HLV.out.symm hrow2 hrl hlen hbase ?_; intro v3 w3 hrow3 hg3)
      have I3 := I.step HM.out hrg hg2 hg3 hrow3
      refine ⟨⟨_, _, I3⟩, ?_⟩
      rw [I3.rg.leftN, hms]
      simp [nmL]
end Go.Proofs.YtkdglkaeglhibaaGreatDoor
