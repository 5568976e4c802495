/-
  Parts of the proof, laid together: KPieces, KCrashA, KCrash. The conditions stand at each part.
-/
import Derived.Laws.AppendOwnNone
import Derived.Test.YtodnnhidljfilaaGreatDoorFPackT
import Derived.Test.YtodnnhidljfilaaGreatDoorFSB
/-
  The program's disk: the pieces of all files, in the order in which they were appended. The condition: at most 100000 files.
-/
namespace Go.Proofs.YtodnnhidljfilaaGreatDoor
open Go.RowKit Go.Shelf Go.Lib Go.Sort

/-- A piece: its turn, its size, the file's block. -/
abbrev P3 : Type := Nat × Nat × Nat
def encP (x : P3) : List Value := [.int .i64 (x.1 : Int), .int .i64 (x.2.1 : Int), .pointer (some ⟨x.2.2, 0, none⟩)]
def p3 (f : CF) : List P3 := f.ps.map fun p => (p.1, p.2, f.c)
def allP (l : List CF) : List P3 := l.flatMap p3
theorem pcsL_p3 (f : CF) : pcsL f.c f.ps = (p3 f).flatMap encP := by
  unfold pcsL p3
  rw [List.flatMap_map]
  rfl
theorem encP_length (l : List P3) : (l.flatMap encP).length = l.length * 3 := by
  induction l with
  | nil => rfl
  | cons a l ih =>
    rw [List.flatMap_cons, List.length_append, ih, List.length_cons]
    simp [encP]
    omega
theorem allP_length : ∀ (l : List CF), (∀ f ∈ l, f.ps.length ≤ 4194304) → (allP l).length ≤ l.length * 4194304
  | [], _ => by simp [allP]
  | f :: l, h => by
    have h1 := allP_length l (fun g hg => h g (by simp [hg]))
    have h2 := h f (by simp)
    unfold allP at h1 ⊢
    rw [List.flatMap_cons, List.length_append, List.length_cons]
    have h3 : (p3 f).length = f.ps.length := by simp [p3]
    omega

set_option maxHeartbeats 1000000 in
/-- How two pieces are compared. -/
theorem cmp_pieces (x y : P3) (W : World) : Calls Tryz.prog 93 #[.agg #[.int .i64 (x.1 : Int), .int .i64 (x.2.1 : Int), .pointer (some ⟨x.2.2, 0, none⟩)], .agg #[.int .i64 (y.1 : Int), .int .i64 (y.2.1 : Int), .pointer (some ⟨y.2.2, 0, none⟩)]] W fun e w' =>
    e = .returned (.int .i64 (Lib.compareInt (x.1 : Int) (y.1 : Int))) ∧ ∃ q os', w' = grow (W.drewN q) os' := by
  have hcon := fun W' => Tryz.cmp_Compare_int (x.1 : Int) (y.1 : Int) W'
  generalize Lib.compareInt (x.1 : Int) (y.1 : Int) = r at hcon ⊢
  go_enter Tryz.func93, Tryz.ntmps93
  go_wp2_with (go_at_call 94; refine (hcon _).mono ?_; rintro e w' ⟨rfl, rfl⟩)
  go_ret
  exact ⟨rfl, 0, _, by rw [alloc_eq_grow, alloc_eq_grow, grow_grow]; rfl⟩
def cfP (x y : P3) : Int := Lib.compareInt (x.1 : Int) (y.1 : Int)
theorem cmpLaysP (blk off size : Nat) (w : World) : CmpLays Tryz.prog 93 #[] encP 3 cfP blk off size w :=
  fun _ _ _ _ x y => cmp_pieces x y _
theorem ltP (x y : P3) : ltOf cfP x y = decide (x.1 < y.1) := by
  unfold ltOf cfP Lib.compareInt
  by_cases h1 : (x.1 : Int) < (y.1 : Int)
  · simp [h1]
    omega
  · by_cases h2 : (y.1 : Int) < (x.1 : Int)
    · simp [h1, h2]
      omega
    · simp [h1, h2]
      omega
theorem swoP : SWO (ltOf cfP) where
  irrefl x := by rw [ltP]; simp
  trans x y z h1 h2 := by rw [ltP] at *; simp at *; omega
  ntrans x y z h1 h2 := by rw [ltP] at *; simp at *; omega

/-- Pieces behind a row of pieces of one's own. -/
theorem append_pc {ops : Array Oper} {rest : List Oper} {o : Oper} {a : Act} {w : World} {Q : Exit → Act → World → Prop} (hgd : o.guard = none) (s x : Operand)
    (ho : o.op = .call { callee := .builtin .append, args := #[s, x], argTypes := #[96, 96] }) {base b2 : Nat} {v : Value} {acc : List P3} {f : CF}
    (hs : a.eval s = v) (hx : a.eval x = f.lv) (hown : w.ownsRow base 100 3 v acc.length (acc.flatMap encP)) (hrl : w.ownsRow b2 100 3 f.lv f.ps.length (pcsL f.c f.ps))
    (hl : acc.length + f.ps.length ≤ 1000000000000) (hbase : base ≤ w.heap.size)
    (h : ∀ v' w', w'.ownsRow base 100 3 v' (acc ++ p3 f).length ((acc ++ p3 f).flatMap encP) → w.grownBy w' v.ownBlock → wpList Tryz.prog ops Q rest (a.put o.dst v') w') :
    wpList Tryz.prog ops Q (o :: rest) a w := by
  obtain ⟨i0, hi, hz0, hz1, hz2⟩ := info_parts infoP
  have e1 : (p3 f).length = f.ps.length := by simp [p3]
  rcases hrl.2 with ⟨e, e0⟩ | ⟨g, cap, cur, e, _⟩
  · have e2 : p3 f = [] := List.eq_nil_of_length_eq_zero (by rw [e1, e0])
    have h2 := h v w (by rw [e2, List.append_nil]; exact hown) ⟨rfl, rfl, rfl, Nat.le_refl _, fun _ _ _ => rfl⟩
    exact wpList_append_own_none hgd s x 96 ho base 100 i0 3 Tryz.underlying96 hi v acc.length _ hs hown (hx.trans e) h2
  · have hc : ∀ j u, ((p3 f).flatMap encP)[j]? = some u → w.cell? ((⟨g, 0, none⟩ : Addr).add j) = some u := by
      rw [← pcsL_p3]
      rw [e] at hrl
      exact hrl.cells (g := g) rfl
    refine wpList_append_own w hgd s x 96 ho base 100 i0 _ 3 24 Tryz.underlying96 hi hz0 hz1 hz2 rfl (by decide) v acc.length _ hs hown ⟨g, 0, none⟩ f.ps.length cap ((p3 f).flatMap encP) (hx.trans e) (by rw [encP_length, e1]) hc ?_ (by unfold maxLen; omega) (by omega) hbase ?_
    · intro u hu
      rw [List.mem_flatMap] at hu
      obtain ⟨y, _, hu⟩ := hu
      simp only [encP, List.mem_cons, List.not_mem_nil, or_false] at hu
      rcases hu with rfl | rfl | rfl <;> rfl
    · intro v' w' ho' hg _
      rw [← List.flatMap_append] at ho'
      exact h v' w' (by rw [List.length_append, e1]; exact ho') hg

/-- While the files are gone over. -/
structure PInv (w wr : World) (mo : Option Nat) (l : List CF) (v : Value) (acc : List P3) (leftF : List CF) : Prop where
  rg : Ranging wr mo w.heap.size (nmL l) (nmL leftF)
  mem : ∀ f ∈ leftF, f ∈ l
  row : wr.ownsRow w.heap.size 100 3 v acc.length (acc.flatMap encP)
  pm : (acc ++ allP leftF).Perm (allP l)
  bel : Below w.heap.size w wr
def leftN (w : World) (mo : Option Nat) (r : Nat) : Nat :=
  match mo with
  | none => 0
  | some M => w.rangeLeft M r
theorem Ranging.leftN {w : World} {mo : Option Nat} {r : Nat} {l left : List (ByteArray × Nat)} (h : Ranging w mo r l left) : leftN w mo r = left.length := by
  cases mo with
  | none =>
    obtain ⟨rfl, _⟩ := h
    rfl
  | some M =>
    obtain ⟨es, clock, since, seen, c0, hb, hm, hr, _, _, _, hl⟩ := h
    have := congrArg List.length hl
    simp only [List.length_map, Array.length_toList] at this
    simp only [Proofs.YtodnnhidljfilaaGreatDoor.leftN, World.rangeLeft, hb, hr]
    exact this
/-- What the pieces come back as. -/
def PcPost (w w' : World) (l : List CF) (v : Value) : Prop :=
  ∃ (d : List P3) (p : Option Addr) (cap : Nat), v = .slice p d.length cap ∧ d.Perm (allP l) ∧ d.Pairwise (fun x y => x.1 ≤ y.1) ∧ Below w.heap.size w w' ∧ (d = [] ∨ ∃ g, p = some ⟨g, 0, none⟩ ∧ w.heap.size ≤ g ∧ HoldsK encP 3 w' g 0 d.toArray)

theorem split_nm {l : List CF} {A B : List (ByteArray × Nat)} {n : ByteArray} {c : Nat} (h : nmL l = A ++ (n, c) :: B) : ∃ LA f LB, l = LA ++ f :: LB ∧ f.name = n ∧ f.c = c ∧ nmL (LA ++ LB) = A ++ B := by
  unfold nmL at h
  obtain ⟨LA, R, e1, eA, eR⟩ := List.map_eq_append_iff.1 h
  obtain ⟨f, LB, e2, ef, eB⟩ := List.map_eq_cons_iff.1 eR
  simp only [Prod.mk.injEq] at ef
  refine ⟨LA, f, LB, by rw [e1, e2], ef.1, ef.2, ?_⟩
  unfold nmL
  rw [List.map_append, eA, eB]
theorem enc_at (l : List P3) : ∀ (j i : Nat) (hj : j < l.length), i < 3 → (l.flatMap encP)[j * 3 + i]? = (encP l[j])[i]? := by
  induction l with
  | nil => intro j i hj; simp at hj
  | cons a l ih =>
    intro j i hj hi
    rw [List.flatMap_cons]
    have ha : (encP a).length = 3 := rfl
    cases j with
    | zero =>
      rw [List.getElem?_append_left (by rw [ha]; omega)]
      simp
    | succ j =>
      rw [List.getElem?_append_right (by rw [ha]; omega), ha, show (j + 1) * 3 + i - 3 = j * 3 + i by omega]
      exact ih j i (by simpa using hj) hi
theorem flat_of {w : World} {g : Nat} {cur : Array Value} {t : TypeId} {acc : List P3} (hb : w.heap[g]? = some (.cells cur t (0, 0))) (ht : cur.toList.take (acc.length * 3) = acc.flatMap encP) : HoldsK encP 3 w g 0 acc.toArray := by
  intro j hj
  rw [size_flatK] at hj
  simp only [List.size_toArray] at hj
  refine ⟨?_, by simp [World.frozen?, hb]⟩
  rw [get_flatK _ _ _ _ (by simpa using hj)]
  have h1 : (cur.toList.take (acc.length * 3))[j]? = (acc.flatMap encP)[j]? := by rw [ht]
  rw [List.getElem?_take_of_lt hj] at h1
  simp only [World.cell?, hb, Nat.zero_add]
  simp only [Option.isSome_none, Bool.false_eq_true, if_false]
  rw [← Array.getElem?_toList, h1]
  have hq : j / 3 < acc.length := by omega
  have hm : j % 3 < 3 := Nat.mod_lt _ (by omega)
  have h2 := enc_at acc (j / 3) (j % 3) hq hm
  rw [show j / 3 * 3 + j % 3 = j by omega] at h2
  rw [h2]
  have h3 : acc.toArray[j / 3]! = acc[j / 3] := by simp [hq]
  rw [h3, List.getElem?_eq_getElem (by simpa [encP] using hm)]
  simp [getElem!_pos, encP, hm]
/-- The world behind the sort. -/
theorem sorted_world {w : World} {g n : Nat} {os : Array Obj} {d d0 : Array P3} (hb : g < w.heap.size) (h0 : HoldsK encP 3 w g 0 d0) (hs : d.size = d0.size) :
    HoldsK encP 3 (sortWorldK encP 3 w g 0 n d os) g 0 d ∧ w.grownBy (sortWorldK encP 3 w g 0 n d os) (some g) := by
  refine ⟨?_, ?_⟩
  · unfold sortWorldK
    refine holdsK_grow _ _ _ _ _ _ _ (by simpa [putRowK, putRow, mapBlock, Sort.ahead] using hb) ?_
    exact holdsK_putRowK _ _ _ _ _ d0 _ (holdsK_ahead _ _ _ _ _ _ _ h0) hs
  · refine ⟨rfl, rfl, rfl, ?_, fun k hk hne => ?_⟩
    · simp [sortWorldK, grow, putRowK, putRow, mapBlock, Sort.ahead]
    · unfold sortWorldK
      rw [heap_grow_old _ _ (by simpa [putRowK, putRow, mapBlock, Sort.ahead] using hk)]
      have hkg : ¬ g = k := fun e => hne (by rw [e])
      simp [putRowK, putRow, mapBlock, Sort.ahead, Array.getElem?_modify, hkg]
theorem perm_list {d0 d : Array P3} (h : PermIn 0 d0.size d0 d) : d.toList.Perm d0.toList ∧ d.size = d0.size := by
  have e1 : d.extract 0 d0.size = d := by rw [← h.1]; simp
  have e2 : d0.extract 0 d0.size = d0 := by simp
  have h2 := h.2.2
  rw [e1, e2] at h2
  exact ⟨h2, h.1⟩
theorem sorted_list {d : Array P3} (h : SortedIn (ltOf cfP) 0 d.size d) : d.toList.Pairwise (fun x y => x.1 ≤ y.1) := by
  rw [List.pairwise_iff_getElem]
  intro i j hi hj hij
  have h1 := h i j (by omega) hij (by simpa using hj)
  rw [ltP] at h1
  simp only [decide_eq_false_iff_not, Nat.not_lt] at h1
  simpa [getElem!_pos, show i < d.size by simpa using hi, show j < d.size by simpa using hj] using h1
theorem sort_pieces (w : World) (base : Nat) (v : Value) (acc : List P3) (hown : w.ownsRow base 100 3 v acc.length (acc.flatMap encP)) (hl : acc.length ≤ 1000000000000) :
    Calls Tryz.prog 92 #[v, .func (.func 93) #[] #[]] w fun e w' => e = .returned (.tuple #[]) ∧ ∃ (d : List P3) (p : Option Addr) (cap : Nat), v = .slice p d.length cap ∧ d.Perm acc ∧ d.Pairwise (fun x y => x.1 ≤ y.1) ∧ w.grownBy w' v.ownBlock ∧ (d = [] ∨ ∃ g, p = some ⟨g, 0, none⟩ ∧ base ≤ g ∧ HoldsK encP 3 w' g 0 d.toArray) := by
  rcases hown.2 with ⟨rfl, h0⟩ | ⟨g, cap, cur, rfl, hbg, hb, _, _, _, htk⟩
  · have e : acc = [] := List.eq_nil_of_length_eq_zero h0
    subst e
    have hcon := AnyF.slices_SortFunc_none Tryz.sortP none 0 (.func (.func 93) #[] #[]) w
    change Calls Tryz.prog 92 _ _ _ at hcon
    exact hcon.mono fun e w' ⟨h1, h2⟩ => ⟨h1, [], none, 0, rfl, List.Perm.refl _, List.Pairwise.nil, by rw [h2]; exact ⟨rfl, rfl, rfl, Nat.le_refl _, fun _ _ _ => rfl⟩, Or.inl rfl⟩
  · have hH := flat_of hb htk
    have hg := lt_of_block hb
    have eg : ∀ args w, (callFunc 93 args).run Tryz.prog w = .ok (.enter 93 args) w := enters_of Tryz.func93 (by kernel_rfl) rfl
    have hcon := AnyQ.slices_SortFunc Tryz.sortP 3 Tryz.isAgg100 Tryz.sizeOf100 encP (fun _ => rfl) (fun x v hv => by simp only [encP, List.mem_cons, List.not_mem_nil, or_false] at hv; rcases hv with rfl | rfl | rfl <;> rfl) cfP swoP 93 #[] g 0 cap acc.toArray w eg (cmpLaysP g 0 acc.toArray.size w) hH hg (by simp; omega)
    change Calls Tryz.prog 92 _ _ _ at hcon
    refine hcon.mono ?_
    rintro e w' ⟨h1, d', n, os, hp, hs, rfl⟩
    obtain ⟨p1, p2⟩ := perm_list hp
    obtain ⟨q1, q2⟩ := sorted_world (n := n) (os := os) hg hH p2
    rw [← p2] at hs
    have e3 : d'.toList.length = acc.length := by rw [Array.length_toList, p2]; simp
    refine ⟨h1, d'.toList, some ⟨g, 0, none⟩, cap, by rw [e3], by simpa using p1, sorted_list hs, q2, Or.inr ⟨g, rfl, hbg, ?_⟩⟩
    simpa using q1
theorem PInv.done {w wr w9 : World} {mo : Option Nat} {l : List CF} {v : Value} {acc d : List P3} (I : PInv w wr mo l v acc []) {p : Option Addr} {cap : Nat} (h1 : v = .slice p d.length cap) (h2 : d.Perm acc) (h3 : d.Pairwise (fun x y => x.1 ≤ y.1)) (h4 : wr.grownBy w9 v.ownBlock) (h5 : d = [] ∨ ∃ g, p = some ⟨g, 0, none⟩ ∧ w.heap.size ≤ g ∧ HoldsK encP 3 w9 g 0 d.toArray) : PcPost w w9 l v := by
  have hpm := I.pm
  have e : allP ([] : List CF) = [] := rfl
  rw [e, List.append_nil] at hpm
  exact ⟨d, p, cap, h1, h2.trans hpm, h3, I.bel.grown h4 I.bel.size (fun k hk => (I.row.lt k hk).1), h5⟩
theorem perm_mid (acc : List P3) (A : List CF) (f : CF) (B : List CF) : (acc ++ allP (A ++ f :: B)).Perm ((acc ++ p3 f) ++ allP (A ++ B)) := by
  unfold allP
  rw [List.flatMap_append, List.flatMap_cons, List.flatMap_append, List.append_assoc]
  refine List.Perm.append_left acc ?_
  rw [← List.append_assoc, ← List.append_assoc]
  exact List.Perm.append_right _ List.perm_append_comm
theorem PInv.ne {w wr : World} {mo : Option Nat} {l : List CF} {v : Value} {acc : List P3} {leftF : List CF} (I : PInv w wr mo l v acc leftF) : v.ownBlock ≠ some w.heap.size := by
  intro e
  have hr := I.rg
  rcases I.row.2 with ⟨e1, _⟩ | ⟨g, cap, cur, e1, _, hb, _⟩
  · rw [e1] at e
    simp [Value.ownBlock] at e
  · rw [e1] at e
    simp only [Value.ownBlock, Option.some.injEq] at e
    subst e
    cases mo with
    | none =>
      obtain ⟨_, _, a, s, b, hr⟩ := hr
      rw [hb] at hr
      simp at hr
    | some M =>
      obtain ⟨es, clock, since, seen, c0, _, _, hr, _⟩ := hr
      rw [hb] at hr
      simp at hr
theorem PInv.step {w wr w2 w3 : World} {mo : Option Nat} {l : List CF} {v v3 : Value} {acc : List P3} {LA LB : List CF} {f : CF} (I : PInv w wr mo l v acc (LA ++ f :: LB)) (hM : ∀ M, mo = some M → M < w.heap.size) (hrg : Ranging w2 mo w.heap.size (nmL l) (nmL (LA ++ LB))) (hg2 : wr.grownBy w2 (some w.heap.size))
    (hg3 : w2.grownBy w3 v.ownBlock) (hrow : w3.ownsRow w.heap.size 100 3 v3 (acc ++ p3 f).length ((acc ++ p3 f).flatMap encP)) : PInv w w3 mo l v3 (acc ++ p3 f) (LA ++ LB) := by
  have hlt := hrg.lt
  have hvr := I.ne
  refine ⟨hrg.kept (fun M e => hg3.block M (Nat.lt_of_lt_of_le (hM M e) (Nat.le_trans I.bel.size hg2.size)) (fun e2 => ?_)) (hg3.block _ hlt (fun e => hvr e.symm)), fun g hg => I.mem g ?_, hrow, (perm_mid acc LA f LB).symm.trans I.pm, ?_⟩
  · have := (I.row.lt M e2.symm).1
    have := hM M e
    omega
  · rcases List.mem_append.1 hg with h | h
    · exact List.mem_append_left _ h
    · exact List.mem_append_right _ (List.mem_cons_of_mem _ h)
  · have b2 : Below w.heap.size w w2 := I.bel.grown hg2 I.bel.size (fun k hk => by cases hk; exact Nat.le_refl _)
    exact b2.grown hg3 b2.size (fun k hk => (I.row.lt k hk).1)
set_option maxHeartbeats 3200000 in
set_option maxRecDepth 100000 in
/-- pieces. -/
theorem pieces_any (w : World) (base D : Nat) (l : List CF) (turns : Nat) (mo : Option Nat) (ro : Nat → Option Nat) (hl : l.length ≤ 100000) (h : CdAt w base D l turns mo ro) :
    Calls Tryz.prog 52 #[.pointer (some ⟨D, 0, none⟩)] w fun e w' => ∃ v, e = .returned v ∧ PcPost w w' l v := by
  have c0 := h.cell0
  obtain ⟨w1, hrun1, hR, hg1, hs1⟩ := range_map h.mp
  have HH : Hid (CdAt w base D l turns mo ro) := h
  have hall : (allP l).length ≤ 1000000000000 := by
    have := allP_length l (fun f hf => (h.each f hf).pl)
    omega
  have HI : PInv w w1 mo l (.slice none 0 0) [] l := ⟨hR, fun f hf => hf, World.ownsRow_nil _ _ _ _, List.Perm.refl _, ⟨hg1.os, hg1.tape, hg1.output, hg1.size, fun k hk => hg1.block k hk (by simp)⟩⟩
  clear h hR hg1 hs1 hl
  go_enter Tryz.func52, Tryz.ntmps52
  go_wp2
  go_loopw [3] (fun v wr => ∃ acc leftF, PInv w wr mo l v acc leftF) (fun _ wr => leftN wr mo w.heap.size)
  case atStart => exact ⟨[], l, HI⟩
  case round =>
    obtain ⟨acc, leftF, I⟩ := hrel
    obtain ⟨pv, nv, cv, rfl⟩ := own_form I.row
    rcases next_map I.rg 0 with ⟨h0, hrun⟩ | ⟨n, c, A, B, w2, hsp, hin, hrun, hrg, hg2, hs2, hen⟩
    · have e0 : leftF = [] := by
        unfold nmL at h0
        exact List.map_eq_nil_iff.1 h0
      subst e0
      have hacc : acc.length ≤ 1000000000000 := by
        have := I.pm.length_eq
        rw [List.length_append] at this
        omega
      have hsort := sort_pieces wr w.heap.size (.slice pv nv cv) acc I.row hacc
      go_wp2_with (go_at_call 92; refine hsort.mono ?_; rintro e w9 ⟨rfl, d, p, cap, h1, h2, h3, h4, h5⟩; have HP : Hid _ := I.done h1 h2 h3 h4 h5; clear h1 h2 h3 h4 h5)
      go_ret
      exact ⟨_, rfl, HP.out⟩
    · obtain ⟨LA, f, LB, rfl, rfl, rfl, hAB⟩ := split_nm hsp
      have hfl := I.mem f (by simp)
      have hF := HH.out.each f hfl
      have hcl := lt_of_block hF.bl
      have HM : Hid (∀ M, mo = some M → M < w.heap.size) := fun M e => (HH.out.bd M (by rw [HH.out.rM M e]; simp)).2
      have b2 : Below w.heap.size w w2 := I.bel.grown hg2 I.bel.size (fun k hk => by cases hk; exact Nat.le_refl _)
      have c2 : w2.cell? ⟨f.c, 2, none⟩ = some f.lv := (b2.cell (p := ⟨f.c, 2, none⟩) hcl).trans hF.cell2
      have hrl : w2.ownsRow base 100 3 f.lv f.ps.length (pcsL f.c f.ps) := own_keep hF.rl (fun g e => b2.block g ((hF.rl.lt g e).2))
      have hrow2 : w2.ownsRow w.heap.size 100 3 (.slice pv nv cv) acc.length (acc.flatMap encP) := own_keep I.row (fun g e => hg2.block g ((I.row.lt g e).2) (fun e2 => I.ne (e.trans e2)))
      have hlen : acc.length + f.ps.length ≤ 1000000000000 := by
        have h1 := I.pm.length_eq
        have h2 := (perm_mid acc LA f LB).length_eq
        rw [h1] at h2
        simp only [List.length_append] at h2
        have h3 : (p3 f).length = f.ps.length := by simp [p3]
        omega
      rw [← hAB] at hrg
      have hms : leftN wr mo w.heap.size = (nmL (LA ++ f :: LB)).length := I.rg.leftN
      change _ = Result.ok (Value.tuple #[_, _, Value.pointer (some ⟨f.c, 0, none⟩)]) w2 at hrun
      change _ = Result.ok (Value.tuple #[_, Value.pointer (some ⟨f.c, 0, none⟩)]) w2 at hen
      have hbase : w.heap.size ≤ w2.heap.size := b2.size
      obtain ⟨lp, ln, lc, hlv⟩ := own_form hF.rl
      rw [hlv] at c2
      have HLV : Hid (f.lv = .slice lp ln lc) := hlv
      clear hF hlv
      go_wp2_with (at_builtin; refine append_pc (f := f) rfl (.tmp 15) (.tmp 19) rfl rfl HLV.out.symm hrow2 hrl hlen hbase ?_; intro v3 w3 hrow3 hg3)
      have I3 := I.step HM.out hrg hg2 hg3 hrow3
      refine ⟨⟨_, _, I3⟩, ?_⟩
      rw [I3.rg.leftN, hms]
      simp [nmL]
end Go.Proofs.YtodnnhidljfilaaGreatDoor
/-
  What a crash leaves of the program's disk, as plain data. No condition.
-/
namespace Go.Proofs.YtodnnhidljfilaaGreatDoor
open Go.RowKit Go.Sort

/-- How much of a file's pieces is kept; how much may still be kept behind them; how much there is of a file's. -/
def keptA : List P3 → Nat → Nat → Nat
  | [], _, _ => 0
  | x :: r, K, c => (if x.2.2 = c then min x.2.1 K else 0) + keptA r (K - min x.2.1 K) c
def leftA : List P3 → Nat → Nat
  | [], K => K
  | x :: r, K => leftA r (K - min x.2.1 K)
def sumC : List P3 → Nat → Nat
  | [], _ => 0
  | x :: r, c => (if x.2.2 = c then x.2.1 else 0) + sumC r c
theorem keptA_snoc (x : P3) (c : Nat) : ∀ (d : List P3) (K : Nat), keptA (d ++ [x]) K c = keptA d K c + (if x.2.2 = c then min x.2.1 (leftA d K) else 0)
  | [], K => by simp [keptA, leftA]
  | y :: d, K => by
    rw [List.cons_append]
    simp only [keptA, leftA]
    rw [keptA_snoc x c d]
    omega
theorem leftA_snoc (x : P3) : ∀ (d : List P3) (K : Nat), leftA (d ++ [x]) K = leftA d K - min x.2.1 (leftA d K)
  | [], K => by simp [leftA]
  | y :: d, K => by
    rw [List.cons_append]
    simp only [leftA]
    rw [leftA_snoc x d]
theorem leftA_le : ∀ (d : List P3) (K : Nat), leftA d K ≤ K
  | [], K => Nat.le_refl _
  | y :: d, K => by
    simp only [leftA]
    have := leftA_le d (K - min y.2.1 K)
    omega
theorem keptA_le (c : Nat) : ∀ (d : List P3) (K : Nat), keptA d K c ≤ sumC d c
  | [], K => Nat.le_refl _
  | y :: d, K => by
    simp only [keptA, sumC]
    have := keptA_le c d (K - min y.2.1 K)
    by_cases h : y.2.2 = c
    · rw [if_pos h, if_pos h]
      omega
    · rw [if_neg h, if_neg h]
      omega
theorem sumC_append (c : Nat) : ∀ (d e : List P3), sumC (d ++ e) c = sumC d c + sumC e c
  | [], e => by simp [sumC]
  | y :: d, e => by
    rw [List.cons_append]
    simp only [sumC]
    rw [sumC_append c d e]
    omega
theorem sumC_take (c k : Nat) (d : List P3) : sumC (d.take k) c ≤ sumC d c := by
  have h := sumC_append c (d.take k) (d.drop k)
  rw [List.take_append_drop] at h
  omega
theorem sumC_perm (c : Nat) {d e : List P3} (h : d.Perm e) : sumC d c = sumC e c := by
  induction h with
  | nil => rfl
  | cons x _ ih => simp only [sumC, ih]
  | swap x y l => simp only [sumC]; omega
  | trans _ _ h1 h2 => exact h1.trans h2
theorem sumC_other {c : Nat} : ∀ (d : List P3), (∀ x ∈ d, x.2.2 ≠ c) → sumC d c = 0
  | [], _ => rfl
  | y :: d, h => by
    simp only [sumC]
    rw [if_neg (h y (by simp)), sumC_other d (fun x hx => h x (by simp [hx]))]
theorem sumC_own (f : CF) : sumC (p3 f) f.c = tot f.ps := by
  unfold p3 tot
  generalize f.ps = ps
  induction ps with
  | nil => rfl
  | cons p ps ih =>
    simp only [List.map_cons, List.sum_cons, sumC]
    rw [if_pos trivial, ih]
theorem p3_c {f : CF} {x : P3} (h : x ∈ p3 f) : x.2.2 = f.c := by
  unfold p3 at h
  obtain ⟨p, _, rfl⟩ := List.mem_map.1 h
  rfl
theorem sumC_all {l : List CF} (hn : (l.map (·.c)).Nodup) {f : CF} (hf : f ∈ l) : sumC (allP l) f.c = tot f.ps := by
  induction l with
  | nil => simp at hf
  | cons g l ih =>
    rw [List.map_cons, List.nodup_cons] at hn
    unfold allP at ih ⊢
    rw [List.flatMap_cons, sumC_append]
    rcases List.mem_cons.1 hf with e | hf2
    · subst e
      rw [sumC_own, sumC_other _ (fun x hx => ?_)]
      · rfl
      · obtain ⟨h, hh, hx⟩ := List.mem_flatMap.1 hx
        rw [p3_c hx]
        intro e
        exact hn.1 (by rw [← e]; exact List.mem_map.2 ⟨h, hh, rfl⟩)
    · rw [ih hn.2 hf2, sumC_other _ (fun x hx => ?_)]
      · omega
      · rw [p3_c hx]
        intro e
        exact hn.1 (by rw [e]; exact List.mem_map.2 ⟨f, hf2, rfl⟩)
theorem p3_size {l : List CF} {x : P3} (h : x ∈ allP l) : ∃ f ∈ l, f.c = x.2.2 ∧ (x.1, x.2.1) ∈ f.ps := by
  obtain ⟨f, hf, hx⟩ := List.mem_flatMap.1 h
  unfold p3 at hx
  obtain ⟨p, hp, rfl⟩ := List.mem_map.1 hx
  exact ⟨f, hf, rfl, hp⟩
theorem tot_mem : ∀ {ps : List (Nat × Nat)} {p : Nat × Nat}, p ∈ ps → p.2 ≤ tot ps
  | q :: ps, p, h => by
    unfold tot
    rw [List.map_cons, List.sum_cons]
    rcases List.mem_cons.1 h with rfl | h
    · omega
    · have := tot_mem h
      unfold tot at this
      omega
/-- How many bytes of a file are sure behind the crash. -/
def sureN (d : List P3) (K : Nat) (f : CF) : Nat := f.sure + keptA d K f.c
def cutV : Value → Nat → Value
  | .slice a _ cap, n => .slice a n cap
  | v, _ => v
def crashF (d : List P3) (K : Nat) (f : CF) : CF := { f with bv := cutV f.bv (sureN d K f), lv := .slice none 0 0, bs := f.bs.take (sureN d K f), sure := sureN d K f, ps := [] }

/-- While the pieces are gone over: world wp behind the pieces, wr now. -/
structure CInv (wp wr : World) (l : List CF) (s : CF → Nat) : Prop where
  co : ∀ f ∈ l, wr.heap[f.c]? = some (.cells #[f.bv, .int .i64 (s f : Int), f.lv] 103 (0, 0))
  oth : ∀ b, b < wp.heap.size → (∀ f ∈ l, b ≠ f.c) → wr.heap[b]? = wp.heap[b]?
  os : wr.os = wp.os
  tape : wr.tape = wp.tape
  output : wr.output = wp.output
  size : wp.heap.size ≤ wr.heap.size
theorem CInv.step {wp wr : World} {l : List CF} {s s' : CF → Nat} (I : CInv wp wr l s) (hn : (l.map (·.c)).Nodup) {f : CF} (hf : f ∈ l) (hs : ∀ g ∈ l, g.c ≠ f.c → s' g = s g) (o : Obj) :
    CInv wp ((wr.setCell ⟨f.c, 1, none⟩ (.int .i64 (s' f : Int))).alloc o) l s' := by
  have hlt : ∀ g ∈ l, g.c < wr.heap.size := fun g hg => lt_of_block (I.co g hg)
  refine ⟨fun g hg => ?_, fun b hb hne => ?_, I.os, I.tape, I.output, by simp; have := I.size; omega⟩
  · rw [heap_alloc_old _ _ (by simpa using hlt g hg)]
    by_cases e : g.c = f.c
    · have := nodup_at hn hf hg e
      subst this
      rw [heap_setCell_same wr g.c 1 _ _ _ (I.co g hg)]
      rfl
    · rw [heap_setCell_other _ _ _ _ (by simpa using e), hs g hg e]
      exact I.co g hg
  · have := I.size
    rw [heap_alloc_old _ _ (by simp; omega), heap_setCell_other _ _ _ _ (by simpa using hne f hf)]
    exact I.oth b hb hne

/-- While the files are cut: 'left' is still to come. -/
structure DInv (wq wr : World) (mo : Option Nat) (r : Nat) (l : List CF) (s : CF → Nat) (left : List CF) : Prop where
  rg : Ranging wr mo r (nmL l) (nmL left)
  mem : ∀ f ∈ left, f ∈ l
  nd : (left.map (·.c)).Nodup
  co : ∀ f ∈ l, f.c ∈ left.map (·.c) → wr.heap[f.c]? = some (.cells #[f.bv, .int .i64 (s f : Int), f.lv] 103 (0, 0))
  cu : ∀ f ∈ l, ¬ f.c ∈ left.map (·.c) → wr.heap[f.c]? = some (.cells #[cutV f.bv (s f), .int .i64 (s f : Int), .slice none 0 0] 103 (0, 0))
  oth : ∀ b, b < wq.heap.size → (∀ f ∈ l, b ≠ f.c) → b ≠ r → wr.heap[b]? = wq.heap[b]?
  os : wr.os = wq.os
  tape : wr.tape = wq.tape
  output : wr.output = wq.output
  size : wq.heap.size ≤ wr.heap.size
theorem DInv.step {wq wr w2 : World} {mo : Option Nat} {r : Nat} {l : List CF} {s : CF → Nat} {LA LB : List CF} {f : CF} (I : DInv wq wr mo r l s (LA ++ f :: LB)) (hn : (l.map (·.c)).Nodup) (hrg : Ranging w2 mo r (nmL l) (nmL (LA ++ LB))) (hg2 : wr.grownBy w2 (some r)) (hs2 : w2.heap.size = wr.heap.size)
    (hr : ∀ g ∈ l, g.c ≠ r) (hM : ∀ M, mo = some M → M < wq.heap.size ∧ ∀ g ∈ l, M ≠ g.c) : DInv wq ((w2.setCell ⟨f.c, 0, none⟩ (cutV f.bv (s f))).setCell ⟨f.c, 2, none⟩ (.slice none 0 0)) mo r l s (LA ++ LB) := by
  have hfl : f ∈ l := I.mem f (by simp)
  have hfc : f.c ∈ (LA ++ f :: LB).map (·.c) := List.mem_map.2 ⟨f, by simp, rfl⟩
  have hlt : ∀ g ∈ l, g.c < wr.heap.size := fun g hg => by
    by_cases e : g.c ∈ (LA ++ f :: LB).map (·.c)
    · exact lt_of_block (I.co g hg e)
    · exact lt_of_block (I.cu g hg e)
  have k2 : ∀ g ∈ l, w2.heap[g.c]? = wr.heap[g.c]? := fun g hg => hg2.block g.c (hlt g hg) (by simpa using hr g hg)
  have bo : ∀ b, b ≠ f.c → ((w2.setCell ⟨f.c, 0, none⟩ (cutV f.bv (s f))).setCell ⟨f.c, 2, none⟩ (.slice none 0 0)).heap[b]? = w2.heap[b]? := fun b hb => by
    rw [heap_setCell_other _ _ _ _ (by simpa using hb), heap_setCell_other _ _ _ _ (by simpa using hb)]
  have hnd : ((LA ++ LB).map (·.c)).Nodup ∧ ¬ f.c ∈ (LA ++ LB).map (·.c) := by
    have h1 := I.nd
    rw [List.map_append, List.map_cons] at h1
    have h2 := (List.perm_middle (a := f.c) (l₁ := LA.map (·.c)) (l₂ := LB.map (·.c))).nodup_iff.1 h1
    rw [List.nodup_cons] at h2
    rw [List.map_append]
    exact ⟨h2.2, h2.1⟩
  have mem_of : ∀ g : CF, g.c ≠ f.c → (g.c ∈ (LA ++ f :: LB).map (·.c) ↔ g.c ∈ (LA ++ LB).map (·.c)) := fun g hg => by
    simp only [List.map_append, List.map_cons, List.mem_append, List.mem_cons]
    constructor
    · rintro (h | h | h)
      · exact Or.inl h
      · exact absurd h hg
      · exact Or.inr h
    · rintro (h | h)
      · exact Or.inl h
      · exact Or.inr (Or.inr h)
  refine ⟨hrg.kept (fun M e => bo M ((hM M e).2 f hfl)) (bo r (fun e => hr f hfl e.symm)), fun g hg => I.mem g ?_, hnd.1, fun g hg hm => ?_, fun g hg hm => ?_, fun b hb hne hbr => ?_, hg2.os.trans I.os, hg2.tape.trans I.tape, hg2.output.trans I.output, by simp; have := I.size; omega⟩
  · rcases List.mem_append.1 hg with h | h
    · exact List.mem_append_left _ h
    · exact List.mem_append_right _ (List.mem_cons_of_mem _ h)
  · have e : g.c ≠ f.c := fun e => hnd.2 (by rw [← e]; exact hm)
    rw [bo g.c e, k2 g hg]
    exact I.co g hg ((mem_of g e).2 hm)
  · by_cases e : g.c = f.c
    · have := nodup_at hn hfl hg e
      subst this
      have b0 := (k2 g hg).trans (I.co g hg hfc)
      have b1 := heap_setCell_same w2 g.c 0 _ _ (cutV g.bv (s g)) b0
      rw [heap_setCell_same _ g.c 2 _ _ _ b1]
      rfl
    · rw [bo g.c e, k2 g hg]
      exact I.cu g hg (fun h => hm ((mem_of g e).1 h))
  · rw [bo b (hne f hfl)]
    have := I.size
    rw [hg2.block b (by omega) (by simpa using hbr)]
    exact I.oth b hb hne hbr
theorem cut_own {w w' : World} {base n m : Nat} {v : Value} {bs : List UInt8} (h : w.ownsRow base 5 1 v n (Lib.byteCells bs)) (hn : bs.length = n) (hm : m ≤ n) (hk : ∀ g, v.ownBlock = some g → w'.heap[g]? = w.heap[g]?) : w'.ownsRow base 5 1 (cutV v m) (bs.take m).length (Lib.byteCells (bs.take m)) := by
  have e1 : (bs.take m).length = m := by rw [List.length_take]; omega
  have e2 : Lib.byteCells (bs.take m) = (Lib.byteCells bs).take m := by simp [Lib.byteCells, List.map_take]
  rw [e1, e2]
  refine ⟨by rw [List.length_take, h.1]; omega, ?_⟩
  rcases h.2 with ⟨rfl, h0⟩ | ⟨g, cap, cur, rfl, h2, h3, h4, h5, h6, h7⟩
  · left
    have : m = 0 := by omega
    subst this
    exact ⟨rfl, rfl⟩
  · right
    refine ⟨g, cap, cur, rfl, h2, (hk g rfl).trans h3, by omega, h5, h6, ?_⟩
    rw [← h7, List.take_take]
    congr 1
    omega
theorem cut_block (v : Value) (n : Nat) : (cutV v n).ownBlock = v.ownBlock := by
  cases v with
  | slice a len cap => cases a <;> rfl
  | _ => rfl
/-- The end of a crash. -/
theorem crash_end {w wp wq wr : World} {base D : Nat} {l : List CF} {turns : Nat} {mo : Option Nat} {ro : Nat → Option Nat} {d : List P3} {K r : Nat} (h : CdAt w base D l turns mo ro) (hp : d.Perm (allP l)) (hwp : Below w.heap.size w wp) (I : CInv wp wq l (sureN d K)) (hr : wq.heap.size = r) (J : DInv wq wr mo r l (sureN d K) []) :
    CdAt wr base D (l.map (crashF d K)) turns mo ro ∧ Ext w wr ro ro := by
  have lt : ∀ b x, ro b = some x → b < w.heap.size := fun b x e => (h.bd b (by rw [e]; simp)).2
  have sz1 := hwp.size
  have sz2 := I.size
  have ko : ∀ b, b < w.heap.size → (∀ f ∈ l, b ≠ f.c) → wr.heap[b]? = w.heap[b]? := fun b hb hne => by
    rw [J.oth b (by omega) hne (by omega), I.oth b (by omega) hne]
    exact hwp.block b hb
  have hle : ∀ f ∈ l, sureN d K f ≤ f.bs.length := fun f hf => by
    unfold sureN
    have h1 := keptA_le f.c d K
    rw [sumC_perm f.c hp, sumC_all h.nd hf] at h1
    have h2 := (h.each f hf).sm
    omega
  have hcs : (l.map (crashF d K)).map (·.c) = l.map (·.c) := by
    rw [List.map_map]
    rfl
  have hnm : nmL (l.map (crashF d K)) = nmL l := by
    unfold nmL
    rw [List.map_map]
    rfl
  refine ⟨⟨(ko D (lt D D h.rD) (fun f hf e => h.neD hf e.symm)).trans h.bl, ?_, fun f' hf' => ?_, h.rD, h.rM, by rw [hcs]; exact h.nd, fun b hb => ⟨(h.bd b hb).1, by have := (h.bd b hb).2; have := J.size; omega⟩⟩, J.os.trans (I.os.trans hwp.os), J.tape.trans (I.tape.trans hwp.tape), J.output.trans (I.output.trans hwp.output), by have := J.size; omega, fun _ _ => rfl, fun b hb hro => ko b hb ?_⟩
  · rw [hnm]
    cases hm : mo with
    | none =>
      have := h.mp
      rw [hm] at this
      exact this
    | some M =>
      have := h.mp
      rw [hm] at this
      refine MapAt.kept this (ko M (lt M D (h.rM M hm)) (fun f hf e => ?_))
      have h1 := (h.each f hf).rc
      rw [← e, h.rM M hm] at h1
      exact h.neD hf (by rw [← e]; exact (Option.some.inj h1).symm)
  · obtain ⟨f, hf, rfl⟩ := List.mem_map.1 hf'
    have hF := h.each f hf
    have hg : ∀ g, f.bv.ownBlock = some g → wr.heap[g]? = w.heap[g]? := fun g e => ko g (lt g _ (hF.ob g e)) (fun f2 hf2 e2 => by
      have h2 := (h.each f2 hf2).bl
      rw [← e2] at h2
      exact own_ne hF.rb h2 (by decide) e)
    refine ⟨J.cu f hf (by simp), cut_own hF.rb rfl (hle f hf) hg, World.ownsRow_nil _ _ _ _, hF.rc, fun g e => hF.ob g ?_, fun g e => by simp [crashF, Value.ownBlock] at e, ?_, ?_, fun p hp => by simp [crashF] at hp, hF.sz⟩
    · change (cutV f.bv (sureN d K f)).ownBlock = some g at e
      rw [cut_block] at e
      exact e
    · show (f.bs.take (sureN d K f)).length ≤ 4194304
      rw [List.length_take]
      have := hF.mx
      omega
    · show sureN d K f + tot [] = (f.bs.take (sureN d K f)).length
      rw [List.length_take]
      have := hle f hf
      simp [tot]
      omega
  · intro f hf e
    have h1 := (h.each f hf).rc
    rw [← e, hro] at h1
    simp at h1
end Go.Proofs.YtodnnhidljfilaaGreatDoor
/-
  The program's disk: a crash. The condition: at most 100000 files.
-/
namespace Go.Proofs.YtodnnhidljfilaaGreatDoor
open Go.RowKit Go.Sort

/-- While the pieces are gone over: k of them are done. -/
structure C1 (wp wr : World) (l : List CF) (d : List P3) (K k : Nat) : Prop where
  le : k ≤ d.length
  inv : CInv wp wr l (sureN (d.take k) K)
theorem DInv.drew {wq wr : World} {mo : Option Nat} {r : Nat} {l : List CF} {s : CF → Nat} {left : List CF} (I : DInv wq wr mo r l s left) : DInv wq wr.drew mo r l s left :=
  ⟨I.rg.kept (fun _ _ => rfl) rfl, I.mem, I.nd, I.co, I.cu, I.oth, I.os, I.tape, I.output, I.size⟩
theorem DInv.fin {wq wr ws : World} {mo : Option Nat} {r n : Nat} {l : List CF} {s : CF → Nat} {left : List CF} (J : DInv wq ws mo r l s left) (hms : leftN wr mo r = n) (hlt : (nmL left).length < n) : (∃ leftF, DInv wq ws mo r l s leftF) ∧ leftN ws mo r < leftN wr mo r :=
  ⟨⟨left, J⟩, by rw [J.rg.leftN, hms]; exact hlt⟩
theorem C1.step {wp wr : World} {l : List CF} {d : List P3} {K k : Nat} (I : C1 wp wr l d K k) (hn : (l.map (·.c)).Nodup) (hk : k < d.length) {f : CF} (hf : f ∈ l) {t sz : Nat} (hx : d[k] = (t, sz, f.c)) (o : Obj) :
    C1 wp ((wr.setCell ⟨f.c, 1, none⟩ (.int .i64 ((sureN (d.take k) K f : Int) + ((min sz (leftA (d.take k) K) : Nat) : Int)))).alloc o) l d K (k + 1) ∧ leftA (d.take (k + 1)) K = leftA (d.take k) K - min sz (leftA (d.take k) K) := by
  have et : d.take (k + 1) = d.take k ++ [(t, sz, f.c)] := by rw [List.take_succ_eq_append_getElem hk, hx]
  have es : ∀ g ∈ l, g.c ≠ f.c → sureN (d.take (k + 1)) K g = sureN (d.take k) K g := fun g _ hg => by
    unfold sureN
    rw [et, keptA_snoc, if_neg (fun e => hg e.symm)]
    omega
  have ef : sureN (d.take (k + 1)) K f = sureN (d.take k) K f + min sz (leftA (d.take k) K) := by
    unfold sureN
    rw [et, keptA_snoc, if_pos rfl]
    simp only
    omega
  refine ⟨⟨hk, ?_⟩, by rw [et, leftA_snoc]⟩
  have h1 := I.inv.step (s' := sureN (d.take (k + 1)) K) hn hf es o
  rw [ef] at h1
  have e2 : ((sureN (d.take k) K f + min sz (leftA (d.take k) K) : Nat) : Int) = (sureN (d.take k) K f : Int) + ((min sz (leftA (d.take k) K) : Nat) : Int) := by omega
  rw [e2] at h1
  exact h1
/-- A piece in its row. -/
theorem piece_at {w wp wr : World} {l : List CF} {d : List P3} {K k g : Nat} (I : C1 wp wr l d K k) (hlt : ∀ f ∈ l, f.c < w.heap.size) (hg : w.heap.size ≤ g) (hH : HoldsK encP 3 wp g 0 d.toArray) (hk : k < d.length) {t sz c : Nat} (hx : d[k] = (t, sz, c)) :
    wr.cell? ⟨g, k * 3, none⟩ = some (.int .i64 (t : Int)) ∧ wr.cell? ⟨g, k * 3 + 1, none⟩ = some (.int .i64 (sz : Int)) ∧ wr.cell? ⟨g, k * 3 + 2, none⟩ = some (.pointer (some ⟨c, 0, none⟩)) := by
  have hs : k < d.toArray.size := by simpa using hk
  have e : d.toArray[k]! = (t, sz, c) := by simp [hk, hx]
  have a0 := (hH.cell hs (show 0 < 3 by omega)).1
  have a1 := (hH.cell hs (show 1 < 3 by omega)).1
  have a2 := (hH.cell hs (show 2 < 3 by omega)).1
  rw [e] at a0 a1 a2
  simp only [Nat.zero_add, Nat.add_zero] at a0 a1 a2
  have hgl : g < wp.heap.size := World.block_lt_of_cell? wp _ a0
  have hb := I.inv.oth g hgl (fun f hf e => by have := hlt f hf; omega)
  exact ⟨(World.cell?_of_block hb).trans a0, (World.cell?_of_block hb).trans a1, (World.cell?_of_block hb).trans a2⟩
set_option maxHeartbeats 3200000 in
set_option maxRecDepth 100000 in
theorem crash_any (w : World) (base D : Nat) (l : List CF) (turns : Nat) (mo : Option Nat) (ro : Nat → Option Nat) (keep : Int) (hk1 : -9223372036854775808 ≤ keep) (hk2 : keep ≤ 9223372036854775807) (hl : l.length ≤ 100000) (h : CdAt w base D l turns mo ro) :
    Calls Tryz.prog 24 #[.pointer (some ⟨D, 0, none⟩), .int .i64 keep] w fun e w' => e = .returned (.tuple #[]) ∧ ∃ d, d.Perm (allP l) ∧ d.Pairwise (fun x y => x.1 ≤ y.1) ∧ CdAt w' base D (l.map (crashF d keep.toNat)) turns mo ro ∧ Ext w w' ro ro := by
  have hpc := pieces_any w base D l turns mo ro hl h
  have HH : Hid (CdAt w base D l turns mo ro) := h
  have HL : Hid ((allP l).length ≤ 1000000000000) := by
    have := allP_length l (fun f hf => (h.each f hf).pl)
    show _ ≤ _
    omega
  clear h hl
  have hmax : max keep 0 = (keep.toNat : Int) := by omega
  obtain ⟨K, hK⟩ : ∃ K, K = keep.toNat := ⟨_, rfl⟩
  rw [← hK] at hmax ⊢
  have hK2 : K ≤ 9223372036854775807 := by omega
  clear hK
  go_enter Tryz.func24, Tryz.ntmps24
  go_wp2_with (go_at_call 52; refine hpc.mono ?_; rintro e wp ⟨v, rfl, d, p, cap, rfl, hdp, hds, hbel, hdh⟩)
  have HP : Hid (d.Perm (allP l)) := hdp
  have HS : Hid (d.Pairwise (fun x y => x.1 ≤ y.1)) := hds
  have HB : Hid (Below w.heap.size w wp) := hbel
  have HDH : Hid (d = [] ∨ ∃ g, p = some ⟨g, 0, none⟩ ∧ w.heap.size ≤ g ∧ HoldsK encP 3 wp g 0 d.toArray) := hdh
  have HC : Hid (C1 wp wp l d K 0) := ⟨Nat.zero_le _, fun f hf => by
      have hF := HH.out.each f hf
      have e : sureN (d.take 0) K f = f.sure := by simp [sureN, keptA]
      rw [e]
      exact (hbel.block f.c (lt_of_block hF.bl)).trans hF.bl, fun b _ _ => rfl, rfl, rfl, rfl, Nat.le_refl _⟩
  have hdl : d.length ≤ 1000000000000 := by rw [hdp.length_eq]; exact HL.out
  clear hdp hds hbel hdh hpc
  go_loopw [4, 17] (fun lf i wr => ∃ k : Nat, i = .int .i64 k ∧ lf = .int .i64 (leftA (d.take k) K : Nat) ∧ C1 wp wr l d K k) (fun _ i _ => d.length - (intOf i).toNat)
  case atStart => exact ⟨0, rfl, by simp [leftA], HC.out⟩
  case round =>
    obtain ⟨k, rfl, rfl, I⟩ := hrel
    have hkle := I.le
    have hLK := leftA_le (d.take k) K
    by_cases hk : k < d.length
    · rcases HDH.out with e0 | ⟨g, rfl, hg, hH⟩
      · rw [e0] at hk
        simp at hk
      obtain ⟨t, sz, c, hx⟩ : ∃ t sz c, d[k] = (t, sz, c) := ⟨_, _, _, rfl⟩
      obtain ⟨f, hf, hfc, hfp⟩ := p3_size (x := (t, sz, c)) (HP.out.mem_iff.1 (by rw [← hx]; exact List.getElem_mem hk))
      simp only at hfc hfp
      subst hfc
      obtain ⟨z0, z1, z2⟩ := piece_at I (fun f hf => lt_of_block (HH.out.each f hf).bl) hg hH hk hx
      have HST : Hid (∀ o, C1 wp ((wr.setCell ⟨f.c, 1, none⟩ (.int .i64 ((sureN (d.take k) K f : Int) + ((min sz (leftA (d.take k) K) : Nat) : Int)))).alloc o) l d K (k + 1) ∧ leftA (d.take (k + 1)) K = leftA (d.take k) K - min sz (leftA (d.take k) K)) := fun o => I.step HH.out.nd hk hf hx o
      have hco := I.inv.co f hf
      have y1 : wr.cell? ⟨f.c, 1, none⟩ = some (.int .i64 (sureN (d.take k) K f : Int)) := by simp [World.cell?, hco]
      have yz : wr.frozen? ⟨f.c, 1, none⟩ = false := by simp [World.frozen?, hco]
      have ylt := lt_of_block hco
      have hbd : sureN (d.take k) K f + min sz (leftA (d.take k) K) ≤ 4194304 := by
        have hF := HH.out.each f hf
        have h1 := hF.sm
        have h2 := hF.mx
        have et : d.take (k + 1) = d.take k ++ [(t, sz, f.c)] := by rw [List.take_succ_eq_append_getElem hk, hx]
        have h3 := keptA_le f.c (d.take (k + 1)) K
        have h4 := sumC_take f.c (k + 1) d
        rw [sumC_perm f.c HP.out, sumC_all HH.out.nd hf] at h4
        rw [et, keptA_snoc, if_pos rfl] at h3
        simp only at h3
        rw [← et] at h3
        unfold sureN
        omega
      have hszb : sz ≤ 4194304 := by
        have hF := HH.out.each f hf
        have h1 := tot_mem hfp
        have h2 := hF.sm
        have h3 := hF.mx
        simp only at h1
        omega
      generalize sureN (d.take k) K f = S at *
      generalize leftA (d.take k) K = L at *
      have hmin : min (sz : Int) (L : Int) = ((min sz L : Nat) : Int) := by omega
      have hml : min sz L ≤ L := by omega
      have hsub : ((L - min sz L : Nat) : Int) = (L : Int) - ((min sz L : Nat) : Int) := by omega
      have HSB : Hid (((L - min sz L : Nat) : Int) = (L : Int) - ((min sz L : Nat) : Int)) := hsub
      clear hsub
      generalize min sz L = m at *
      have hk0 : (0 : Int) ≤ (k : Int) := by omega
      have hkd : (k : Int) < (d.length : Int) := by omega
      clear hx hfp hco I
      go_wp2
      obtain ⟨r1, r2⟩ := HST.out _
      exact ⟨⟨k + 1, by simp, by rw [r2, HSB.out], r1⟩, by simp [intOf]; omega⟩
    · have hke : k = d.length := by omega
      subst hke
      generalize wr = wq at *
      have J0 := I.inv
      rw [List.take_length] at J0
      have HJ0 : Hid (CInv wp wq l (sureN d K)) := J0
      have hlt : ∀ f ∈ l, f.c < w.heap.size := fun f hf => lt_of_block (HH.out.each f hf).bl
      have ko : ∀ b, b < w.heap.size → (∀ f ∈ l, b ≠ f.c) → wq.heap[b]? = w.heap[b]? := fun b hb hne => (J0.oth b (Nat.lt_of_lt_of_le hb HB.out.size) hne).trans (HB.out.block b hb)
      have HM : Hid (∀ M, mo = some M → M < w.heap.size ∧ ∀ g ∈ l, M ≠ g.c) := fun M e => ⟨(HH.out.bd M (by rw [HH.out.rM M e]; simp)).2, fun f hf e2 => by
        have h1 := (HH.out.each f hf).rc
        rw [← e2, HH.out.rM M e] at h1
        exact HH.out.neD hf (by rw [← e2]; exact (Option.some.inj h1).symm)⟩
      have c0 : wq.cell? ⟨D, 0, none⟩ = some (.map mo) := by
        have hDl := lt_of_block HH.out.bl
        rw [World.cell?_of_block (w := w) (ko D hDl (fun f hf e => HH.out.neD hf e.symm))]
        exact HH.out.cell0
      have hmp : mapO wq mo (nmL l) := by
        have h1 := HH.out.mp
        cases hm : mo with
        | none => rw [hm] at h1; exact h1
        | some M =>
          rw [hm] at h1
          exact MapAt.kept h1 (ko M (HM.out M hm).1 (HM.out M hm).2)
      obtain ⟨w1, hrun1, hR, hg1, hs1⟩ := range_map hmp
      have szr : w.heap.size ≤ wq.heap.size := Nat.le_trans HB.out.size J0.size
      have HD0 : Hid (DInv wq w1 mo wq.heap.size l (sureN d K) l) := ⟨hR, fun f hf => hf, HH.out.nd, fun f hf _ => (hg1.block f.c (lt_of_block (J0.co f hf)) (by simp)).trans (J0.co f hf), fun f hf hm => absurd (List.mem_map.2 ⟨f, hf, rfl⟩) hm, fun b hb _ _ => hg1.block b hb (by simp), hg1.os, hg1.tape, hg1.output, hg1.size⟩
      clear hmp hR hg1 hs1 ko J0 I
      go_wp2
      go_loopw [9] (fun _ ws => ∃ leftF, DInv wq ws mo wq.heap.size l (sureN d K) leftF) (fun _ ws => leftN ws mo wq.heap.size)
      case atStart => exact ⟨l, HD0.out⟩
      case round =>
        obtain ⟨leftF, J⟩ := hrel
        rcases next_map J.rg 0 with ⟨h0, hrun⟩ | ⟨n, c, A, B, w2, hsp, hin, hrun, hrg, hg2, hs2, hen⟩
        · have e0 : leftF = [] := by
            unfold nmL at h0
            exact List.map_eq_nil_iff.1 h0
          subst e0
          go_wp2
          go_returns
          exact ⟨rfl, d, HP.out, HS.out, crash_end HH.out HP.out HB.out HJ0.out rfl J⟩
        · obtain ⟨LA, f, LB, rfl, rfl, rfl, hAB⟩ := split_nm hsp
          have hfl := J.mem f (by simp)
          have hF := HH.out.each f hfl
          rw [← hAB] at hrg
          have J2 := J.step HH.out.nd hrg hg2 hs2 (fun g hg => by have := hlt g hg; omega) (fun M e => ⟨by have := (HM.out M e).1; omega, (HM.out M e).2⟩)
          have HJ2 : Hid _ := J2
          have hms : leftN wr mo wq.heap.size = (nmL (LA ++ f :: LB)).length := J.rg.leftN
          have hbk : w2.heap[f.c]? = some (.cells #[f.bv, .int .i64 (sureN d K f : Int), f.lv] 103 (0, 0)) := by
            have h1 := J.co f hfl (List.mem_map.2 ⟨f, by simp, rfl⟩)
            rw [hg2.block f.c (lt_of_block h1) (by have := hlt f hfl; simp; omega)]
            exact h1
          have hle : sureN d K f ≤ f.bs.length := by
            unfold sureN
            have h1 := keptA_le f.c d K
            rw [sumC_perm f.c HP.out, sumC_all HH.out.nd hfl] at h1
            have h2 := hF.sm
            omega
          have hmx := hF.mx
          have y1 : w2.cell? ⟨f.c, 1, none⟩ = some (.int .i64 (sureN d K f : Int)) := by simp [World.cell?, hbk]
          have f0 : w2.frozen? ⟨f.c, 0, none⟩ = false := by simp [World.frozen?, hbk]
          have f2 : w2.frozen? ⟨f.c, 2, none⟩ = false := by simp [World.frozen?, hbk]
          obtain ⟨lp, ln, lc, hlv⟩ := own_form hF.rl
          have y2 : w2.cell? ⟨f.c, 2, none⟩ = some (.slice lp ln lc) := by simp [World.cell?, hbk, hlv]
          change _ = Result.ok (Value.tuple #[_, _, Value.pointer (some ⟨f.c, 0, none⟩)]) w2 at hrun
          change _ = Result.ok (Value.tuple #[_, Value.pointer (some ⟨f.c, 0, none⟩)]) w2 at hen
          rcases hF.rb.2 with ⟨e1, e2⟩ | ⟨g, cap', cur, e1, _, _, hcap, _, _, _⟩
          · have y0 : w2.cell? ⟨f.c, 0, none⟩ = some (.slice none 0 0) := by simp [World.cell?, hbk, e1]
            have e3 : sureN d K f = 0 := by omega
            rw [e3] at y1
            rw [e1, e3] at HJ2
            clear hF hlv hbk J2 hle e1 e3 J hrg
            go_wp2
            go_region
            all_goals go_wp2
            all_goals (
              have J3 := HJ2.out
              first | exact J3.fin hms (by simp [nmL]) | exact J3.drew.fin hms (by simp [nmL]))
          · have y0 : w2.cell? ⟨f.c, 0, none⟩ = some (.slice (some ⟨g, 0, none⟩) f.bs.length cap') := by simp [World.cell?, hbk, e1]
            rw [e1] at HJ2
            have h1 : (0 : Int) ≤ (sureN d K f : Int) := by omega
            have h2 : (sureN d K f : Int) ≤ (cap' : Int) := by omega
            clear hF hlv hbk J2 e1 J hrg
            generalize sureN d K f = S at *
            go_wp2
            go_region
            all_goals go_wp2
            all_goals (
              have J3 := HJ2.out
              first | exact J3.fin hms (by simp [nmL]) | exact J3.drew.fin hms (by simp [nmL]))
end Go.Proofs.YtodnnhidljfilaaGreatDoor
