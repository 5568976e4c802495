/-
  A string's bytes behind a row of bytes of one's own: where the new row lies. What an append to a file leaves of the program's disk. The condition: a file has at most 4194304 bytes.
-/
import Derived.Test.YtkdglkaeglhibaaGreatDoorPKPut
import Derived.Lib.AppendStr
namespace Go.Proofs.YtkdglkaeglhibaaGreatDoor
open Go.RowKit

theorem infoB : (Tryz.prog.info? 5).map (fun i => (i.zero, i.size, i.bytes)) = some (some (.int .u8 0), 1, 1) := by kernel_rfl
theorem infoP : (Tryz.prog.info? 62).map (fun i => (i.zero, i.size, i.bytes)) = some (some (.agg #[.int .i64 0, .int .i64 0, .pointer none]), 3, 24) := by kernel_rfl
theorem append_str_run (w : World) (base : Nat) (ty : TypeId) (v : Value) (bs : List UInt8) (hown : w.ownsRow base 5 1 v bs.length (Lib.byteCells bs)) (s : ByteArray) (h0 : 0 < s.size) (hb : bs.length + s.size ≤ 140737488355328) (hbase : base ≤ w.heap.size) :
    ∃ v' w', (Builtin.append_ #[63, 9] ty #[v, .string s]).run Tryz.prog w = .ok v' w' ∧ w'.ownsRow base 5 1 v' (bs ++ s.data.toList).length (Lib.byteCells (bs ++ s.data.toList)) ∧ w.grownBy w' v.ownBlock ∧ (v'.ownBlock = v.ownBlock ∨ v'.ownBlock = some w.heap.size) := by
  obtain ⟨i0, hi, hz0, hz1, hz2⟩ := info_parts infoB
  obtain ⟨v', w', hr, h2, h3, _⟩ := Lib.run_append_own_string (P := Tryz.prog) w base 63 9 ty 5 i0 Tryz.underlying63 Tryz.underlying9 hi hz0 hz1 hz2 v bs.length _ hown s (by unfold maxLen; omega) hb hbase
  have e1 : Lib.byteCells bs ++ Lib.strCells s = Lib.byteCells (bs ++ s.data.toList) := by simp [Lib.byteCells, Lib.strCells]
  have e2 : (bs ++ s.data.toList).length = bs.length + s.size := by rw [List.length_append, Lib.size_eq]
  rw [e1, ← e2] at h2
  refine ⟨v', w', hr, h2, h3, ?_⟩
  rcases hown.2 with ⟨rfl, h0⟩ | ⟨g, cap, cur, rfl, hbg, hg, hnc, hcm, hcs, htake⟩
  · have hr2 := run_append_nil_string (P := Tryz.prog) w 63 9 ty 5 i0 (.int .u8 0) Tryz.underlying63 Tryz.underlying9 hi hz0 s (by omega) (by omega) (by rw [hz2]; omega)
    rw [hr] at hr2
    simp only [Result.ok.injEq] at hr2
    rw [hr2.1]
    exact Or.inr rfl
  · by_cases hroom : bs.length + s.size ≤ cap
    · have hr2 := Lib.run_append_room_string (P := Tryz.prog) w 63 9 ty 5 i0 Tryz.underlying63 Tryz.underlying9 hi hz1 g bs.length cap cur hg s hroom (by omega)
      rw [hr] at hr2
      simp only [Result.ok.injEq] at hr2
      rw [hr2.1]
      exact Or.inl rfl
    · have hr2 := Lib.run_append_grow_string (P := Tryz.prog) w 63 9 ty 5 i0 (.int .u8 0) Tryz.underlying63 Tryz.underlying9 hi hz0 ⟨g, 0, none⟩ bs.length cap _ (by rw [hz1]; exact hown.1) (hown.cells (g := g) rfl) s (by omega) (by omega) (by rw [hz2]; exact growslice_fits (by omega) (by omega))
      rw [hr] at hr2
      simp only [Result.ok.injEq] at hr2
      rw [hr2.1]
      exact Or.inr rfl
def Row2 (w : World) (base : Nat) (v : Value) (bs : List UInt8) (s : ByteArray) : Prop := w.ownsRow base 5 1 v (bs ++ s.data.toList).length (Lib.byteCells (bs ++ s.data.toList))
theorem Row2.out {w : World} {base : Nat} {v : Value} {bs : List UInt8} {s : ByteArray} (h : Row2 w base v bs s) : w.ownsRow base 5 1 v (bs ++ s.data.toList).length (Lib.byteCells (bs ++ s.data.toList)) := h
theorem append_str {ops : Array Oper} {rest : List Oper} {o : Oper} {a : Act} {w : World} {Q : Exit → Act → World → Prop} (hgd : o.guard = none) (sl x : Operand)
    (ho : o.op = .call { callee := .builtin .append, args := #[sl, x], argTypes := #[63, 9] }) (base : Nat) (v : Value) (bs : List UInt8) (hs : a.eval sl = v) (hown : w.ownsRow base 5 1 v bs.length (Lib.byteCells bs))
    (s : ByteArray) (hx : a.eval x = .string s) (h0 : 0 < s.size) (hb : bs.length + s.size ≤ 140737488355328) (hbase : base ≤ w.heap.size)
    (h : ∀ v' w', Row2 w' base v' bs s → w.grownBy w' v.ownBlock → (v'.ownBlock = v.ownBlock ∨ v'.ownBlock = some w.heap.size) → wpList Tryz.prog ops Q rest (a.put o.dst v') w') : wpList Tryz.prog ops Q (o :: rest) a w := by
  refine wpList_plain hgd fun K hK => ?_
  obtain ⟨v', w', hr, h2, h3, h4⟩ := append_str_run w base o.type v bs hown s h0 hb hbase
  unfold Oper.wp execOp
  simp only [ho, resolve, invoke, builtin, Sem.run_bind, Sem.run_pure, Result.andThen_ok, List.map_toArray, List.map_cons, List.map_nil, hs, hx, hr]
  exact hK _ _ (h v' w' h2 h3 h4)

/-- A file with more bytes. -/
def appF (f : CF) (s : ByteArray) (t : Nat) (b' l' : Value) : CF := { f with bv := b', lv := l', bs := f.bs ++ s.data.toList, ps := f.ps ++ [(t, s.size)] }
theorem pcsL_snoc (c : Nat) (ps : List (Nat × Nat)) (p : Nat × Nat) : pcsL c (ps ++ [p]) = pcsL c ps ++ pcL c p := by
  unfold pcsL
  rw [List.flatMap_append]
  simp
theorem tot_snoc (ps : List (Nat × Nat)) (p : Nat × Nat) : tot (ps ++ [p]) = tot ps + p.2 := by
  unfold tot
  simp
theorem append_mid {u w2 : World} {base D : Nat} {l : List CF} {turns : Nat} {mo : Option Nat} {ro : Nat → Option Nat} {f : CF} {x : Value} (h : CdAt u base D l turns mo ro) (hf : f ∈ l) (hg2 : (u.setCell ⟨D, 1, none⟩ x).grownBy w2 f.bv.ownBlock) :
    w2.heap[D]? = some (.cells #[.map mo, x] 48 (0, 0)) ∧ w2.heap[f.c]? = some (.cells #[f.bv, .int .i64 (f.sure : Int), f.lv] 65 (0, 0)) ∧ (∀ b, b < u.heap.size → b ≠ D → some b ≠ f.bv.ownBlock → w2.heap[b]? = u.heap[b]?) := by
  have hF := h.each f hf
  have hDl := lt_of_block h.bl
  have hcl := lt_of_block hF.bl
  refine ⟨?_, ?_, ?_⟩
  · rw [hg2.block D (by simpa using hDl) (own_ne hF.rb h.bl (by decide)).symm, heap_setCell_same u D 1 _ _ _ h.bl]
    rfl
  · rw [hg2.block f.c (by simpa using hcl) (own_ne hF.rb hF.bl (by decide)).symm, heap_setCell_other _ _ _ _ (by simpa using h.neD hf)]
    exact hF.bl
  · intro b hb hD hn
    rw [hg2.block b (by simpa using hb) hn, heap_setCell_other _ _ _ _ (by simpa using hD)]
theorem append_end {u w2 w4 : World} {base D : Nat} {l : List CF} {turns : Nat} {mo : Option Nat} {ro : Nat → Option Nat} {f : CF} {v2 v4 : Value} {s : ByteArray} {o : Obj} (h : CdAt u base D l turns mo ro) (hf : f ∈ l) (h0 : 0 < s.size) (hmx : f.bs.length + s.size ≤ 4194304)
    (hg2 : (u.setCell ⟨D, 1, none⟩ (.int .i64 ((turns + 1 : Nat) : Int))).grownBy w2 f.bv.ownBlock) (ha2 : v2.ownBlock = f.bv.ownBlock ∨ v2.ownBlock = some u.heap.size) (ho2 : w2.ownsRow base 5 1 v2 (f.bs ++ s.data.toList).length (Lib.byteCells (f.bs ++ s.data.toList)))
    (hg4 : ((w2.setCell ⟨f.c, 0, none⟩ v2).alloc o).drew.grownBy w4 f.lv.ownBlock) (ha4 : f.lv.ownBlock = v4.ownBlock ∨ v4.ownBlock = some (w2.heap.size + 1)) (hl4 : ∀ g, v4.ownBlock = some g → g < w4.heap.size)
    (ho4 : w4.ownsRow base 62 3 v4 (f.ps ++ [(turns + 1, s.size)]).length (pcsL f.c (f.ps ++ [(turns + 1, s.size)]))) :
    ∃ ro', CdAt (w4.setCell ⟨f.c, 2, none⟩ v4) base D (setF l (appF f s (turns + 1) v2 v4)) (turns + 1) mo ro' ∧ Ext u (w4.setCell ⟨f.c, 2, none⟩ v4) ro ro' := by
  have hF := h.each f hf
  obtain ⟨d2, c2, k2⟩ := append_mid h hf hg2
  have hDl := lt_of_block h.bl
  have hcl := lt_of_block hF.bl
  have hs2 : u.heap.size ≤ w2.heap.size := by simpa using hg2.size
  have hs4 : w2.heap.size + 1 ≤ w4.heap.size := by simpa using hg4.size
  have hcD := h.neD hf
  have nb : ∀ {b : Nat}, ro b ≠ some f.c → some b ≠ f.bv.ownBlock := fun hr e => hr (hF.ob _ e.symm)
  have nl : ∀ {b : Nat}, ro b ≠ some f.c → some b ≠ f.lv.ownBlock := fun hr e => hr (hF.ol _ e.symm)
  have c3 : (w2.setCell ⟨f.c, 0, none⟩ v2).heap[f.c]? = some (.cells #[v2, .int .i64 (f.sure : Int), f.lv] 65 (0, 0)) := by
    rw [heap_setCell_same w2 f.c 0 _ _ _ c2]
    rfl
  have k4 : ∀ b, b < w2.heap.size → b ≠ f.c → some b ≠ f.lv.ownBlock → w4.heap[b]? = w2.heap[b]? := fun b hb hc hn => by
    rw [hg4.block b (by simp; omega) hn]
    show ((w2.setCell ⟨f.c, 0, none⟩ v2).alloc o).heap[b]? = _
    rw [heap_alloc_old _ _ (by simpa using hb), heap_setCell_other _ _ _ _ (by simpa using hc)]
  have c4 : w4.heap[f.c]? = some (.cells #[v2, .int .i64 (f.sure : Int), f.lv] 65 (0, 0)) := by
    rw [hg4.block f.c (by simp; omega) (own_ne hF.rl hF.bl (by decide)).symm]
    show ((w2.setCell ⟨f.c, 0, none⟩ v2).alloc o).heap[f.c]? = _
    rw [heap_alloc_old _ _ (by simp; omega)]
    exact c3
  have c5 : (w4.setCell ⟨f.c, 2, none⟩ v4).heap[f.c]? = some (.cells #[v2, .int .i64 (f.sure : Int), v4] 65 (0, 0)) := by
    rw [heap_setCell_same w4 f.c 2 _ _ _ c4]
    rfl
  have ko : ∀ b, b < u.heap.size → b ≠ D → ro b ≠ some f.c → (w4.setCell ⟨f.c, 2, none⟩ v4).heap[b]? = u.heap[b]? := fun b hb hD hr => by
    have hc : b ≠ f.c := by
      rintro rfl
      exact hr hF.rc
    rw [heap_setCell_other _ _ _ _ (by simpa using hc), k4 b (by omega) hc (nl hr)]
    exact k2 b hb hD (nb hr)
  have hlv2 : f.lv.ownBlock ≠ v2.ownBlock ∨ v2.ownBlock = none := by
    rcases ho2.2 with ⟨e, _⟩ | ⟨g, cap, cur, e, _, hb, _⟩
    · right
      rw [e]
      rfl
    · left
      have hv : v2.ownBlock = some g := by rw [e]; rfl
      rw [hv]
      intro e2
      rcases hF.rl.2 with ⟨e3, _⟩ | ⟨g', cap', cur', e3, _, hb', _⟩
      · rw [e3] at e2
        simp [Value.ownBlock] at e2
      · rw [e3] at e2
        simp only [Value.ownBlock, Option.some.injEq] at e2
        subst e2
        have hgl := lt_of_block hb'
        have h1 := k2 g' hgl (by rintro rfl; rw [h.bl] at hb'; simp at hb') (by
          intro e4
          have := own_ne hF.rb hb' (by decide)
          exact this e4.symm)
        rw [hb, hb'] at h1
        simp at h1
  have row2 : (w4.setCell ⟨f.c, 2, none⟩ v4).ownsRow base 5 1 v2 (f.bs ++ s.data.toList).length (Lib.byteCells (f.bs ++ s.data.toList)) := by
    refine own_keep ho2 (fun g e => ?_)
    have hgc : g ≠ f.c := by
      rintro rfl
      exact own_ne ho2 c2 (by decide) e
    have hgl : g < w2.heap.size := (ho2.lt g e).2
    rw [heap_setCell_other _ _ _ _ (by simpa using hgc), k4 g hgl hgc (by
      intro e2
      rcases hlv2 with h1 | h1
      · exact h1 (by rw [← e2, e])
      · rw [h1] at e
        simp at e)]
  have row4 : (w4.setCell ⟨f.c, 2, none⟩ v4).ownsRow base 62 3 v4 (f.ps ++ [(turns + 1, s.size)]).length (pcsL f.c (f.ps ++ [(turns + 1, s.size)])) := by
    refine own_keep ho4 (fun g e => ?_)
    rw [heap_setCell_other _ _ _ _ (by
      show g ≠ f.c
      rintro rfl
      exact own_ne ho4 c4 (by decide) e)]
  obtain ⟨ro', hro⟩ : ∃ ro' : Nat → Option Nat, ro' = fun b => if u.heap.size ≤ b ∧ b < w4.heap.size then some f.c else ro b := ⟨_, rfl⟩
  have old : ∀ b, b < u.heap.size → ro' b = ro b := fun b hb => by rw [hro]; simp only; rw [if_neg (by omega)]
  have new : ∀ b, u.heap.size ≤ b → b < w4.heap.size → ro' b = some f.c := fun b h1 h2 => by rw [hro]; simp only; rw [if_pos ⟨h1, h2⟩]
  have base_le : base ≤ u.heap.size := by have := h.bd D (by rw [h.rD]; simp); omega
  refine ⟨ro', h.upd (f' := appF f s (turns + 1) v2 v4) hf rfl rfl ⟨c5, row2, row4, (old f.c hcl).trans hF.rc, fun g e => ?_, fun g e => ?_, ?_, ?_, ?_, hF.sz⟩ ?_ ko old (fun b hb => ?_), ?_⟩
  · change v2.ownBlock = some g at e
    rcases ha2 with h1 | h1
    · rw [h1] at e
      have hr := hF.ob g e
      exact (old g ((h.bd g (by rw [hr]; simp)).2)).trans hr
    · rw [h1] at e
      simp only [Option.some.injEq] at e
      subst e
      exact new _ (Nat.le_refl _) (by omega)
  · change v4.ownBlock = some g at e
    rcases ha4 with h1 | h1
    · rw [← h1] at e
      have hr := hF.ol g e
      exact (old g ((h.bd g (by rw [hr]; simp)).2)).trans hr
    · have hl := hl4 g e
      rw [h1] at e
      simp only [Option.some.injEq] at e
      exact new g (by omega) hl
  · show (f.bs ++ s.data.toList).length ≤ 4194304
    rw [List.length_append, ← Lib.size_eq]
    exact hmx
  · show f.sure + tot (f.ps ++ [(turns + 1, s.size)]) = (f.bs ++ s.data.toList).length
    rw [tot_snoc, List.length_append, ← Lib.size_eq]
    have := hF.sm
    simp only
    omega
  · intro p hp
    rcases List.mem_append.1 hp with hp | hp
    · exact hF.ps0 p hp
    · rw [List.mem_singleton] at hp
      subst hp
      exact h0
  · rw [heap_setCell_other _ _ _ _ (by simpa using hcD.symm), k4 D (by omega) hcD.symm (own_ne hF.rl h.bl (by decide)).symm]
    exact d2
  · by_cases hc : u.heap.size ≤ b ∧ b < w4.heap.size
    · exact ⟨by omega, by simpa using hc.2⟩
    · have hb2 : ro' b = ro b := by rw [hro]; simp only; rw [if_neg hc]
      rw [hb2] at hb
      have := h.bd b hb
      exact ⟨this.1, by simp; omega⟩
  · refine ⟨?_, ?_, ?_, by simp; omega, old, fun b hb hr => ?_⟩
    · exact hg4.os.trans hg2.os
    · exact hg4.tape.trans hg2.tape
    · exact hg4.output.trans hg2.output
    · refine ko b hb ?_ (by rw [hr]; simp)
      rintro rfl
      rw [h.rD] at hr
      simp at hr
theorem append_fin {u w2 w3 w4 : World} {base D : Nat} {l : List CF} {turns : Nat} {mo : Option Nat} {ro : Nat → Option Nat} {f : CF} {v2 : Value} {s : ByteArray} {o : Obj} {pl : Option Addr} {nl cl gg cap : Nat} (h : CdAt u base D l turns mo ro) (hf : f ∈ l) (h0 : 0 < s.size) (hmx : f.bs.length + s.size ≤ 4194304)
    (hg2 : (u.setCell ⟨D, 1, none⟩ (.int .i64 ((turns : Int) + 1))).grownBy w2 f.bv.ownBlock) (ha2 : v2.ownBlock = f.bv.ownBlock ∨ v2.ownBlock = some u.heap.size) (ho2 : w2.ownsRow base 5 1 v2 (f.bs ++ s.data.toList).length (Lib.byteCells (f.bs ++ s.data.toList)))
    (h3 : w3 = w2.setCell ⟨f.c, 0, none⟩ v2) (hlv : f.lv = .slice pl nl cl) (hg4 : (w3.alloc o).drew.grownBy w4 (Value.slice pl nl cl).ownBlock) (hat : (Value.slice pl nl cl).ownBlock = some gg ∨ gg = w3.heap.size + 1) (hlt : gg < w4.heap.size)
    (ho4 : w4.ownsRow base 62 3 (.slice (some ⟨gg, 0, none⟩) (f.ps.length + 1) cap) (f.ps.length + 1) (pcsL f.c f.ps ++ [.int .i64 ((turns : Int) + 1), .int .i64 (s.size : Int), .pointer (some ⟨f.c, 0, none⟩)])) :
    ∃ b' l' ro', CdAt (w4.setCell ⟨f.c, 2, none⟩ (.slice (some ⟨gg, 0, none⟩) (f.ps.length + 1) cap)) base D (setF l (appF f s (turns + 1) b' l')) (turns + 1) mo ro' ∧ Ext u (w4.setCell ⟨f.c, 2, none⟩ (.slice (some ⟨gg, 0, none⟩) (f.ps.length + 1) cap)) ro ro' := by
  have ei : ((turns : Int) + 1) = ((turns + 1 : Nat) : Int) := by omega
  have hsz : w3.heap.size = w2.heap.size := by rw [h3]; simp
  rw [ei] at hg2 ho4
  rw [h3, ← hlv] at hg4
  obtain ⟨ro', r1, r2⟩ := append_end (v4 := .slice (some ⟨gg, 0, none⟩) (f.ps.length + 1) cap) h hf h0 hmx hg2 ha2 ho2 hg4 (by
    rcases hat with e | e
    · left
      rw [hlv, e]
      rfl
    · right
      rw [e, hsz]
      rfl) (fun g e => by
      simp only [Value.ownBlock, Option.some.injEq] at e
      rw [← e]
      exact hlt) (by
      rw [pcsL_snoc, List.length_append]
      exact ho4)
  exact ⟨_, _, ro', r1, r2⟩

/-- A new file, without bytes, laid under its name. -/
def newF (n : ByteArray) (c : Nat) : CF := ⟨n, c, .slice none 0 0, .slice none 0 0, [], 0, []⟩
theorem CdAt.added {w u : World} {base D : Nat} {l : List CF} {turns M : Nat} {mo : Option Nat} {ro : Nat → Option Nat} {n : ByteArray} (h : CdAt w base D l turns mo ro) (hn : n.size ≤ 64)
    (hp : Putted (w.alloc (.cells #[.slice none 0 0, .int .i64 0, .slice none 0 0] 65)) u D mo turns M (nmL l ++ [(n, w.heap.size)])) :
    ∃ ro', CdAt u base D (l ++ [newF n w.heap.size]) turns (some M) ro' ∧ Ext w u ro ro' := by
  have lt : ∀ b x, ro b = some x → b < w.heap.size := fun b x e => (h.bd b (by rw [e]; simp)).2
  have hs : w.heap.size + 1 ≤ u.heap.size := by simpa using hp.size
  have base_le : base ≤ w.heap.size := by have := h.bd D (by rw [h.rD]; simp); omega
  have hM : M < u.heap.size := by
    obtain ⟨es, clock, hb, _⟩ := hp.mp
    exact lt_of_block hb
  have ko : ∀ b, b < w.heap.size → b ≠ D → mo ≠ some b → u.heap[b]? = w.heap[b]? := fun b hb hD hm => by
    rw [hp.kept b (by simp; omega) hD hm, heap_alloc_old w _ hb]
  have kc : u.heap[w.heap.size]? = some (.cells #[.slice none 0 0, .int .i64 0, .slice none 0 0] 65 (0, 0)) := by
    rw [hp.kept w.heap.size (by simp) (fun e => by have := lt D D h.rD; omega) (fun e => by have := lt _ _ (h.rM _ e); omega), heap_alloc_new]
  obtain ⟨ro', hro⟩ : ∃ ro' : Nat → Option Nat, ro' = fun b => if b < w.heap.size then ro b else if b = w.heap.size then some b else if b < u.heap.size then some D else none := ⟨_, rfl⟩
  have old : ∀ b, b < w.heap.size → ro' b = ro b := fun b hb => by rw [hro]; simp only; rw [if_pos hb]
  have new : ro' w.heap.size = some w.heap.size := by rw [hro]; simp
  have oth : ∀ b, w.heap.size < b → b < u.heap.size → ro' b = some D := fun b h1 h2 => by rw [hro]; simp only; rw [if_neg (by omega), if_neg (by omega), if_pos h2]
  refine ⟨ro', ⟨hp.bl, ?_, fun f hf => ?_, (old D (lt D D h.rD)).trans h.rD, fun M' e => ?_, ?_, fun b hb => ?_⟩, ⟨hp.os, hp.tape, hp.output, by omega, old, fun b hb hr => ko b hb ?_ ?_⟩⟩
  · show MapAt u M (nmL (l ++ [newF n w.heap.size]))
    unfold nmL
    rw [List.map_append]
    exact hp.mp
  · rcases List.mem_append.1 hf with hf | hf
    · refine (h.each f hf).keep (fun b hb => ko b (lt b _ hb) ?_ ?_) (fun b hb => old b (lt b _ hb))
      · rintro rfl
        rw [h.rD] at hb
        exact h.neD hf (Option.some.inj hb).symm
      · intro e
        rw [h.rM b e] at hb
        exact h.neD hf (Option.some.inj hb).symm
    · rw [List.mem_singleton] at hf
      subst hf
      exact ⟨kc, World.ownsRow_nil _ _ _ _, World.ownsRow_nil _ _ _ _, new, fun g e => by simp [newF, Value.ownBlock] at e, fun g e => by simp [newF, Value.ownBlock] at e, by simp [newF], by simp [newF, tot], fun p hp => by simp [newF] at hp, hn⟩
  · cases e
    rcases hp.ms with e | ⟨_, e⟩
    · have := lt M D (h.rM M e)
      exact (old M this).trans (h.rM M e)
    · have e2 : w.heap.size + 1 ≤ M := by simpa using e
      exact oth M (by omega) hM
  · rw [List.map_append, List.nodup_append]
    refine ⟨h.nd, by simp, fun a ha b hb => ?_⟩
    simp only [List.map_cons, List.map_nil, List.mem_singleton] at hb
    obtain ⟨f, hf, rfl⟩ := List.mem_map.1 ha
    have := lt _ _ (h.each f hf).rc
    rw [hb]
    show f.c ≠ w.heap.size
    omega
  · by_cases h1 : b < w.heap.size
    · rw [old b h1] at hb
      have := h.bd b hb
      exact ⟨this.1, by omega⟩
    · refine ⟨by omega, ?_⟩
      by_cases h2 : b < u.heap.size
      · exact h2
      · exfalso
        rw [hro] at hb
        simp only at hb
        rw [if_neg h1, if_neg (by omega), if_neg h2] at hb
        exact hb rfl
  · rintro rfl
    rw [h.rD] at hr
    simp at hr
  · intro e
    rw [h.rM b e] at hr
    simp at hr
end Go.Proofs.YtkdglkaeglhibaaGreatDoor
