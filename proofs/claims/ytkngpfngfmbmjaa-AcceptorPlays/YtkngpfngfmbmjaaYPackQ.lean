/-
  Parts of the proof, laid together: FoLast, FoPut, FoFold. The conditions stand at each part.
-/
import Derived.Deep.QuietTactic
import Derived.BigQuiet
import Derived.Lib.MinMax
import Derived.RegionTactic
import Derived.ChangeAlike
import Derived.Deep.DeepCutAuto
import Derived.Test.YtkngpfngfmbmjaaYPackB
import Derived.Test.YtkngpfngfmbmjaaYPackP
/-
  Package durable: entries by rising slots, of those with one slot the last. The condition: at most 2^41 entries.
-/
namespace Go.Proofs.Ytkngpfngfmbmjaa
open Go.Shelf Go.RowKit Go.Lib Go.Sort

theorem own_len {w : World} {base n cap : Nat} {p : Option Addr} {es : List En} (h : OwnEn w base (.slice p n cap) es) : n = es.length := by
  rcases h.2 with ⟨e1, e2⟩ | ⟨_, _, _, e1, _⟩
  · injection e1 with _ e3 _
    omega
  · injection e1 with _ e3 _
/-- An entry behind the first of a row, in the row's own memory. -/
theorem wpList_app_in {ops : Array Oper} {rest : List Oper} {o : Oper} {a : Act} {w : World} {Q : Exit → Act → World → Prop} (hgd : o.guard = none) (s x : Operand) (ho : o.op = .call { callee := .builtin .append, args := #[s, x], argTypes := #[22, 22] })
    {base g n cap m : Nat} {u : Value} {M : List En} {e : En} (hs : a.eval s = .slice (some ⟨g, 0, none⟩) m cap) (hx : a.eval x = u) (hown : OwnEn w base (.slice (some ⟨g, 0, none⟩) n cap) M) (hm : m < M.length) (hr : RowAt enC w u [e])
    (h : ∀ w', OwnEn w' base (.slice (some ⟨g, 0, none⟩) n cap) (M.set m e) → w.grownBy w' (some g) → wpList Try.prog ops Q rest (a.put o.dst (.slice (some ⟨g, 0, none⟩) (m + 1) cap)) w') : wpList Try.prog ops Q (o :: rest) a w := by
  obtain ⟨i0, hi, hz0, hz1, hz2⟩ := info_parts infoEn
  obtain ⟨cur, hb, hfit, hset⟩ := own_set hown m hm e
  have hcap : M.length ≤ cap := by
    rcases hown.2 with ⟨e1, _⟩ | ⟨_, _, _, e1, _, _, hc, _⟩
    · cases e1
    · injection e1 with _ _ e4
      omega
  obtain ⟨ad, c, rfl, h1, h2, h3⟩ := hr.ex
  rcases h3 with h3 | ⟨bk, off, rfl, hbk, hcell⟩
  · simp at h3
  have hrun := run_append_room (P := Try.prog) w 22 o.type 36 i0 Try.underlying22 hi g m cap cur hb ⟨bk, off, none⟩ 1 c (enC e) (by rw [hz1]; rfl) (fun j v hj => by rw [Addr.add_mid]; exact hcell j v (by rw [rowL_one]; exact hj)) (enC_one e) (by omega) (by rw [hz1]; show m * 7 + 7 ≤ cur.size; omega)
  rw [hz1] at hrun
  have h' := h _ hset (grown_setRow_g _ _ _)
  refine wpList_plain hgd fun _ hK => ?_
  unfold Oper.wp execOp
  simp only [ho, resolve, invoke, builtin, Sem.run_bind, Sem.run_pure, Result.andThen_ok, List.map_toArray, List.map_cons, List.map_nil, hs, hx]
  have e1 : ([e] : List En).length = 1 := rfl
  rw [e1, hrun]
  exact hK _ _ h'
/-- Behind k entries: what is kept, and the row. -/
structure LaI (w w2 wr : World) (base g cap : Nat) (L kept : List En) (k : Nat) : Prop where
  row : ∃ M : List En, OwnEn wr base (.slice (some ⟨g, 0, none⟩) L.length cap) M ∧ M.length = L.length ∧ M.take kept.length = kept ∧ M.drop k = L.drop k
  le : kept.length ≤ k
  eq : kept ++ keepL (L.drop k) = keepL L
  gr : w2.grownBy wr (some g)
theorem LaI.fresh {w w2 wr w' : World} {base g cap k : Nat} {L kept : List En} (h : LaI w w2 wr base g cap L kept k) (b : Below wr.heap.size wr w') : LaI w w2 w' base g cap L kept k := by
  obtain ⟨M, h1, h2, h3, h4⟩ := h.row
  exact ⟨⟨M, own_keep h1 fun g e => b.block g (h1.lt g e).2, h2, h3, h4⟩, h.le, h.eq, ⟨b.os.trans h.gr.os, b.tape.trans h.gr.tape, b.output.trans h.gr.output, Nat.le_trans h.gr.size b.size, fun k hk hne => (b.block k (Nat.lt_of_lt_of_le hk h.gr.size)).trans (h.gr.block k hk hne)⟩⟩
theorem LaI.keep {w w2 wr w' : World} {base g cap k : Nat} {L kept M : List En} {e : En} (h : LaI w w2 wr base g cap L kept k) (hk : k < L.length) (he : e = L[k]) (hM2 : M.length = L.length) (hM3 : M.take kept.length = kept) (hM4 : M.drop k = L.drop k) (ho : OwnEn w' base (.slice (some ⟨g, 0, none⟩) L.length cap) (M.set kept.length e)) (hg : wr.grownBy w' (some g)) (hc : k + 1 = L.length ∨ ∃ y, L[k + 1]? = some y ∧ y.slot ≠ L[k].slot) : LaI w w2 w' base g cap L (kept ++ [e]) (k + 1) := by
  have hle := h.le
  refine ⟨⟨M.set kept.length e, ho, by rw [List.length_set]; exact hM2, ?_, ?_⟩, by rw [List.length_append]; simp; omega, ?_, grown_trans h.gr hg⟩
  · rw [List.length_append, List.set_eq_take_append_cons_drop, if_pos (by omega), hM3]
    have : (kept ++ e :: M.drop (kept.length + 1)) = (kept ++ [e]) ++ M.drop (kept.length + 1) := by simp
    rw [this]
    have e2 : kept.length + [e].length = (kept ++ [e]).length := by simp
    rw [e2, List.take_left]
  · rw [List.drop_set_of_lt (by omega)]
    have h1 := congrArg (List.drop 1) hM4
    rw [List.drop_drop, List.drop_drop] at h1
    exact h1
  · rw [← h.eq, keepL_drop L k hk, if_pos hc, he, List.append_assoc]
    rfl
theorem LaI.skip {w w2 wr : World} {base g cap k : Nat} {L kept : List En} (h : LaI w w2 wr base g cap L kept k) (hk : k < L.length) (hc : ¬ (k + 1 = L.length ∨ ∃ y, L[k + 1]? = some y ∧ y.slot ≠ L[k].slot)) : LaI w w2 wr base g cap L kept (k + 1) := by
  obtain ⟨M, h1, h2, h3, h4⟩ := h.row
  refine ⟨⟨M, h1, h2, h3, ?_⟩, by have := h.le; omega, ?_, h.gr⟩
  · have h5 := congrArg (List.drop 1) h4
    rw [List.drop_drop, List.drop_drop] at h5
    exact h5
  · rw [← h.eq, keepL_drop L k hk, if_neg hc]
theorem slice_none {g n cap : Nat} (w' : World) : (Instr.sliceAt 22 (.slice (some ⟨g, 0, none⟩) n cap) none (some (.int .i64 0)) none).run Try.prog w' = .ok (.slice (some ⟨g, 0, none⟩) 0 cap) w' := by
  have hsz : ∀ w, (sizeOf 36).run Try.prog w = .ok 7 w := Try.sizeOf36
  have hel : Try.prog.elem 22 = 36 := by kernel_rfl
  have hu2 : Try.prog.underlying 22 = some (.slice (Try.prog.elem 22)) := by
    rw [hel]
    exact Try.underlying22
  rw [run_sliceAt_slice _ _ _ _ _ _ hu2, run_slice_h _ _ _ _ _ hu2 _ _ (by omega) (by omega), hel, hsz]
  simp only [Result.andThen_ok, sliced, Nat.zero_mul, Nat.sub_zero]
  split <;> simp [Addr.add]
set_option maxHeartbeats 6400000 in
set_option maxRecDepth 100000 in
theorem last_any (w : World) (base : Nat) (v : Value) (es : List En) (ho : OwnEn w base v es) (h0 : es ≠ []) (hl : es.length ≤ 2199023255552) :
    Calls Try.prog 52 #[v] w fun x w' => ∃ (v' : Value) (L : List En), x = .returned v' ∧ L.Pairwise (fun x y => x.slot ≤ y.slot) ∧ (∀ k, ofS k L = ofS k es) ∧ OwnEn w' base v' (keepL L) ∧ w.grownBy w' v.ownBlock ∧ v'.ownBlock = v.ownBlock := by
  obtain ⟨p, n, cap, rfl⟩ := own_form ho
  obtain ⟨g, rfl⟩ : ∃ g, p = some ⟨g, 0, none⟩ := by
    rcases ho.2 with ⟨_, e2⟩ | ⟨g, _, _, e1, _⟩
    · exact absurd (List.eq_nil_of_length_eq_zero e2) h0
    · injection e1 with e3 _ _
      exact ⟨g, e3⟩
  have hcon := sort_entries w base _ es ho h0 (by omega)
  have hsl := fun w' => slice_none (g := g) (n := n) (cap := cap) w'
  have HN : Hid (n = es.length) := own_len ho
  have hnl : n ≤ 2199023255552 := by have := HN.out; omega
  clear ho h0 hl
  go_enter Try.func52, Try.ntmps52
  go_wp2_with (go_at_call 58; refine hcon.mono ?_; rintro r w2 ⟨rfl, L, hL1, hL2, hL3, hL4, hg2⟩; have HL1 : Hid (n = L.length) := (HN.out.trans hL1.symm); have HL2 : Hid _ := hL2; have HL3 : Hid _ := hL3; have I2 : Hid (LaI w w2 w2 base g cap L [] 0) := (by have e := HL1.out; rw [e] at hL4; exact ⟨⟨L, hL4, rfl, rfl, rfl⟩, Nat.le_refl _, rfl, ⟨rfl, rfl, rfl, Nat.le_refl _, fun _ _ _ => rfl⟩⟩); have G2 : Hid _ := hg2; clear hL1 hL2 hL3 hL4 hg2)
  clear hcon
  go_loopw [3, 12] (fun u i wr => ∃ (k : Nat) (kept : List En), k ≤ n ∧ i = .int .i64 (k : Int) ∧ u = .slice (some ⟨g, 0, none⟩) kept.length cap ∧ LaI w w2 wr base g cap L kept k) (fun _ i _ => n - (intOf i).toNat)
  case atStart => exact ⟨0, [], Nat.zero_le _, rfl, rfl, I2.out⟩
  case round =>
    obtain ⟨k, kept, hk, rfl, rfl, hI⟩ := hrel
    clear I2
    by_cases hkl : k < n
    · have q0 : decide ((k : Int) < (n : Int)) = true := decide_eq_true (by omega)
      have hkL : k < L.length := by rw [← HL1.out]; exact hkl
      obtain ⟨M, hM1, hM2, hM3, hM4⟩ := hI.row
      obtain ⟨x, hx⟩ : ∃ x, x = L[k] := ⟨_, rfl⟩
      have hat : ∀ j, k ≤ j → M[j]? = L[j]? := fun j hj => by
        have := congrArg (fun l => l[j - k]?) hM4
        simp only [List.getElem?_drop] at this
        rw [show k + (j - k) = j by omega] at this
        exact this
      have hMk : M[k]? = some x := by rw [hat k (Nat.le_refl _), List.getElem?_eq_getElem hkL, hx]
      have hcell : ∀ j (hj : j < M.length) c u, c < 7 → (enC M[j])[c]? = some u → wr.cell? ⟨g, j * 7 + c, none⟩ = some u := fun j hj c u hc hu => by
        obtain ⟨bk, off, cap', hvv, _, _, hcc⟩ := (OwnEn.row (by have := hM1; rw [← hM2] at this; exact this)).cells enC_len (by omega)
        injection hvv with e1 _ _
        injection e1 with e1
        injection e1 with e1 e2
        subst e1 e2
        have := hcc j hj c u hc hu
        rw [Nat.zero_add] at this
        exact this
      have hkM : k < M.length := by omega
      have hxk : M[k] = x := by
        rw [List.getElem?_eq_getElem hkM] at hMk
        exact Option.some.inj hMk
      have z0 := hcell k hkM 0 (.int .i64 x.slot) (by decide) (by rw [hxk]; rfl)
      have z1 := hcell k hkM 1 (.int .i64 x.ballot) (by decide) (by rw [hxk]; rfl)
      have z2 := hcell k hkM 2 (.int .i64 x.cmd.kind) (by decide) (by rw [hxk]; rfl)
      have z3 := hcell k hkM 3 (.int .i64 x.cmd.session) (by decide) (by rw [hxk]; rfl)
      have z4 := hcell k hkM 4 (.int .i64 x.cmd.seq) (by decide) (by rw [hxk]; rfl)
      have z5 := hcell k hkM 5 (.string x.cmd.name) (by decide) (by rw [hxk]; rfl)
      have z6 := hcell k hkM 6 (.int .i64 x.cmd.n) (by decide) (by rw [hxk]; rfl)
      rw [Nat.add_zero] at z0
      obtain ⟨k1, hk1⟩ : ∃ k1, k + 1 = k1 := ⟨_, rfl⟩
      have qk1 : (k : Int) + 1 = (k1 : Int) := by omega
      have hk1n : k1 ≤ n := by omega
      have ke : ((k : Int)).toNat = k := by omega
      have HI : Hid _ := hI
      have HM : Hid (OwnEn wr base (.slice (some ⟨g, 0, none⟩) L.length cap) M ∧ M.length = L.length ∧ M.take kept.length = kept ∧ M.drop k = L.drop k) := ⟨hM1, hM2, hM3, hM4⟩
      have HX : Hid (x = L[k]) := hx
      have hgw : g < wr.heap.size := (hM1.lt g rfl).2
      have E1 : Hid (EnAt (wr.alloc (.cells (enA x) 36)) wr.heap.size x) := heap_alloc_new wr _
      have B1 : Hid (Below wr.heap.size wr (wr.alloc (.cells (enA x) 36))) := (Below.refl _ wr).alloc (Nat.le_refl _) _
      have OW : Hid (∀ w', Below wr.heap.size wr w' → OwnEn w' base (.slice (some ⟨g, 0, none⟩) L.length cap) M) := fun w' b => own_keep HM.out.1 fun g' e => b.block g' (HM.out.1.lt g' e).2
      have BW : Hid (∀ nq, Below wr.heap.size wr (((wr.alloc (.cells (enA x) 36)).drewN nq).alloc (.cells (enA x) 36))) := fun nq => (below_drewN B1.out nq).alloc (by simp) _
      have RB : Hid (∀ nq, RowAt enC (((wr.alloc (.cells (enA x) 36)).drewN nq).alloc (.cells (enA x) 36)) (.slice (some ⟨wr.heap.size + 1, 0, none⟩) 1 1) [x]) := fun nq => RowAt.built (B := wr.heap.size + 1) ((two_blocks wr (.cells (enA x) 36) (.cells (enA x) 36)).2.trans (heap_alloc_new _ _)) rfl 1 rfl rfl
      have HML : Hid (kept.length < M.length) := by show _ < _; have := hI.le; omega
      have HK1 : Hid (k + 1 = k1) := hk1
      have c0 := E1.out.c0
      clear hI hx hM1 hM2 hM3 hM4 hat hMk hxk hk1
      by_cases hc1 : k1 = n
      · have qa : ((k1 : Int) == (n : Int)) = true := by simp [hc1]
        have HC : Hid (k + 1 = L.length ∨ ∃ y, L[k + 1]? = some y ∧ y.slot ≠ L[k].slot) := Or.inl (by have := HK1.out; have := HL1.out; omega)
        have HC1 : Hid (k1 = n) := hc1
        clear hc1 hcell
        go_wp2_with fail
        go_quiet (fail)
        go_wp2_with (first
          | (at_builtin; refine wpList_app_in rfl (.tmp 33) (.tmp 35) rfl (g := g) (n := L.length) (cap := cap) (m := kept.length) (M := M) (e := x) rfl rfl (OW.out _ (BW.out nq)) HML.out (RB.out nq) ?_; intro w6 o6 g6; have I6 : Hid _ := ((HI.out.fresh (BW.out nq)).keep hkL HX.out HM.out.2.1 HM.out.2.2.1 HM.out.2.2.2 o6 g6 HC.out); clear o6 g6)
          | (show wpList _ _ _ (⟨_, Op.load 36 _, _, _, _, _⟩ :: _) _ _; refine load_row_g rfl 36 _ rfl wr.heap.size rfl 36 (enA x) (0, 0) _ E1.out Try.underlying36 rfl sizeEn ?_))
        go_roundw
        case rel => exact ⟨k1, kept ++ [x], hk1n, rfl, by simp, by rw [← HK1.out]; exact I6.out⟩
        case measure => simp [intOf]; have := HK1.out; omega
      · have qa : ((k1 : Int) == (n : Int)) = false := by simp; omega
        have hk1L : k1 < L.length := by have := HL1.out; omega
        obtain ⟨y, hy⟩ : ∃ y, y = L[k1] := ⟨_, rfl⟩
        have hk1M : k1 < M.length := by have := HM.out.2.1; omega
        have hyk : M[k1] = y := by
          have := congrArg (fun l => l[1]?) HM.out.2.2.2
          simp only [List.getElem?_drop] at this
          have e := HK1.out
          rw [e, List.getElem?_eq_getElem hk1M, List.getElem?_eq_getElem hk1L] at this
          rw [hy]
          exact Option.some.inj this
        have zy := hcell k1 hk1M 0 (.int .i64 y.slot) (by decide) (by rw [hyk]; rfl)
        rw [Nat.add_zero] at zy
        have zy1 : (wr.alloc (.cells (enA x) 36)).cell? ⟨g, k1 * 7, none⟩ = some (.int .i64 y.slot) := (B1.out.cell (p := ⟨g, k1 * 7, none⟩) (by exact hgw)).trans zy
        have y1 : (0 : Int) ≤ (k1 : Int) := by omega
        have y2 : (k1 : Int) < (n : Int) := by omega
        have y3 : ((k1 : Int)).toNat = k1 := by omega
        have HY : Hid (L[k + 1]? = some y) := by
          show L[k + 1]? = some y
          have e := HK1.out
          rw [e, List.getElem?_eq_getElem hk1L, hy]
        clear hy hyk hcell
        by_cases hs : y.slot = x.slot
        · have qs : (y.slot == x.slot) = true := by simp [hs]
          have qs2 : (y.slot != x.slot) = false := by simp [hs]
          have HC : Hid (¬ (k + 1 = L.length ∨ ∃ y, L[k + 1]? = some y ∧ y.slot ≠ L[k].slot)) := by
            rintro (h | ⟨y', h1, h2⟩)
            · have := HK1.out
              have := HL1.out
              omega
            · rw [HY.out] at h1
              cases h1
              exact h2 (by rw [← HX.out]; exact hs)
          have HS : Hid (y.slot = x.slot) := hs
          clear hs
          go_wp2_with fail
          go_quiet (fail)
          go_wp2
          go_roundw
          case rel => exact ⟨k1, kept, hk1n, rfl, rfl, by rw [← HK1.out]; exact (HI.out.fresh (below_drewN B1.out nq)).skip hkL HC.out⟩
          case measure => simp [intOf]; have := HK1.out; omega
        · have qs : (y.slot == x.slot) = false := by simp [hs]
          have qs2 : (y.slot != x.slot) = true := by simp [hs]
          have HC : Hid (k + 1 = L.length ∨ ∃ y, L[k + 1]? = some y ∧ y.slot ≠ L[k].slot) := Or.inr ⟨y, HY.out, by rw [← HX.out]; exact hs⟩
          have HS : Hid (¬ y.slot = x.slot) := hs
          clear hs
          go_wp2_with fail
          go_quiet (fail)
          go_wp2_with (first
            | (at_builtin; refine wpList_app_in rfl (.tmp 33) (.tmp 35) rfl (g := g) (n := L.length) (cap := cap) (m := kept.length) (M := M) (e := x) rfl rfl (OW.out _ (BW.out nq)) HML.out (RB.out nq) ?_; intro w6 o6 g6; have I6 : Hid _ := ((HI.out.fresh (BW.out nq)).keep hkL HX.out HM.out.2.1 HM.out.2.2.1 HM.out.2.2.2 o6 g6 HC.out); clear o6 g6)
            | (show wpList _ _ _ (⟨_, Op.load 36 _, _, _, _, _⟩ :: _) _ _; refine load_row_g rfl 36 _ rfl wr.heap.size rfl 36 (enA x) (0, 0) _ E1.out Try.underlying36 rfl sizeEn ?_))
          go_roundw
          case rel => exact ⟨k1, kept ++ [x], hk1n, rfl, by simp, by rw [← HK1.out]; exact I6.out⟩
          case measure => simp [intOf]; have := HK1.out; omega
    · have q0 : decide ((k : Int) < (n : Int)) = false := decide_eq_false (by omega)
      have hkn : k = L.length := by rw [← HL1.out]; omega
      have HI : Hid _ := hI
      have HK : Hid (k = L.length) := hkn
      clear hI hkn
      go_wp2
      go_ret
      obtain ⟨M, h1, h2, h3, h4⟩ := HI.out.row
      have e1 := HI.out.eq
      rw [HK.out, List.drop_length] at e1
      have e2 : kept = keepL L := by
        rw [← e1]
        exact (List.append_nil _).symm
      refine ⟨.slice (some ⟨g, 0, none⟩) kept.length cap, L, rfl, HL2.out, HL3.out, ?_, grown_trans G2.out HI.out.gr, rfl⟩
      rw [← e2]
      rcases h1.2 with ⟨e3, _⟩ | ⟨g', cap', cur, e3, hbg, hb, hc, hm, hs, htk⟩
      · cases e3
      · injection e3 with e4 e5 e6
        injection e4 with e4
        injection e4 with e4
        subst e4 e6
        have hle := HI.out.le
        have hkk := HK.out
        refine ⟨rowL_length enC_len _, Or.inr ⟨g, cap, cur, rfl, hbg, hb, by omega, hm, hs, ?_⟩⟩
        have h5 : rowL enC (M.take kept.length) = (rowL enC M).take (kept.length * 7) := by
          have h6 : rowL enC M = rowL enC (M.take kept.length) ++ rowL enC (M.drop kept.length) := by rw [← rowL_append, List.take_append_drop]
          have h7 : (rowL enC (M.take kept.length)).length = kept.length * 7 := by rw [rowL_length enC_len, h3]
          rw [h6, ← h7, List.take_left]
        rw [h3] at h5
        rw [h5, ← htk, List.take_take]
        congr 1
        omega
end Go.Proofs.Ytkngpfngfmbmjaa
/-
  Package durable: one record put into a state, by the closure that keeps what belongs between. The conditions: at most 2^40 entries, which rise; a name has at most 2^48 bytes.
-/
namespace Go.Proofs.Ytkngpfngfmbmjaa
open Go.Shelf Go.RowKit Go.Lib Go.Sort

/-- The program's state with what is to be put between, and the document's. -/
structure FB (d D : Du) (bt : List En) : Prop where
  p : D.p = d.p
  b : D.b = d.b
  s : D.s = d.s
  es : Btw d.b D.es d.es bt
theorem FB.one {d D : Du} {bt : List En} (h : FB d D bt) {r : Rc} (hk : r.kind = 1) : FB { d with p := max d.p r.n } (stepD D r) bt := by
  rw [stepD_one hk]
  exact ⟨by rw [h.p], h.b, h.s, h.es⟩
theorem FB.low {d D : Du} {bt : List En} (h : FB d D bt) {r : Rc} (hk : r.kind = 2) (hs : ¬ d.b < r.en.slot) : FB { d with p := max d.p r.en.ballot } (stepD D r) bt := by
  rw [stepD_low hk (by rw [h.b]; exact hs)]
  exact ⟨by rw [h.p], h.b, h.s, h.es⟩
theorem FB.place {d D : Du} {bt : List En} (h : FB d D bt) {r : Rc} (hk : r.kind = 2) (hs : d.b < r.en.slot) (he : (∃ y ∈ d.es, y.slot = r.en.slot) ∨ ∀ y ∈ d.es, y.slot < r.en.slot) : FB { d with p := max d.p r.en.ballot, es := putE d.es r.en } (stepD D r) bt := by
  rw [stepD_two hk (by rw [h.b]; exact hs)]
  exact ⟨by rw [h.p], h.b, h.s, h.es.place hs he⟩
theorem FB.later {d D : Du} {bt : List En} (h : FB d D bt) {r : Rc} (hk : r.kind = 2) (hs : d.b < r.en.slot) (h1 : ∀ y ∈ d.es, y.slot ≠ r.en.slot) (h2 : ∃ y ∈ d.es, r.en.slot < y.slot) : FB { d with p := max d.p r.en.ballot } (stepD D r) (bt ++ [r.en]) := by
  rw [stepD_two hk (by rw [h.b]; exact hs)]
  exact ⟨by rw [h.p], h.b, h.s, h.es.later hs h1 h2⟩
theorem FB.else_ {d D : Du} {bt : List En} (h : FB d D bt) {r : Rc} (h1 : ¬ r.kind = 1) (h2 : ¬ r.kind = 2) : FB d (stepD D r) bt := by
  rw [stepD_else h1 h2]
  exact h
/-- Within a fold: the state, the pointer to it, what is to be put between. -/
structure FoI (w0 wr : World) (base B : Nat) (t : TypeId) (L : List Value) (V0 : Option Nat) (d : Du) (bt : List En) (v bv : Value) : Prop where
  at_ : DxAt wr B t L d v
  x : wr.heap[w0.heap.size]? = some (.cells #[.pointer (some ⟨B, L.length, none⟩)] 84 (0, 0))
  y : wr.heap[w0.heap.size + 1]? = some (.cells #[bv] 22 (0, 0))
  own : OwnEn wr base v d.es
  obt : OwnEn wr (w0.heap.size + 2) bv bt
  apart : ∀ g, v.ownBlock = some g → bv.ownBlock ≠ some g
  lies : ∀ g, v.ownBlock = some g → V0 = some g ∨ w0.heap.size + 2 ≤ g
  fr : Fr w0 wr B V0
  bw : B < w0.heap.size
  lo : base ≤ B
  te : 36 ≠ t
  sz : w0.heap.size + 2 ≤ wr.heap.size
section
variable {w0 wr w' : World} {base B : Nat} {t : TypeId} {L : List Value} {V0 : Option Nat} {d : Du} {bt : List En} {v bv : Value}
theorem FoI.cx (h : FoI w0 wr base B t L V0 d bt v bv) : wr.cell? ⟨w0.heap.size, 0, none⟩ = some (.pointer (some ⟨B, L.length, none⟩)) := by simp [World.cell?, h.x]
theorem FoI.cy (h : FoI w0 wr base B t L V0 d bt v bv) : wr.cell? ⟨w0.heap.size + 1, 0, none⟩ = some bv := by simp [World.cell?, h.y]
theorem FoI.fy (h : FoI w0 wr base B t L V0 d bt v bv) : wr.frozen? ⟨w0.heap.size + 1, 0, none⟩ = false := by simp [World.frozen?, h.y]
theorem FoI.fresh (h : FoI w0 wr base B t L V0 d bt v bv) (b : Below wr.heap.size wr w') : FoI w0 w' base B t L V0 d bt v bv :=
  ⟨(b.block _ (lt_of_block h.at_)).trans h.at_, (b.block _ (lt_of_block h.x)).trans h.x, (b.block _ (lt_of_block h.y)).trans h.y, own_keep h.own fun g e => b.block g (h.own.lt g e).2, own_keep h.obt fun g e => b.block g (h.obt.lt g e).2, h.apart, h.lies, h.fr.trans (Fr.of b), h.bw, h.lo, h.te, Nat.le_trans h.sz b.size⟩
theorem FoI.drew (h : FoI w0 wr base B t L V0 d bt v bv) : FoI w0 wr.drew base B t L V0 d bt v bv := h.fresh ⟨rfl, rfl, rfl, Nat.le_refl _, fun _ _ => rfl⟩
theorem FoI.setp (h : FoI w0 wr base B t L V0 d bt v bv) (p : Int) : FoI w0 (wr.setCell ⟨B, L.length, none⟩ (.int .i64 p)) base B t L V0 { d with p := p } bt v bv := by
  have hb := h.bw
  refine ⟨h.at_.set0 p, (heap_setCell_other _ _ _ _ (by show w0.heap.size ≠ B; omega)).trans h.x, (heap_setCell_other _ _ _ _ (by show w0.heap.size + 1 ≠ B; omega)).trans h.y, own_keep h.own fun g e => heap_setCell_other _ _ _ _ (fun e2 => own_ne h.own h.at_ h.te (by rw [e, e2])), own_keep h.obt fun g e => heap_setCell_other _ _ _ _ (fun e2 => own_ne h.obt h.at_ h.te (by rw [e, e2])), h.apart, h.lies, h.fr.trans (Fr.set _ _), h.bw, h.lo, h.te, by simpa using h.sz⟩
theorem FoI.vx (h : FoI w0 wr base B t L V0 d bt v bv) : v.ownBlock ≠ some (w0.heap.size) := own_ne h.own h.x (by decide)
theorem FoI.vy (h : FoI w0 wr base B t L V0 d bt v bv) : v.ownBlock ≠ some (w0.heap.size + 1) := own_ne h.own h.y (by decide)
theorem FoI.placed {es : List En} {u : Value} (h : FoI w0 wr base B t L V0 d bt v bv) (hd : DxAt w' B t L { d with es := es } u) (ho : OwnEn w' base u es) (hl : u.ownBlock = v.ownBlock ∨ ∀ g, u.ownBlock = some g → wr.heap.size ≤ g) (hf : Fr wr w' B v.ownBlock) : FoI w0 w' base B t L V0 { d with es := es } bt u bv := by
  have hb := h.bw
  have hsz := h.sz
  refine ⟨hd, (hf.rest _ (lt_of_block h.x) (by omega) h.vx).trans h.x, (hf.rest _ (lt_of_block h.y) (by omega) h.vy).trans h.y, ho, own_keep h.obt fun g e => hf.rest g (h.obt.lt g e).2 (fun e2 => own_ne h.obt h.at_ h.te (by rw [e, e2])) (fun e2 => h.apart g e2 e), fun g hg => ?_, fun g hg => ?_, h.fr.then hf (fun g hg => ?_), h.bw, h.lo, h.te, Nat.le_trans h.sz hf.size⟩
  · rcases hl with hl | hl
    · exact h.apart g (by rw [← hl]; exact hg)
    · intro e2
      have := hl g hg
      have := (h.obt.lt g e2).2
      omega
  · rcases hl with hl | hl
    · exact h.lies g (by rw [← hl]; exact hg)
    · exact Or.inr (by have := hl g hg; omega)
  · rcases h.lies g hg with h1 | h1
    · exact Or.inl h1
    · exact Or.inr (by omega)
theorem FoI.between {es : List En} {u : Value} (h : FoI w0 wr base B t L V0 d bt v bv) (ho : OwnEn w' (w0.heap.size + 2) u es) (a : Appended (w0.heap.size + 2) wr w' bv u) : FoI w0 (w'.setCell ⟨w0.heap.size + 1, 0, none⟩ u) base B t L V0 d es v u := by
  have hb := h.bw
  have hsz := h.sz
  have nb : bv.ownBlock ≠ some B := own_ne h.obt h.at_ h.te
  have ny : bv.ownBlock ≠ some (w0.heap.size + 1) := own_ne h.obt h.y (by decide)
  have nx : bv.ownBlock ≠ some (w0.heap.size) := own_ne h.obt h.x (by decide)
  have k1 : w'.heap[B]? = wr.heap[B]? := a.rest B (lt_of_block h.at_) (fun e => nb e.symm)
  have k2 : w'.heap[w0.heap.size]? = wr.heap[w0.heap.size]? := a.rest _ (lt_of_block h.x) (fun e => nx e.symm)
  have k3 : w'.heap[w0.heap.size + 1]? = wr.heap[w0.heap.size + 1]? := a.rest _ (lt_of_block h.y) (fun e => ny e.symm)
  have uy : u.ownBlock ≠ some (w0.heap.size + 1) := own_ne ho (k3.trans h.y) (by decide)
  refine ⟨(heap_setCell_other _ _ _ _ (by show B ≠ w0.heap.size + 1; omega)).trans (k1.trans h.at_), (heap_setCell_other _ _ _ _ (by show w0.heap.size ≠ w0.heap.size + 1; omega)).trans (k2.trans h.x), ?_, own_keep h.own fun g e => (heap_setCell_other _ _ _ _ (fun e2 => h.vy (by rw [e, e2]))).trans (a.rest g (h.own.lt g e).2 (fun e2 => h.apart g e e2.symm)), own_keep ho fun g e => heap_setCell_other _ _ _ _ (fun e2 => uy (by rw [e, e2])), fun g hg e2 => ?_, h.lies, ⟨a.below.os.trans h.fr.os, a.below.tape.trans h.fr.tape, a.below.output.trans h.fr.output, by simpa using Nat.le_trans h.fr.size a.below.size, fun b hb' h1 h2 => ?_⟩, h.bw, h.lo, h.te, by simpa using Nat.le_trans h.sz a.below.size⟩
  · show (w'.setCell ⟨w0.heap.size + 1, 0, none⟩ u).heap[w0.heap.size + 1]? = _
    rw [heap_setCell_same w' _ 0 _ _ _ (k3.trans h.y)]
    rfl
  · rcases a.lies with hl | hl
    · exact h.apart g hg (by rw [← hl]; exact e2)
    · rw [hl] at e2
      have e3 := Option.some.inj e2
      have := (h.own.lt g hg).2
      omega
  · rw [heap_setCell_other _ _ _ _ (by show b ≠ w0.heap.size + 1; omega), a.rest b (by omega) (fun e => by have := (h.obt.lt b e.symm).1; omega)]
    exact h.fr.rest b hb' h1 h2
theorem FoI.ry {u : Value} (h : FoI w0 wr base B t L V0 d bt v bv) (a : Appended (w0.heap.size + 2) wr w' bv u) : w'.cell? ⟨w0.heap.size + 1, 0, none⟩ = some bv ∧ w'.frozen? ⟨w0.heap.size + 1, 0, none⟩ = false := by
  have ny : bv.ownBlock ≠ some (w0.heap.size + 1) := own_ne h.obt h.y (by decide)
  have k3 : w'.heap[w0.heap.size + 1]? = wr.heap[w0.heap.size + 1]? := a.rest _ (lt_of_block h.y) (fun e => ny e.symm)
  exact ⟨(World.cell?_of_block k3).trans h.cy, (World.frozen?_of_block k3).trans h.fy⟩
end
/-- A record's cells. -/
abbrev rcB (r : Rc) : Array Value := #[.int .i64 r.kind, .int .i64 r.n, .int .i64 r.en.slot, .int .i64 r.en.ballot, .int .i64 r.en.cmd.kind, .int .i64 r.en.cmd.session, .int .i64 r.en.cmd.seq, .string r.en.cmd.name, .int .i64 r.en.cmd.n]
abbrev RcAt (w : World) (X : Nat) (r : Rc) : Prop := w.heap[X]? = some (.cells (rcB r) 65 (0, 0))
theorem RcAt.c {w : World} {X : Nat} {r : Rc} (h : RcAt w X r) (j : Nat) (u : Value) (hu : (rcB r)[j]? = some u) : w.cell? ⟨X, j, none⟩ = some u := by
  simp only [World.cell?, h]
  simpa using hu
/-- What one record leaves. -/
def PutPost (w0 w' : World) (base B : Nat) (t : TypeId) (L : List Value) (V0 : Option Nat) (D : Du) (m : Nat) : Prop :=
  ∃ (d' : Du) (bt' : List En) (v' bv' : Value), FoI w0 w' base B t L V0 d' bt' v' bv' ∧ FB d' D bt' ∧ d'.es.length + bt'.length ≤ m + 1

theorem placed_cases {w0 w5 w6 : World} {base B E : Nat} {t : TypeId} {L : List Value} {V0 : Option Nat} {d : Du} {bt : List En} {v bv : Value} {e : En} {q : Int} {rr : Ending} (h : FoI w0 w5 base B t L V0 { d with p := q } bt v bv) (hE : EnAt w5 E e) (hEB : E ≠ B ∧ ∀ g, v.ownBlock = some g → g ≠ E) (hp : PlPost w5.drew w6 base B t L { d with p := q } v e rr) :
    ∃ rb : Bool, rr = .returned (.bool rb) ∧ w6.cell? ⟨B, L.length + 1, none⟩ = some (.int .i64 d.b) ∧ (w6.heap[E]? = w5.heap[E]? ∧ w6.heap[w0.heap.size]? = w5.heap[w0.heap.size]?) ∧ Hid ((rb = true → ∃ v', ((∃ y ∈ d.es, y.slot = e.slot) ∨ ∀ y ∈ d.es, y.slot < e.slot) ∧ FoI w0 w6 base B t L V0 { d with p := q, es := putE d.es e } bt v' bv) ∧ (rb = false → (∀ y ∈ d.es, y.slot ≠ e.slot) ∧ (∃ y ∈ d.es, e.slot < y.slot) ∧ FoI w0 w6 base B t L V0 { d with p := q } bt v bv)) := by
  have hb := h.bw
  rcases hp with ⟨v', rfl, h1, h2, h3, h4, h5⟩ | ⟨rfl, h1, h2, h3⟩
  · exact ⟨true, rfl, DxAt.c1 (d := { d with p := q, es := putE d.es e }) h2, ⟨h5.rest E (lt_of_block hE) hEB.1 (fun e => hEB.2 E e rfl), h5.rest _ (lt_of_block h.x) (by omega) h.vx⟩, fun _ => ⟨v', h1, (h.drew).placed h2 h3 h4 h5⟩, fun e => (by cases e)⟩
  · exact ⟨false, rfl, ((h.drew).fresh h3).at_.c1, ⟨h3.block E (lt_of_block hE), h3.block _ (lt_of_block h.x)⟩, fun e => (by cases e), fun _ => ⟨h1, h2, (h.drew).fresh h3⟩⟩
set_option maxHeartbeats 12800000 in
set_option maxRecDepth 100000 in
theorem put_any {w0 wr : World} {base B : Nat} {t : TypeId} {L : List Value} {V0 : Option Nat} {d D : Du} {bt : List En} {v bv : Value} (h : FoI w0 wr base B t L V0 d bt v bv) (hF : FB d D bt) (r : Rc) (hn : nameOk r.en.cmd.name) (hlen : d.es.length ≤ 1099511627776) (hbt : bt.length ≤ 1099511627776) :
    Calls Try.prog 50 #[.agg (rcB r), .pointer (some ⟨w0.heap.size, 0, none⟩), .pointer (some ⟨w0.heap.size + 1, 0, none⟩)] wr fun x w' => x = .returned (.tuple #[]) ∧ PutPost w0 w' base B t L V0 (stepD D r) (d.es.length + bt.length) := by
  obtain ⟨p0, n0, q0, rfl⟩ := own_form h.own
  obtain ⟨p1, n1, q1, rfl⟩ := own_form h.obt
  obtain ⟨i0, hi, hz0, hz1, hz2⟩ := info_parts infoEn
  have hte := h.te
  obtain ⟨W, hW⟩ : ∃ W, W = wr.alloc (.cells (rcB r) 65) := ⟨_, rfl⟩
  have h1 : FoI w0 W base B t L V0 d bt (.slice p0 n0 q0) (.slice p1 n1 q1) := by rw [hW]; exact h.fresh ((Below.refl _ wr).alloc (Nat.le_refl _) _)
  have hR : RcAt W wr.heap.size r := by rw [hW]; exact heap_alloc_new wr _
  have z0 := hR.c 0 (.int .i64 r.kind) rfl
  have HW : Hid (wr.alloc (.cells (rcB r) 65) = W) := hW.symm
  have HI : Hid _ := h1
  have HR : Hid _ := hR
  have HFB : Hid _ := hF
  have HU : Hid (UpS d.es) := hF.es.ri.2
  clear hW hR hF
  by_cases k1 : r.kind = 1
  · rw [k1] at z0
    have z1 := RcAt.c HR.out 1 (.int .i64 r.n) rfl
    have cx := h1.cx
    have c0 := h1.at_.c0
    have f0 := h1.at_.f0
    have K1 : Hid (r.kind = 1) := k1
    clear h1 h k1
    go_enter Try.func50, Try.ntmps50
    go_upto_region 1 with fail
    rw [HW.out]
    go_wp2
    go_region
    all_goals go_wp2
    all_goals go_end0
    all_goals exact ⟨rfl, _, _, _, _, (HI.out.setp _).drew, HFB.out.one K1.out, Nat.le_succ _⟩
  · have f1 : (r.kind == 1) = false := by simpa using k1
    by_cases k2 : r.kind = 2
    · have z3 := RcAt.c HR.out 3 (.int .i64 r.en.ballot) rfl
      have cx := h1.cx
      have c0 := h1.at_.c0
      have f0 := h1.at_.f0
      have hne : ¬ B = wr.heap.size := by have := h.bw; have := h.sz; omega
      have K2 : Hid (r.kind = 2) := k2
      have HRW : Hid (wr.heap.size < W.heap.size) := lt_of_block HR.out
      rw [k2] at z0 f1
      clear h1 k1 k2
      have HH : Hid _ := h
      clear h
      go_enter Try.func50, Try.ntmps50
      go_upto_region 1 with fail
      rw [HW.out]
      go_upto_region 5 with fail
      go_cut [3] (fun x wc => x = .pointer (some ⟨wr.heap.size, 0, none⟩) ∧ Hid (FoI w0 wc base B t L V0 { d with p := max d.p r.en.ballot } bt (.slice p0 n0 q0) (.slice p1 n1 q1)) ∧ Hid (RcAt wc wr.heap.size r) ∧ Hid (wr.heap.size < wc.heap.size))
      case first =>
        go_region
        all_goals (go_wp2_with fail; go_meet)
        all_goals exact ⟨rfl, (HI.out.setp _).drew, (heap_setCell_other _ _ _ _ (fun e => hne e.symm)).trans HR.out, by show _ < _; simpa using HRW.out⟩
      case rest =>
        clear z0 z3 cx c0 f0
        obtain ⟨rfl, I3, R3, S3⟩ := hcut
        have e0 := RcAt.c R3.out 2 (.int .i64 r.en.slot) rfl
        have e1 := RcAt.c R3.out 3 (.int .i64 r.en.ballot) rfl
        have e2 := RcAt.c R3.out 4 (.int .i64 r.en.cmd.kind) rfl
        have e3 := RcAt.c R3.out 5 (.int .i64 r.en.cmd.session) rfl
        have e4 := RcAt.c R3.out 6 (.int .i64 r.en.cmd.seq) rfl
        have e5 := RcAt.c R3.out 7 (.string r.en.cmd.name) rfl
        have e6 := RcAt.c R3.out 8 (.int .i64 r.en.cmd.n) rfl
        go_upto_region 7 with (go_at_call 45; refine (cloneE_any _ r.en hn).mono ?_; rintro rr w4 ⟨rfl, b4⟩)
        obtain ⟨w5, hw5⟩ : ∃ w5, w5 = w4.alloc (.cells (enA r.en) 36) := ⟨_, rfl⟩
        obtain ⟨E, hE⟩ : ∃ E, E = w4.heap.size := ⟨_, rfl⟩
        have i5 : FoI w0 w5 base B t L V0 { d with p := max d.p r.en.ballot } bt (.slice p0 n0 q0) (.slice p1 n1 q1) := by rw [hw5]; exact (I3.out.fresh b4).fresh ((Below.refl _ _).alloc (Nat.le_refl _) _)
        have e5 : EnAt w5 E r.en := by rw [hw5, hE]; exact heap_alloc_new w4 _
        have hEB : E ≠ B ∧ ∀ g, (Value.slice p0 n0 q0).ownBlock = some g → g ≠ E := by
          rw [hE]
          refine ⟨fun e2 => ?_, fun g hg e2 => ?_⟩
          · have := lt_of_block (I3.out.fresh b4).at_
            omega
          · have := ((I3.out.fresh b4).own.lt g hg).2
            omega
        have HEB : Hid _ := hEB
        have I5 : Hid _ := i5
        have HE5 : Hid _ := e5
        rw [← hw5, ← hE]
        clear i5 e5 hEB hw5 hE b4 I3 R3 S3
        have gx := (I5.out.drew).cx
        have gb := (I5.out.drew).at_.c1
        have ge0 := EnAt.box HE5.out 0 _ rfl
        have ge1 := EnAt.box HE5.out 1 _ rfl
        have ge2 := EnAt.box HE5.out 2 _ rfl
        have ge3 := EnAt.box HE5.out 3 _ rfl
        have ge4 := EnAt.box HE5.out 4 _ rfl
        have ge5 := EnAt.box HE5.out 5 _ rfl
        have ge6 := EnAt.box HE5.out 6 _ rfl
        by_cases hs : d.b < r.en.slot
        · have qs : decide (d.b < r.en.slot) = true := decide_eq_true hs
          go_wp2_with fail
          refine wp_region_held_drew (S := (fun w' : World => w'.cell? ⟨w0.heap.size, 0, none⟩ = some (.pointer (some ⟨B, L.length, none⟩)) ∧ w'.cell? ⟨B, L.length + 1, none⟩ = some (.int .i64 d.b) ∧ w'.cell? ⟨E, 0, none⟩ = some (.int .i64 r.en.slot) ∧ w'.cell? ⟨E, 1, none⟩ = some (.int .i64 r.en.ballot) ∧ w'.cell? ⟨E, 2, none⟩ = some (.int .i64 r.en.cmd.kind) ∧ w'.cell? ⟨E, 3, none⟩ = some (.int .i64 r.en.cmd.session) ∧ w'.cell? ⟨E, 4, none⟩ = some (.int .i64 r.en.cmd.seq) ∧ w'.cell? ⟨E, 5, none⟩ = some (.string r.en.cmd.name) ∧ w'.cell? ⟨E, 6, none⟩ = some (.int .i64 r.en.cmd.n))) (by kernel_rfl) ?_ (fun hHeld0 => ?_)
          · try dsimp only
            go_keep
          refine tk0 (.pointer (some ⟨E, 0, none⟩)) (by kernel_rfl) (by kernel_rfl) (by kernel_rfl) (fun _ _ _ h => h) rfl (fun w hSw => by (try dsimp only at hSw); obtain ⟨sx, sb, q0, q1, q2, q3, q4, q5, q6⟩ := hSw; go_simp) (by assumption) ?_
          try simp only [Act.put, List.setIfInBounds_toArray, List.set_cons_zero, List.set_cons_succ]
          refine tk1 (.int .i64 r.en.slot) (by kernel_rfl) (by kernel_rfl) (by kernel_rfl) (fun _ _ _ h => h) rfl (fun w hSw => by (try dsimp only at hSw); obtain ⟨sx, sb, q0, q1, q2, q3, q4, q5, q6⟩ := hSw; go_simp) (by assumption) ?_
          try simp only [Act.put, List.setIfInBounds_toArray, List.set_cons_zero, List.set_cons_succ]
          refine tk2 (.pointer (some ⟨B, L.length, none⟩)) (by kernel_rfl) (by kernel_rfl) (by kernel_rfl) (fun _ _ _ h => h) rfl (fun w hSw => by (try dsimp only at hSw); obtain ⟨sx, sb, q0, q1, q2, q3, q4, q5, q6⟩ := hSw; go_simp) (by assumption) ?_
          try simp only [Act.put, List.setIfInBounds_toArray, List.set_cons_zero, List.set_cons_succ]
          refine tk3 (.pointer (some ⟨B, L.length, none⟩)) (by kernel_rfl) (by kernel_rfl) (by kernel_rfl) (fun _ _ _ h => h) rfl (fun w hSw => by (try dsimp only at hSw); obtain ⟨sx, sb, q0, q1, q2, q3, q4, q5, q6⟩ := hSw; go_simp) (by assumption) ?_
          try simp only [Act.put, List.setIfInBounds_toArray, List.set_cons_zero, List.set_cons_succ]
          refine tk4 (.pointer (some ⟨B, L.length + 1, none⟩)) (by kernel_rfl) (by kernel_rfl) (by kernel_rfl) (fun _ _ _ h => h) rfl (fun w hSw => by (try dsimp only at hSw); obtain ⟨sx, sb, q0, q1, q2, q3, q4, q5, q6⟩ := hSw; go_simp) (by assumption) ?_
          try simp only [Act.put, List.setIfInBounds_toArray, List.set_cons_zero, List.set_cons_succ]
          refine tk5 (.int .i64 d.b) (by kernel_rfl) (by kernel_rfl) (by kernel_rfl) (fun _ _ _ h => h) rfl (fun w hSw => by (try dsimp only at hSw); obtain ⟨sx, sb, q0, q1, q2, q3, q4, q5, q6⟩ := hSw; go_simp) (by assumption) ?_
          try simp only [Act.put, List.setIfInBounds_toArray, List.set_cons_zero, List.set_cons_succ]
          refine tk6 (.bool true) (by kernel_rfl) (by kernel_rfl) (by kernel_rfl) (fun _ _ _ h => h) rfl (fun w hSw => by (try dsimp only at hSw); obtain ⟨sx, sb, q0, q1, q2, q3, q4, q5, q6⟩ := hSw; go_simp) (by assumption) ?_
          try simp only [Act.put, List.setIfInBounds_toArray, List.set_cons_zero, List.set_cons_succ]
          refine tk7 (.bool true) (by kernel_rfl) (by kernel_rfl) (by kernel_rfl) (fun _ _ _ h => h) rfl (fun w hSw => by (try dsimp only at hSw); obtain ⟨sx, sb, q0, q1, q2, q3, q4, q5, q6⟩ := hSw; go_simp) (by assumption) ?_
          try simp only [Act.put, List.setIfInBounds_toArray, List.set_cons_zero, List.set_cons_succ]
          refine tk8 (.pointer (some ⟨B, L.length, none⟩)) (by kernel_rfl) (by kernel_rfl) (by kernel_rfl) (fun _ _ _ h => h) rfl (fun w hSw => by (try dsimp only at hSw); obtain ⟨sx, sb, q0, q1, q2, q3, q4, q5, q6⟩ := hSw; go_simp) (by assumption) ?_
          try simp only [Act.put, List.setIfInBounds_toArray, List.set_cons_zero, List.set_cons_succ]
          refine tk9 (.agg (enA r.en)) (by kernel_rfl) (by kernel_rfl) (by kernel_rfl) (fun _ _ _ h => h) rfl (fun w hSw => by (try dsimp only at hSw); obtain ⟨sx, sb, q0, q1, q2, q3, q4, q5, q6⟩ := hSw; go_simp) (by assumption) ?_
          try simp only [Act.put, List.setIfInBounds_toArray, List.set_cons_zero, List.set_cons_succ]
          refine cl10 (by kernel_rfl) rfl (fun K hK => ?_)
          go_simp
          go_at_call 51
          refine (placeE_any _ base B t L _ _ r.en (I5.out.drew).at_ hte (I5.out.drew).own (Nat.le_trans I5.out.lo (Nat.le_of_lt (Nat.lt_of_lt_of_le I5.out.bw I5.out.fr.size))) HU.out hlen).mono ?_
          rintro rr w6 hp6
          obtain ⟨rb, hrb, k6, e6, P6⟩ : ∃ rb : Bool, rr = .returned (.bool rb) ∧ w6.cell? ⟨B, L.length + 1, none⟩ = some (.int .i64 d.b) ∧ (w6.heap[E]? = w5.heap[E]? ∧ w6.heap[w0.heap.size]? = w5.heap[w0.heap.size]?) ∧ Hid ((rb = true → ∃ v', ((∃ y ∈ d.es, y.slot = r.en.slot) ∨ ∀ y ∈ d.es, y.slot < r.en.slot) ∧ FoI w0 w6 base B t L V0 { d with p := max d.p r.en.ballot, es := putE d.es r.en } bt v' (.slice p1 n1 q1)) ∧ (rb = false → (∀ y ∈ d.es, y.slot ≠ r.en.slot) ∧ (∃ y ∈ d.es, r.en.slot < y.slot) ∧ FoI w0 w6 base B t L V0 { d with p := max d.p r.en.ballot } bt (.slice p0 n0 q0) (.slice p1 n1 q1))) := placed_cases I5.out HE5.out HEB.out hp6
          subst hrb
          have z6 : EnAt w6 E r.en := e6.1.trans HE5.out
          have zx : w6.cell? ⟨w0.heap.size, 0, none⟩ = some (.pointer (some ⟨B, L.length, none⟩)) := (World.cell?_of_block e6.2).trans I5.out.cx
          have ze0 := EnAt.box z6 0 _ rfl
          have ze1 := EnAt.box z6 1 _ rfl
          have ze2 := EnAt.box z6 2 _ rfl
          have ze3 := EnAt.box z6 3 _ rfl
          have ze4 := EnAt.box z6 4 _ rfl
          have ze5 := EnAt.box z6 5 _ rfl
          have ze6 := EnAt.box z6 6 _ rfl
          have E6 : Hid _ := z6
          clear hp6 e6 z6
          refine hK.out _ _ ?_ (fun hHeld => ?_)
          · try dsimp only
            go_keep
          clear hK K
          try simp only [Act.put, List.setIfInBounds_toArray, List.set_cons_zero, List.set_cons_succ]
          refine tk11 (.bool (!rb)) (by kernel_rfl) (by kernel_rfl) (by kernel_rfl) (fun _ _ _ h => h) rfl (fun w hSw => by (try dsimp only at hSw); obtain ⟨sx, sb, q0, q1, q2, q3, q4, q5, q6⟩ := hSw; go_simp) (by assumption) ?_
          try simp only [Act.put, List.setIfInBounds_toArray, List.set_cons_zero, List.set_cons_succ]
          refine tk12 (.bool (!rb)) (by kernel_rfl) (by kernel_rfl) (by kernel_rfl) (fun _ _ _ h => h) rfl (fun w hSw => by (try dsimp only at hSw); obtain ⟨sx, sb, q0, q1, q2, q3, q4, q5, q6⟩ := hSw; go_simp) (by assumption) ?_
          try simp only [Act.put, List.setIfInBounds_toArray, List.set_cons_zero, List.set_cons_succ]
          refine wpAnyH_done (by kernel_rfl) ?_ _
          cases rb with
          | true =>
            obtain ⟨v', hv', hI'⟩ := P6.out.1 rfl
            have HI' : Hid _ := hI'
            clear hI'
            go_wp2
            go_end0
            exact ⟨rfl, _, _, _, _, HI'.out, HFB.out.place K2.out hs hv', by have := putE_length d.es r.en; show (putE d.es r.en).length + _ ≤ _; omega⟩
          | false =>
            obtain ⟨hv1, hv2, hI'⟩ := P6.out.2 rfl
            have HI' : Hid _ := hI'
            have cy := hI'.cy
            clear hI'
            go_wp2_with (first
              | (at_builtin; refine wpList_app_row (k := 7) (enc := enC) (l := [r.en]) rfl (.tmp 48) (.tmp 50) 22 36 rfl i0 _ 64 Try.underlying22 hi hz0 hz1 hz2 rfl (by decide) enC_len enC_one (base := w0.heap.size + 2) rfl rfl ((HI'.out.fresh ((Below.refl _ _).alloc (Nat.le_refl _) _)).obt) (RowAt.built (heap_alloc_new _ _) rfl 1 rfl rfl) (by have := HI'.out.sz; simp; omega) (by simp; omega) (by simp; omega) ?_; intro u7 w7 o7 a7; obtain ⟨p7, n7, q7, rfl⟩ := own_form o7; have i8 := (HI'.out.fresh ((Below.refl _ _).alloc (Nat.le_refl _) _)).between (u := .slice p7 n7 q7) (es := bt ++ [r.en]) (by show w7.ownsRow _ _ _ _ _ _; rw [rowL_append, List.length_append]; exact o7) a7; have ry := (HI'.out.fresh ((Below.refl _ _).alloc (Nat.le_refl _) _)).ry a7; have ry1 := ry.1; have ry2 := ry.2; have I8 : Hid _ := i8; clear o7 a7 i8 ry)
              | (show wpList _ _ _ (⟨_, Op.load 36 _, _, _, _, _⟩ :: _) _ _; refine load_row_g rfl 36 _ rfl E rfl 36 (enA r.en) (0, 0) _ E6.out Try.underlying36 rfl sizeEn ?_))
            go_end0
            exact ⟨rfl, _, _, _, _, I8.out, HFB.out.later K2.out hs hv1 hv2, by rw [List.length_append]; show d.es.length + (_ + 1) ≤ _; omega⟩
        · have qs : decide (d.b < r.en.slot) = false := decide_eq_false hs
          go_wp2_with fail
          refine wp_region_held_drew (S := (fun w' : World => w'.cell? ⟨w0.heap.size, 0, none⟩ = some (.pointer (some ⟨B, L.length, none⟩)) ∧ w'.cell? ⟨B, L.length + 1, none⟩ = some (.int .i64 d.b) ∧ w'.cell? ⟨E, 0, none⟩ = some (.int .i64 r.en.slot) ∧ w'.cell? ⟨E, 1, none⟩ = some (.int .i64 r.en.ballot) ∧ w'.cell? ⟨E, 2, none⟩ = some (.int .i64 r.en.cmd.kind) ∧ w'.cell? ⟨E, 3, none⟩ = some (.int .i64 r.en.cmd.session) ∧ w'.cell? ⟨E, 4, none⟩ = some (.int .i64 r.en.cmd.seq) ∧ w'.cell? ⟨E, 5, none⟩ = some (.string r.en.cmd.name) ∧ w'.cell? ⟨E, 6, none⟩ = some (.int .i64 r.en.cmd.n))) (by kernel_rfl) ?_ (fun hHeld0 => ?_)
          · try dsimp only
            go_keep
          refine tk0 (.pointer (some ⟨E, 0, none⟩)) (by kernel_rfl) (by kernel_rfl) (by kernel_rfl) (fun _ _ _ h => h) rfl (fun w hSw => by (try dsimp only at hSw); obtain ⟨sx, sb, q0, q1, q2, q3, q4, q5, q6⟩ := hSw; go_simp) (by assumption) ?_
          try simp only [Act.put, List.setIfInBounds_toArray, List.set_cons_zero, List.set_cons_succ]
          refine tk1 (.int .i64 r.en.slot) (by kernel_rfl) (by kernel_rfl) (by kernel_rfl) (fun _ _ _ h => h) rfl (fun w hSw => by (try dsimp only at hSw); obtain ⟨sx, sb, q0, q1, q2, q3, q4, q5, q6⟩ := hSw; go_simp) (by assumption) ?_
          try simp only [Act.put, List.setIfInBounds_toArray, List.set_cons_zero, List.set_cons_succ]
          refine tk2 (.pointer (some ⟨B, L.length, none⟩)) (by kernel_rfl) (by kernel_rfl) (by kernel_rfl) (fun _ _ _ h => h) rfl (fun w hSw => by (try dsimp only at hSw); obtain ⟨sx, sb, q0, q1, q2, q3, q4, q5, q6⟩ := hSw; go_simp) (by assumption) ?_
          try simp only [Act.put, List.setIfInBounds_toArray, List.set_cons_zero, List.set_cons_succ]
          refine tk3 (.pointer (some ⟨B, L.length, none⟩)) (by kernel_rfl) (by kernel_rfl) (by kernel_rfl) (fun _ _ _ h => h) rfl (fun w hSw => by (try dsimp only at hSw); obtain ⟨sx, sb, q0, q1, q2, q3, q4, q5, q6⟩ := hSw; go_simp) (by assumption) ?_
          try simp only [Act.put, List.setIfInBounds_toArray, List.set_cons_zero, List.set_cons_succ]
          refine tk4 (.pointer (some ⟨B, L.length + 1, none⟩)) (by kernel_rfl) (by kernel_rfl) (by kernel_rfl) (fun _ _ _ h => h) rfl (fun w hSw => by (try dsimp only at hSw); obtain ⟨sx, sb, q0, q1, q2, q3, q4, q5, q6⟩ := hSw; go_simp) (by assumption) ?_
          try simp only [Act.put, List.setIfInBounds_toArray, List.set_cons_zero, List.set_cons_succ]
          refine tk5 (.int .i64 d.b) (by kernel_rfl) (by kernel_rfl) (by kernel_rfl) (fun _ _ _ h => h) rfl (fun w hSw => by (try dsimp only at hSw); obtain ⟨sx, sb, q0, q1, q2, q3, q4, q5, q6⟩ := hSw; go_simp) (by assumption) ?_
          try simp only [Act.put, List.setIfInBounds_toArray, List.set_cons_zero, List.set_cons_succ]
          refine tk6 (.bool false) (by kernel_rfl) (by kernel_rfl) (by kernel_rfl) (fun _ _ _ h => h) rfl (fun w hSw => by (try dsimp only at hSw); obtain ⟨sx, sb, q0, q1, q2, q3, q4, q5, q6⟩ := hSw; go_simp) (by assumption) ?_
          try simp only [Act.put, List.setIfInBounds_toArray, List.set_cons_zero, List.set_cons_succ]
          refine tk7 (.bool false) (by kernel_rfl) (by kernel_rfl) (by kernel_rfl) (fun _ _ _ h => h) rfl (fun w hSw => by (try dsimp only at hSw); obtain ⟨sx, sb, q0, q1, q2, q3, q4, q5, q6⟩ := hSw; go_simp) (by assumption) ?_
          try simp only [Act.put, List.setIfInBounds_toArray, List.set_cons_zero, List.set_cons_succ]
          refine sk8 (by kernel_rfl) (by kernel_rfl) (by kernel_rfl) (fun _ _ _ h => h) rfl (by assumption) ?_
          try simp only [Act.put, List.setIfInBounds_toArray, List.set_cons_zero, List.set_cons_succ]
          refine sk9 (by kernel_rfl) (by kernel_rfl) (by kernel_rfl) (fun _ _ _ h => h) rfl (by assumption) ?_
          try simp only [Act.put, List.setIfInBounds_toArray, List.set_cons_zero, List.set_cons_succ]
          refine sk10 (by kernel_rfl) (by kernel_rfl) (by kernel_rfl) (fun _ _ _ h => h) rfl (by assumption) ?_
          try simp only [Act.put, List.setIfInBounds_toArray, List.set_cons_zero, List.set_cons_succ]
          refine sk11 (by kernel_rfl) (by kernel_rfl) (by kernel_rfl) (fun _ _ _ h => h) rfl (by assumption) ?_
          try simp only [Act.put, List.setIfInBounds_toArray, List.set_cons_zero, List.set_cons_succ]
          refine tk12 (.bool false) (by kernel_rfl) (by kernel_rfl) (by kernel_rfl) (fun _ _ _ h => h) rfl (fun w hSw => by (try dsimp only at hSw); obtain ⟨sx, sb, q0, q1, q2, q3, q4, q5, q6⟩ := hSw; go_simp) (by assumption) ?_
          try simp only [Act.put, List.setIfInBounds_toArray, List.set_cons_zero, List.set_cons_succ]
          refine wpAnyH_done (by kernel_rfl) ?_ _
          go_wp2
          go_end0
          exact ⟨rfl, _, _, _, _, I5.out.drew, HFB.out.low K2.out (Int.not_lt.2 hs), by show d.es.length + _ ≤ _; omega⟩
    · have f2 : (r.kind == 2) = false := by simpa using k2
      clear h1 h
      go_enter Try.func50, Try.ntmps50
      go_upto_region 1 with fail
      rw [HW.out]
      go_wp2
      go_end0
      exact ⟨rfl, _, _, _, _, HI.out, HFB.out.else_ k1 k2, Nat.le_succ _⟩
end Go.Proofs.Ytkngpfngfmbmjaa
/-
  Package durable: records put into a state. The conditions: at most 2^29 entries, which rise; at most 2^29 records; a text has at most 2^48 bytes.
-/
namespace Go.Proofs.Ytkngpfngfmbmjaa
open Go.Shelf Go.RowKit Go.Lib Go.Sort

theorem FB.eq {d D : Du} {bt : List En} (h : FB d D bt) : { d with es := D.es } = D := by
  have h1 := h.p; have h2 := h.b; have h3 := h.s
  cases D
  cases d
  simp only at h1 h2 h3
  rw [h1, h2, h3]
theorem FB.none {d D : Du} (h : FB d D []) : d = D := by
  have h1 := h.es.none
  have h2 := h.eq
  rw [← h1] at h2
  exact h2
section
variable {w wr w6 w7 : World} {base B : Nat} {t : TypeId} {L : List Value} {V0 : Option Nat} {d : Du} {bt : List En} {v bv u u7 : Value}
/-- What the append ahead of the sort leaves. -/
theorem FoI.taken (h : FoI w wr base B t L V0 d bt v bv) (a : Appended base wr w6 v u) : w6.cell? ⟨w.heap.size, 0, none⟩ = some (.pointer (some ⟨B, L.length, none⟩)) ∧ w6.cell? ⟨w.heap.size + 1, 0, none⟩ = some bv ∧ DxAt w6 B t L d v ∧ w6.heap[w.heap.size]? = wr.heap[w.heap.size]? ∧ w6.heap[w.heap.size + 1]? = wr.heap[w.heap.size + 1]? ∧ Fr wr w6 B v.ownBlock := by
  have k2 : w6.heap[w.heap.size]? = wr.heap[w.heap.size]? := a.rest _ (lt_of_block h.x) (fun e => h.vx e.symm)
  have k3 : w6.heap[w.heap.size + 1]? = wr.heap[w.heap.size + 1]? := a.rest _ (lt_of_block h.y) (fun e => h.vy e.symm)
  have k1 : w6.heap[B]? = wr.heap[B]? := a.rest _ (lt_of_block h.at_) (fun e => own_ne h.own h.at_ h.te e.symm)
  exact ⟨(World.cell?_of_block k2).trans h.cx, (World.cell?_of_block k3).trans h.cy, k1.trans h.at_, k2, k3, ⟨a.below.os, a.below.tape, a.below.output, a.below.size, fun b hb _ h2 => a.rest b hb (fun e => h2 e.symm)⟩⟩
/-- .. and the sort, and the store behind it. -/
theorem taken_last {es7 : List En} (T : DxAt w6 B t L d v ∧ w6.heap[w.heap.size]? = wr.drew.heap[w.heap.size]? ∧ w6.heap[w.heap.size + 1]? = wr.drew.heap[w.heap.size + 1]? ∧ Fr wr.drew w6 B v.ownBlock) (hl : u.ownBlock = v.ownBlock ∨ u.ownBlock = some wr.drew.heap.size) (g : w6.grownBy w7 u.ownBlock) (hb : u7.ownBlock = u.ownBlock) (o7 : OwnEn w7 base u7 es7) (h : FoI w wr base B t L V0 d bt v bv) :
    w7.cell? ⟨w.heap.size, 0, none⟩ = some (.pointer (some ⟨B, L.length, none⟩)) ∧ w7.cell? ⟨w.heap.size + 1, 0, none⟩ = some bv ∧ w7.cell? ⟨B, L.length + 3, none⟩ = some v ∧ w7.frozen? ⟨B, L.length + 3, none⟩ = false ∧
    ((w7.setCell ⟨B, L.length + 3, none⟩ u7).cell? ⟨w.heap.size, 0, none⟩ = some (.pointer (some ⟨B, L.length, none⟩)) ∧ (w7.setCell ⟨B, L.length + 3, none⟩ u7).cell? ⟨w.heap.size + 1, 0, none⟩ = some bv ∧ DxAt (w7.setCell ⟨B, L.length + 3, none⟩ u7) B t L { d with es := es7 } u7 ∧ OwnEn (w7.setCell ⟨B, L.length + 3, none⟩ u7) base u7 es7 ∧ (∀ g, u7.ownBlock = some g → V0 = some g ∨ w.heap.size ≤ g) ∧ Fr w (w7.setCell ⟨B, L.length + 3, none⟩ u7) B V0) := by
  have hbw := h.bw
  have hsz := h.sz
  obtain ⟨t1, t2, t3, t4⟩ := T
  have s6 : wr.heap.size ≤ w6.heap.size := t4.size
  have nu : ∀ b, b < wr.heap.size → v.ownBlock ≠ some b → some b ≠ u.ownBlock := fun b hb1 hb2 e => by
    rcases hl with hl | hl
    · rw [hl] at e
      exact hb2 e.symm
    · rw [hl] at e
      have := Option.some.inj e
      have : wr.drew.heap.size = wr.heap.size := rfl
      omega
  have bB := lt_of_block h.at_
  have bX := lt_of_block h.x
  have bY := lt_of_block h.y
  have k1 : w7.heap[B]? = w6.heap[B]? := g.block B (by omega) (nu B bB (own_ne h.own h.at_ h.te))
  have k2 : w7.heap[w.heap.size]? = w6.heap[w.heap.size]? := g.block _ (by omega) (nu _ bX h.vx)
  have k3 : w7.heap[w.heap.size + 1]? = w6.heap[w.heap.size + 1]? := g.block _ (by omega) (nu _ bY h.vy)
  have d7 : DxAt w7 B t L d v := k1.trans t1
  have x7 : w7.cell? ⟨w.heap.size, 0, none⟩ = some (.pointer (some ⟨B, L.length, none⟩)) := (World.cell?_of_block (k2.trans t2)).trans h.cx
  have y7 : w7.cell? ⟨w.heap.size + 1, 0, none⟩ = some bv := (World.cell?_of_block (k3.trans t3)).trans h.cy
  refine ⟨x7, y7, d7.c3, d7.f3, (World.cell?_of_block (heap_setCell_other _ _ _ _ (by show w.heap.size ≠ B; omega))).trans x7, (World.cell?_of_block (heap_setCell_other _ _ _ _ (by show w.heap.size + 1 ≠ B; omega))).trans y7, d7.set3 _ _, own_keep o7 fun g e => heap_setCell_other _ _ _ _ (fun e2 => own_ne o7 d7 h.te (by rw [e, e2])), fun g' hg' => ?_, ?_⟩
  · rw [hb] at hg'
    rcases hl with hl | hl
    · rw [hl] at hg'
      rcases h.lies g' hg' with h1 | h1
      · exact Or.inl h1
      · exact Or.inr (by omega)
    · rw [hl] at hg'
      have := Option.some.inj hg'
      have : wr.drew.heap.size = wr.heap.size := rfl
      exact Or.inr (by omega)
  · have f1 : Fr wr w6 B v.ownBlock := ⟨t4.os, t4.tape, t4.output, t4.size, t4.rest⟩
    have f2 : Fr w w6 B V0 := h.fr.then f1 (fun g' hg' => by
      rcases h.lies g' hg' with h1 | h1
      · exact Or.inl h1
      · exact Or.inr (by omega))
    refine (f2.then (Fr.grown g) (fun g' hg' => ?_)).trans (Fr.set _ _)
    rcases hl with hl | hl
    · rw [hl] at hg'
      rcases h.lies g' hg' with h1 | h1
      · exact Or.inl h1
      · exact Or.inr (by omega)
    · rw [hl] at hg'
      have := Option.some.inj hg'
      have : wr.drew.heap.size = wr.heap.size := rfl
      exact Or.inr (by omega)
end
theorem foldD_next (d : Du) (l : List Rc) (k : Nat) (hk : k < l.length) : foldD d (l.take (k + 1)) = stepD (foldD d (l.take k)) l[k] := by
  rw [List.take_add_one, List.getElem?_eq_getElem hk]
  exact foldD_snoc _ _ _
set_option maxHeartbeats 12800000 in
set_option maxRecDepth 100000 in
theorem pfold_any (w : World) (base B : Nat) (t : TypeId) (L : List Value) (d : Du) (v lv : Value) (l : List Rc) (hX : DxAt w B t L d v) (hte : 36 ≠ t) (hlo : base ≤ B) (ho : OwnEn w base v d.es) (hr : RowAt rcC w lv l) (hsep : ∀ bk off n cap, 0 < n → lv = .slice (some ⟨bk, off, none⟩) n cap → bk ≠ B ∧ v.ownBlock ≠ some bk)
    (hR : Rises d.b d.es) (hl : d.es.length ≤ 536870912) (hm : l.length ≤ 536870912) (hn : ∀ r ∈ l, nameOk r.en.cmd.name) :
    Calls Try.prog 44 #[.pointer (some ⟨B, L.length, none⟩), lv] w fun x w' => x = .returned (.tuple #[]) ∧ ∃ v', DxAt w' B t L (foldD d l) v' ∧ OwnEn w' base v' (foldD d l).es ∧ (∀ g, v'.ownBlock = some g → v.ownBlock = some g ∨ w.heap.size ≤ g) ∧ Fr w w' B v.ownBlock := by
  obtain ⟨la, lc, rfl⟩ := hr.form
  obtain ⟨i0, hi, hz0, hz1, hz2⟩ := info_parts infoEn
  have hb := lt_of_block hX
  obtain ⟨W, hW⟩ : ∃ W, W = (w.alloc (.cells #[.pointer (some ⟨B, L.length, none⟩)] 84)).alloc (.cells #[.slice none 0 0] 22) := ⟨_, rfl⟩
  have bW : Below w.heap.size w W := by rw [hW]; exact ((Below.refl _ w).alloc (Nat.le_refl _) _).alloc (by simp) _
  have h2 := two_blocks w (.cells #[.pointer (some ⟨B, L.length, none⟩)] 84) (.cells #[.slice none 0 0] 22)
  have h0 : FoI w W base B t L v.ownBlock d [] v (.slice none 0 0) := by
    refine ⟨(bW.block _ hb).trans hX, by rw [hW]; exact h2.1.trans (heap_alloc_new w _), by rw [hW]; exact h2.2.trans (heap_alloc_new _ _), own_keep ho fun g e => bW.block g (ho.lt g e).2, World.ownsRow_nil _ _ _ _, fun g _ => by simp [Value.ownBlock], fun g hg => Or.inl hg, Fr.of bW, hb, hlo, hte, by rw [hW]; simp⟩
  have HW : Hid ((w.alloc (.cells #[.pointer (some ⟨B, L.length, none⟩)] 84)).alloc (.cells #[.slice none 0 0] 22) = W) := hW.symm
  have I0 : Hid _ := h0
  have F0 : Hid (FB d (foldD d (l.take 0)) []) := ⟨rfl, rfl, rfl, Btw.start hR⟩
  have RR : Hid (RowAt rcC w (.slice la l.length lc) l) := hr
  have SP : Hid _ := hsep
  have HN : Hid _ := hn
  clear hW bW h2 h0 hX ho hr hsep hR hn
  go_enter Try.func44, Try.ntmps44
  go_upto_region 2 with fail
  rw [HW.out]
  go_wp2
  go_loopw [11] (fun i wr => ∃ (k : Nat) (d1 : Du) (bt : List En) (v1 bv1 : Value), k ≤ l.length ∧ i = .int .i64 (k : Int) ∧ Hid (FoI w wr base B t L v.ownBlock d1 bt v1 bv1) ∧ Hid (FB d1 (foldD d (l.take k)) bt) ∧ d1.es.length + bt.length ≤ d.es.length + k) (fun i _ => l.length - (intOf i).toNat)
  case atStart => exact ⟨0, d, [], v, .slice none 0 0, Nat.zero_le _, rfl, I0, F0, by simp⟩
  case round =>
    obtain ⟨k, d1, bt, v1, bv1, hk, rfl, HI, HFB, hlen⟩ := hrel
    clear I0 F0
    obtain ⟨p0, n0, q0, rfl⟩ := own_form HI.out.own
    obtain ⟨p1, n1, q1, rfl⟩ := own_form HI.out.obt
    by_cases hkl : k < l.length
    · have q9 : decide ((k : Int) < (l.length : Int)) = true := decide_eq_true (by omega)
      obtain ⟨bk, off, cap', hvv, hcap, hbk, hc⟩ := RR.out.cells rcC_len (by omega)
      injection hvv with e1 e2 e3
      subst e1 e3
      obtain ⟨r, hrr⟩ : ∃ r, r = l[k] := ⟨_, rfl⟩
      have hrn : nameOk r.en.cmd.name := by rw [hrr]; exact HN.out _ (List.getElem_mem hkl)
      have sp := SP.out bk off l.length lc (by omega) rfl
      have hbl : wr.heap[bk]? = w.heap[bk]? := HI.out.fr.rest bk hbk sp.1 sp.2
      have z0 := (World.cell?_of_block (a := ⟨bk, off + k * 9 + 0, none⟩) hbl).trans (hc k hkl 0 (.int .i64 r.kind) (by decide) (by rw [← hrr]; rfl))
      have z1 := (World.cell?_of_block (a := ⟨bk, off + k * 9 + 1, none⟩) hbl).trans (hc k hkl 1 (.int .i64 r.n) (by decide) (by rw [← hrr]; rfl))
      have z2 := (World.cell?_of_block (a := ⟨bk, off + k * 9 + 2, none⟩) hbl).trans (hc k hkl 2 (.int .i64 r.en.slot) (by decide) (by rw [← hrr]; rfl))
      have z3 := (World.cell?_of_block (a := ⟨bk, off + k * 9 + 3, none⟩) hbl).trans (hc k hkl 3 (.int .i64 r.en.ballot) (by decide) (by rw [← hrr]; rfl))
      have z4 := (World.cell?_of_block (a := ⟨bk, off + k * 9 + 4, none⟩) hbl).trans (hc k hkl 4 (.int .i64 r.en.cmd.kind) (by decide) (by rw [← hrr]; rfl))
      have z5 := (World.cell?_of_block (a := ⟨bk, off + k * 9 + 5, none⟩) hbl).trans (hc k hkl 5 (.int .i64 r.en.cmd.session) (by decide) (by rw [← hrr]; rfl))
      have z6 := (World.cell?_of_block (a := ⟨bk, off + k * 9 + 6, none⟩) hbl).trans (hc k hkl 6 (.int .i64 r.en.cmd.seq) (by decide) (by rw [← hrr]; rfl))
      have z7 := (World.cell?_of_block (a := ⟨bk, off + k * 9 + 7, none⟩) hbl).trans (hc k hkl 7 (.string r.en.cmd.name) (by decide) (by rw [← hrr]; rfl))
      have z8 := (World.cell?_of_block (a := ⟨bk, off + k * 9 + 8, none⟩) hbl).trans (hc k hkl 8 (.int .i64 r.en.cmd.n) (by decide) (by rw [← hrr]; rfl))
      rw [Nat.add_zero] at z0
      have HNX : Hid (foldD d (l.take (k + 1)) = stepD (foldD d (l.take k)) r) := by rw [hrr]; exact foldD_next d l k hkl
      have IA : Hid (FoI w (wr.alloc (.cells (rcB r) 65)) base B t L v.ownBlock d1 bt (.slice p0 n0 q0) (.slice p1 n1 q1)) := HI.out.fresh ((Below.refl _ wr).alloc (Nat.le_refl _) _)
      have RA : Hid (RcAt (wr.alloc (.cells (rcB r) 65)) wr.heap.size r) := heap_alloc_new wr _
      have qp := fun w1 (h1 : FoI w w1 base B t L v.ownBlock d1 bt (.slice p0 n0 q0) (.slice p1 n1 q1)) => put_any h1 HFB.out r hrn (by omega) (by omega)
      have QP : Hid _ := qp
      clear hc hrr hbl qp sp
      go_wp2_with (first
        | (go_at_call 50; refine (QP.out _ IA.out).mono ?_; rintro rr w5 ⟨rfl, d5, bt5, v5, bv5, i5, f5, l5⟩; have I5 : Hid _ := i5; have F5 : Hid _ := f5; clear i5 f5)
        | (show wpList _ _ _ (⟨_, Op.load 65 _, _, _, _, _⟩ :: _) _ _; refine load_row_g rfl 65 _ rfl wr.heap.size rfl 65 (rcB r) (0, 0) _ RA.out Try.underlying65 rfl (by kernel_rfl) ?_))
      go_roundw
      case rel => exact ⟨k + 1, d5, bt5, v5, bv5, hkl, by go_num, I5, by rw [HNX.out]; exact F5, by omega⟩
      case measure => simp [intOf]; omega
    · have q9 : decide ((k : Int) < (l.length : Int)) = false := decide_eq_false (by omega)
      have ht : l.take k = l := List.take_of_length_le (by omega)
      rw [ht] at HFB
      have hn1 : Hid (n1 = bt.length) := own_len HI.out.obt
      have cy := HI.out.cy
      clear ht
      by_cases hbt : bt = []
      · subst hbt
        obtain rfl : n1 = 0 := hn1.out
        go_wp2
        go_end0
        have e := HFB.out.none
        refine ⟨rfl, .slice p0 n0 q0, ?_, ?_, fun g hg => ?_, HI.out.fr⟩
        · rw [← e]
          exact HI.out.at_
        · rw [← e]
          exact HI.out.own
        · rcases HI.out.lies g hg with h1 | h1
          · exact Or.inl h1
          · exact Or.inr (by omega)
      · have hbn : bt ≠ [] := hbt
        have hbl0 : 0 < bt.length := by
          rcases Nat.eq_zero_or_pos bt.length with h | h
          · exact absurd (List.eq_nil_of_length_eq_zero h) hbt
          · exact h
        have qn0 : 0 < n1 := by have := hn1.out; omega
        have qn : decide ((0 : Int) < (n1 : Int)) = true := decide_eq_true (by omega)
        have hk9 : k ≤ 536870912 := by omega
        clear hbt
        have vx := (HI.out.drew).cx
        have vy := (HI.out.drew).cy
        have v3 := (HI.out.drew).at_.c3
        go_wp2_with fail
        refine wp_region_held_drew (S := (fun w' : World => w'.cell? ⟨w.heap.size, 0, none⟩ = some (.pointer (some ⟨B, L.length, none⟩)) ∧ w'.cell? ⟨w.heap.size + 1, 0, none⟩ = some (.slice p1 n1 q1))) (by kernel_rfl) ?_ (fun hHeld0 => ?_)
        · try dsimp only
          go_keep
        refine tk0 (.pointer (some ⟨B, L.length, none⟩)) (by kernel_rfl) (by kernel_rfl) (by kernel_rfl) (fun _ _ _ h => h) rfl (fun w hSw => by (try dsimp only at hSw); obtain ⟨sx, sy⟩ := hSw; go_simp) (by assumption) ?_
        try simp only [Act.put, List.setIfInBounds_toArray, List.set_cons_zero, List.set_cons_succ]
        refine tk1 (.pointer (some ⟨B, L.length, none⟩)) (by kernel_rfl) (by kernel_rfl) (by kernel_rfl) (fun _ _ _ h => h) rfl (fun w hSw => by (try dsimp only at hSw); obtain ⟨sx, sy⟩ := hSw; go_simp) (by assumption) ?_
        try simp only [Act.put, List.setIfInBounds_toArray, List.set_cons_zero, List.set_cons_succ]
        refine tk2 (.pointer (some ⟨B, L.length, none⟩)) (by kernel_rfl) (by kernel_rfl) (by kernel_rfl) (fun _ _ _ h => h) rfl (fun w hSw => by (try dsimp only at hSw); obtain ⟨sx, sy⟩ := hSw; go_simp) (by assumption) ?_
        try simp only [Act.put, List.setIfInBounds_toArray, List.set_cons_zero, List.set_cons_succ]
        refine tk3 (.pointer (some ⟨B, L.length + 3, none⟩)) (by kernel_rfl) (by kernel_rfl) (by kernel_rfl) (fun _ _ _ h => h) rfl (fun w hSw => by (try dsimp only at hSw); obtain ⟨sx, sy⟩ := hSw; go_simp) (by assumption) ?_
        try simp only [Act.put, List.setIfInBounds_toArray, List.set_cons_zero, List.set_cons_succ]
        refine tk5 (.slice p1 n1 q1) (by kernel_rfl) (by kernel_rfl) (by kernel_rfl) (fun _ _ _ h => h) rfl (fun w hSw => by (try dsimp only at hSw); obtain ⟨sx, sy⟩ := hSw; go_simp) (by assumption) ?_
        try simp only [Act.put, List.setIfInBounds_toArray, List.set_cons_zero, List.set_cons_succ]
        refine cl4 (by kernel_rfl) rfl (fun K hK => ?_)
        go_simp
        refine hK.out _ _ ?_ (fun hHeld => ?_)
        · try dsimp only
          go_keep
        clear hK K
        try simp only [Act.put, List.setIfInBounds_toArray, List.set_cons_zero, List.set_cons_succ]
        refine cl6 (by kernel_rfl) rfl (fun K hK => ?_)
        refine wp_app_row (k := 7) (enc := enC) (l := bt) (.tmp 26) (.tmp 27) 22 36 rfl i0 _ 64 Try.underlying22 hi hz0 hz1 hz2 rfl (by decide) enC_len enC_one (base := base) rfl rfl (HI.out.drew).own (OwnEn.row (HI.out.drew).obt) (Nat.le_trans HI.out.lo (Nat.le_of_lt (lt_of_block (HI.out.drew).at_))) (by omega) (by omega) ?_
        intro u6 w6 o6 a6
        obtain ⟨p6, n6, q6, rfl⟩ := own_form o6
        have t6 := (HI.out.drew).taken a6
        have x6 := t6.1
        have y6 := t6.2.1
        have T6 : Hid _ := t6.2.2
        have L6 : Hid _ := a6.lies
        have O6 : Hid (OwnEn w6 base (.slice p6 n6 q6) (d1.es ++ bt)) := by show w6.ownsRow _ _ _ _ _ _; rw [rowL_append, List.length_append]; exact o6
        clear o6 a6 t6
        refine hK.out _ _ ?_ (fun hHeld => ?_)
        · try dsimp only
          go_keep
        clear hK K
        try simp only [Act.put, List.setIfInBounds_toArray, List.set_cons_zero, List.set_cons_succ]
        refine cl7 (by kernel_rfl) rfl (fun K hK => ?_)
        go_simp
        go_at_call 52
        refine (last_any _ base _ (d1.es ++ bt) O6.out (by simp [hbn]) (by rw [List.length_append]; omega)).mono ?_
        rintro rr w7 ⟨v7, LL, rfl, h71, h72, o7, g7, b7⟩
        obtain ⟨p7, n7, q7, rfl⟩ := own_form o7
        have t7 := taken_last T6.out L6.out g7 b7 o7 HI.out
        have x7 := t7.1
        have y7 := t7.2.1
        have c7 := t7.2.2.1
        have f7 := t7.2.2.2.1
        have T7 : Hid _ := t7.2.2.2.2
        have H71 : Hid _ := h71
        have H72 : Hid _ := h72
        clear o7 g7 b7 t7 h71 h72
        refine hK.out _ _ ?_ (fun hHeld => ?_)
        · try dsimp only
          go_keep
        clear hK K
        try simp only [Act.put, List.setIfInBounds_toArray, List.set_cons_zero, List.set_cons_succ]
        refine tk8 (.pointer (some ⟨B, L.length, none⟩)) (by kernel_rfl) (by kernel_rfl) (by kernel_rfl) (fun _ _ _ h => h) rfl (fun w hSw => by (try dsimp only at hSw); obtain ⟨sx, sy⟩ := hSw; go_simp) (by assumption) ?_
        try simp only [Act.put, List.setIfInBounds_toArray, List.set_cons_zero, List.set_cons_succ]
        refine tk9 (.pointer (some ⟨B, L.length + 3, none⟩)) (by kernel_rfl) (by kernel_rfl) (by kernel_rfl) (fun _ _ _ h => h) rfl (fun w hSw => by (try dsimp only at hSw); obtain ⟨sx, sy⟩ := hSw; go_simp) (by assumption) ?_
        try simp only [Act.put, List.setIfInBounds_toArray, List.set_cons_zero, List.set_cons_succ]
        refine cl10 (by kernel_rfl) rfl (fun K hK => ?_)
        go_simp
        have t8 := T7.out
        obtain ⟨w8, hw8⟩ : ∃ w8, w8 = w7.setCell ⟨B, L.length + 3, none⟩ (.slice p7 n7 q7) := ⟨_, rfl⟩
        rw [← hw8] at t8 ⊢
        have x8 := t8.1
        have y8 := t8.2.1
        have T8 : Hid _ := t8.2.2
        clear t8 hw8
        refine hK.out _ _ ?_ (fun hHeld => ?_)
        · try dsimp only
          go_keep
        clear hK K
        try simp only [Act.put, List.setIfInBounds_toArray, List.set_cons_zero, List.set_cons_succ]
        refine wpAnyH_done (by kernel_rfl) ?_ _
        go_wp2
        go_end0
        have e9 := HFB.out.es.sorted H71.out H72.out
        have e8 : { d1 with es := keepL LL } = foldD d l := by rw [e9]; exact HFB.out.eq
        refine ⟨rfl, .slice p7 n7 q7, ?_, ?_, T8.out.2.2.1, T8.out.2.2.2⟩
        · rw [← e8]
          exact T8.out.1
        · rw [← e8]
          exact T8.out.2.1
end Go.Proofs.Ytkngpfngfmbmjaa
