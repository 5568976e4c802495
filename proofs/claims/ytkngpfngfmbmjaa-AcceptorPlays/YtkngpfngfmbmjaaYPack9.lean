/-
  Parts of the proof, laid together: AcAsk, AcAskB. The conditions stand at each part.
-/
import Derived.Test.YtkngpfngfmbmjaaYPack8
/-
  Package acceptor: From, At, Cut, Durable. The conditions: at most 2^29 entries, which rise; a text has at most 2^48 bytes.
-/
namespace Go.Proofs.Ytkngpfngfmbmjaa
open Go.Shelf Go.RowKit Go.Lib Go.Sort

theorem found_from {es : List En} {s : Int} {k : Nat} {b : Bool} (h : FoundS es s k b) : fromE es s = es.drop k := by
  unfold fromE
  have h1 : (es.take k).filter (fun e => decide (s ≤ e.slot)) = [] := by
    rw [List.filter_eq_nil_iff]
    intro x hx
    have := h.lo x hx
    simp only [decide_eq_true_eq]
    omega
  have h2 : (es.drop k).filter (fun e => decide (s ≤ e.slot)) = es.drop k := by
    rw [List.filter_eq_self]
    intro x hx
    obtain ⟨i, hi, rfl⟩ := List.mem_drop_iff_getElem.1 hx
    have := h.above (k + i) (by omega) (by omega)
    simp only [decide_eq_true_eq]
    omega
  conv => lhs; rw [← List.take_append_drop k es, List.filter_append, h1, h2]
  rfl
theorem found_cut {es : List En} {s : Int} {k : Nat} {b : Bool} (h : FoundS es s k b) (hu : es.Pairwise fun x y => x.slot < y.slot) : (es.filter fun e => decide (s < e.slot)) = es.drop (if b then k + 1 else k) := by
  obtain ⟨m, hm⟩ : ∃ m, m = (if b then k + 1 else k) := ⟨_, rfl⟩
  rw [← hm]
  have h1 : (es.take m).filter (fun e => decide (s < e.slot)) = [] := by
    rw [List.filter_eq_nil_iff]
    intro x hx
    obtain ⟨i, hi, rfl⟩ := List.mem_take_iff_getElem.1 hx
    simp only [decide_eq_true_eq]
    by_cases c : i < k
    · have := h.below i (by omega) c
      omega
    · cases b with
      | true =>
        rw [if_pos rfl] at hm
        have e : i = k := by omega
        subst e
        have := (h.yes rfl).2
        omega
      | false =>
        simp at hm
        omega
  have h2 : (es.drop m).filter (fun e => decide (s < e.slot)) = es.drop m := by
    rw [List.filter_eq_self]
    intro x hx
    obtain ⟨i, hi, rfl⟩ := List.mem_drop_iff_getElem.1 hx
    simp only [decide_eq_true_eq]
    cases b with
    | true =>
      rw [if_pos rfl] at hm
      obtain ⟨hk, hs⟩ := h.yes rfl
      have := up_lt hu (i := k) (j := m + i) (by omega) (by omega)
      omega
    | false =>
      simp at hm
      subst hm
      have h3 := h.above (m + i) (by omega) (by omega)
      by_cases c : i = 0
      · subst c
        have := h.no rfl (by omega)
        simp only [Nat.add_zero] at h3 ⊢
        omega
      · have h4 := h.above m (by omega) (Nat.le_refl _)
        have := up_lt hu (i := m) (j := m + i) (by omega) (by omega)
        omega
  conv => lhs; rw [← List.take_append_drop m es, List.filter_append, h1, h2]
  rfl
section
variable {w : World} {base X : Nat} {S : Nat → Prop} {d : Du} {v : Value}
set_option maxHeartbeats 6400000 in
set_option maxRecDepth 100000 in
theorem pat_any (h : PA w base S X d v) (hu : Rises d.b d.es) (hl : d.es.length ≤ 536870912) (hz : ∀ e ∈ d.es, nameOk e.cmd.name) (s : Int) : Calls Try.prog 22 #[.pointer (some ⟨X, 0, none⟩), .int .i64 s] w fun e w' => e = .returned (.tuple #[.agg (enA ((findE d.es s).getD En.zero)), .bool (findE d.es s).isSome]) ∧ Below w.heap.size w w' := by
  obtain ⟨W, hW⟩ : ∃ W, W = w.alloc (.cells (enA En.zero) 36) := ⟨_, rfl⟩
  have bW : Below w.heap.size w W := by rw [hW]; exact (Below.refl _ w).alloc (Nat.le_refl _) _
  have eW : EnAt W w.heap.size En.zero := by rw [hW]; exact heap_alloc_new w _
  have sW : W.heap.size = w.heap.size + 1 := by rw [hW]; simp
  have HP : Hid (∀ y, Below w.heap.size w y → PA y base S X d v) := fun y b => h.fresh b
  have q1 := pfind_any (h.fresh bW) hu hl s
  have HW : Hid (w.alloc (.cells #[.int .i64 0, .int .i64 0, .int .i64 0, .int .i64 0, .int .i64 0, .string ⟨#[]⟩, .int .i64 0] 36) = W) := hW.symm
  have BW : Hid (Below w.heap.size w W ∧ W.heap.size = w.heap.size + 1) := ⟨bW, sW⟩
  have EW : Hid _ := eW
  have HU : Hid _ := hu
  obtain ⟨va, vc, rfl⟩ := h.form
  clear hW bW eW sW h hu
  go_enter Try.func22, Try.ntmps22
  go_upto_region 1 with fail
  rw [HW.out]
  go_upto_region 4 with (go_at_call 37; refine q1.mono ?_; rintro x w2 ⟨kk, bb, rfl, hF, b2⟩; have FF : Hid _ := hF; have B2 : Hid (Below w.heap.size w w2) := bmm BW.out.1 BW.out.1.size b2; have E2 : Hid (EnAt w2 w.heap.size En.zero) := (b2.block _ (by have := BW.out.2; omega)).trans EW.out; clear b2 hF)
  cases bb with
  | false =>
    have HN : Hid _ := found_none FF.out HU.out.2
    go_wp2_with (show wpList _ _ _ (⟨_, Op.store 36 _ _, _, _, _, _⟩ :: _) _ _; refine store_row_g rfl 36 _ _ rfl w.heap.size (enA En.zero) rfl rfl 36 _ E2.out sizeEn rfl (by simp [Value.oneCell']) ?_; intro w6 h6 g6)
    refine bodyPost_ret (results_two Try.results22 _ _ w.heap.size _ rfl (load_ent h6)) rfl ?_
    rw [HN.out]
    exact ⟨rfl, B2.out.grown g6 B2.out.size (fun k hk => by have := Option.some.inj hk; omega)⟩
  | true =>
    obtain ⟨hkl, hfs⟩ := found_some FF.out HU.out.2
    have HN : Hid _ := hfs
    have hP2 := HP.out w2 B2.out
    have c3 := hP2.c3
    obtain ⟨bk, off, cap', hvv, hcap, hbk, hc⟩ := (OwnEn.row hP2.own).cells enC_len (by omega)
    injection hvv with e1 e2 e3
    subst e1 e3
    obtain ⟨x, hx⟩ : ∃ x, x = d.es[kk] := ⟨_, rfl⟩
    have hn : nameOk x.cmd.name := by rw [hx]; exact hz _ (List.getElem_mem hkl)
    have k1 : (0 : Int) ≤ (kk : Int) := by omega
    have k2 : (kk : Int) < (d.es.length : Int) := by omega
    have k3 : ((kk : Int)).toNat = kk := by omega
    have z0 := hc kk hkl 0 (.int .i64 x.slot) (by decide) (by rw [hx]; rfl)
    have z1 := hc kk hkl 1 (.int .i64 x.ballot) (by decide) (by rw [hx]; rfl)
    have z2 := hc kk hkl 2 (.int .i64 x.cmd.kind) (by decide) (by rw [hx]; rfl)
    have z3 := hc kk hkl 3 (.int .i64 x.cmd.session) (by decide) (by rw [hx]; rfl)
    have z4 := hc kk hkl 4 (.int .i64 x.cmd.seq) (by decide) (by rw [hx]; rfl)
    have z5 := hc kk hkl 5 (.string x.cmd.name) (by decide) (by rw [hx]; rfl)
    have z6 := hc kk hkl 6 (.int .i64 x.cmd.n) (by decide) (by rw [hx]; rfl)
    rw [Nat.add_zero] at z0
    rw [← hx] at HN
    clear hc hcap hbk hx hfs hP2
    go_wp2_with (first
      | (show wpList _ _ _ (⟨_, Op.store 36 _ _, _, _, _, _⟩ :: _) _ _; refine store_row_g rfl 36 _ _ rfl w.heap.size (enA x) rfl rfl 36 _ E3.out sizeEn rfl (by simp [Value.oneCell']) ?_; intro w6 h6 g6)
      | (go_at_call 40; refine (aclone_any _ x hn).mono ?_; rintro r w3 ⟨rfl, b3⟩; have B3 : Hid (Below w.heap.size w w3) := bmm B2.out B2.out.size b3; have E3 : Hid (EnAt w3 w.heap.size En.zero) := (b3.block _ (lt_of_block E2.out)).trans E2.out; clear b3))
    refine bodyPost_ret (results_two Try.results22 _ _ w.heap.size _ rfl (load_ent h6)) rfl ?_
    rw [HN.out]
    exact ⟨rfl, B3.out.grown g6 B3.out.size (fun k hk => by have := Option.some.inj hk; omega)⟩
set_option maxHeartbeats 6400000 in
set_option maxRecDepth 100000 in
theorem pdur_any (h : PA w base S X d v) (hu : Rises d.b d.es) (hl : d.es.length ≤ 536870912) (hz : SzD d) : Calls Try.prog 25 #[.pointer (some ⟨X, 0, none⟩)] w fun e w' => ∃ v', e = .returned (.agg (duA d v')) ∧ OwnEn w' w.heap.size v' d.es ∧ Below w.heap.size w w' := by
  obtain ⟨W, hW⟩ : ∃ W, W = w.alloc (.cells #[.int .i64 0, .int .i64 0, .string ⟨#[]⟩, .slice none 0 0] 24) := ⟨_, rfl⟩
  have bW : Below w.heap.size w W := by rw [hW]; exact (Below.refl _ w).alloc (Nat.le_refl _) _
  have eW : W.heap[w.heap.size]? = some (.cells #[.int .i64 0, .int .i64 0, .string ⟨#[]⟩, .slice none 0 0] 24 (0, 0)) := by rw [hW]; exact heap_alloc_new w _
  have sW : W.heap.size = w.heap.size + 1 := by rw [hW]; simp
  have hP := h.fresh bW
  have q1 := pFold_any W d v (.slice none 0 0) [] (OwnEn.row hP.own) (RowAt.nil _) hu hl (by simp) hz (fun r hr => by cases hr)
  have c0 := hP.c0
  have c1 := hP.c1
  have c2 := hP.c2
  have c3 := hP.c3
  have HW : Hid (w.alloc (.cells #[.int .i64 0, .int .i64 0, .string ⟨#[]⟩, .slice none 0 0] 24) = W) := hW.symm
  have BW : Hid (Below w.heap.size w W ∧ W.heap.size = w.heap.size + 1) := ⟨bW, sW⟩
  have EW : Hid _ := eW
  obtain ⟨va, vc, rfl⟩ := h.form
  clear hW bW eW sW h hu hP
  go_enter Try.func25, Try.ntmps25
  go_upto_region 1 with fail
  rw [HW.out]
  go_wp2_with (first
    | (show wpList _ _ _ (⟨_, Op.store 24 _ _, _, _, _, _⟩ :: _) _ _; refine store_row_g rfl 24 _ _ rfl w.heap.size (duA d (.slice p2 n2 q2)) rfl rfl 24 _ E2.out sizeDu rfl (by simp [Value.oneCell']) ?_; intro w6 h6 g6)
    | (go_at_call 26; refine q1.mono ?_; rintro x w2 ⟨v2, rfl, o2, b2⟩; obtain ⟨p2, n2, q2, rfl⟩ := own_form o2; have O2 : Hid _ := o2; have B2 : Hid (Below w.heap.size w w2) := bmm BW.out.1 BW.out.1.size b2; have E2 : Hid _ := (b2.block _ (lt_of_block EW.out)).trans EW.out; clear b2 o2))
  refine bodyPost_ret (results_cell_row Try.results25 _ _ w.heap.size 24 _ (0, 0) _ rfl h6 Try.underlying24 rfl sizeDu) rfl ?_
  exact ⟨_, rfl, own_mono (own_keep O2.out fun g e => g6.block g (World.ownsRow.lt O2.out g e).2 (fun e2 => by have h1 := (World.ownsRow.lt O2.out g e).1; have := Option.some.inj e2; have := BW.out.2; omega)) (by have := BW.out.2; omega), B2.out.grown g6 B2.out.size (fun k hk => by have := Option.some.inj hk; omega)⟩
end
end Go.Proofs.Ytkngpfngfmbmjaa
/-
  Package acceptor: From, Cut. The conditions: at most 2^29 entries, which rise; a text has at most 2^48 bytes.
-/
namespace Go.Proofs.Ytkngpfngfmbmjaa
open Go.Shelf Go.RowKit Go.Lib Go.Sort

/-- What Cut leaves. -/
structure CutPost (T : TypeId) (w : World) (base : Nat) (S : Nat → Prop) (X : Nat) (d' : Du) (e : Ending) (w' : World) : Prop where
  ex : ∃ S' v', e = .returned (.tuple #[]) ∧ AcAt T w' base S' X d' v' ∧ Kept w w' S S'
section
variable {w : World} {base X : Nat} {S : Nat → Prop} {d : Du} {v : Value}
set_option maxHeartbeats 6400000 in
set_option maxRecDepth 100000 in
theorem pfrom_any (h : PA w base S X d v) (hu : Rises d.b d.es) (hl : d.es.length ≤ 536870912) (hz : ∀ e ∈ d.es, nameOk e.cmd.name) (s : Int) : Calls Try.prog 21 #[.pointer (some ⟨X, 0, none⟩), .int .i64 s] w fun e w' => ∃ u, e = .returned u ∧ OwnEn w' w.heap.size u (fromE d.es s) ∧ Below w.heap.size w w' := by
  obtain ⟨i0, hi, hz0, hz1, hz2⟩ := info_parts infoEn
  have HP : Hid (∀ y, Below w.heap.size w y → PA y base S X d v) := fun y b => h.fresh b
  have q1 := pfind_any h hu hl s
  obtain ⟨va, vc, rfl⟩ := h.form
  clear h hu
  go_enter Try.func21, Try.ntmps21
  go_upto_region 4 with (go_at_call 37; refine q1.mono ?_; rintro x w2 ⟨kk, bb, rfl, hF, b2⟩; have FF : Hid _ := hF; have B2 : Hid _ := b2; clear b2 hF)
  have hP2 := HP.out w2 B2.out
  have c3 := hP2.c3
  have hr2 := OwnEn.row hP2.own
  obtain ⟨u0, hu0, hw0⟩ := OwnRow.from (S := fun _ => True) (D := w2.heap.size) ⟨hr2, fun bk off n cap h0 e => ⟨trivial, by have := hr2.lt h0 e; omega⟩⟩ 22 36 i0 Try.underlying22 (by kernel_rfl) hi hz1 enC_len kk FF.out.le
  have HE : Hid (fromE d.es s = d.es.drop kk) := found_from FF.out
  obtain ⟨L, hL⟩ : ∃ L, L = d.es.drop kk := ⟨_, rfl⟩
  rw [← hL] at hw0 HE
  have hLz : ∀ e ∈ L, nameOk e.cmd.name := fun e he => hz e (List.mem_of_mem_drop (by rw [hL] at he; exact he))
  have hLl : L.length ≤ 536870912 := by rw [hL, List.length_drop]; omega
  have r0 : RowAt enC w2 u0 L := hw0.at'
  obtain ⟨pa, pc, rfl⟩ := r0.form
  have HR : Hid (∀ y, Below w2.heap.size w2 y → RowAt enC y (.slice pa L.length pc) L) := fun y b => r0.fresh b
  clear hw0 hP2 hr2 hL r0 hz hl
  go_wp2
  go_loopw [7, 26] (fun u i wr => ∃ k : Nat, k ≤ L.length ∧ i = .int .i64 (k : Int) ∧ OwnEn wr w2.heap.size u (L.take k) ∧ Below w2.heap.size w2 wr) (fun _ i _ => L.length - (intOf i).toNat)
  case atStart => exact ⟨0, Nat.zero_le _, rfl, World.ownsRow_nil _ _ _ _, Below.refl _ _⟩
  case round =>
    obtain ⟨k, hk, rfl, ho, br⟩ := hrel
    obtain ⟨p5, n5, q5, rfl⟩ := own_form ho
    have sz := br.size
    have sz2 := B2.out.size
    by_cases hkl : k < L.length
    · have q0 : decide ((k : Int) < (L.length : Int)) = true := decide_eq_true (by omega)
      obtain ⟨bk, off, cap', hvv, hcap, hbk, hc⟩ := (HR.out wr br).cells enC_len (by omega)
      injection hvv with e1 e2 e3
      subst e1 e3
      obtain ⟨x, hx⟩ : ∃ x, x = L[k] := ⟨_, rfl⟩
      have hn : nameOk x.cmd.name := by rw [hx]; exact hLz _ (List.getElem_mem hkl)
      have hx0 : L.take (k + 1) = L.take k ++ [x] := by rw [List.take_add_one, List.getElem?_eq_getElem hkl, hx]; rfl
      have z0 := hc k hkl 0 (.int .i64 x.slot) (by decide) (by rw [hx]; rfl)
      have z1 := hc k hkl 1 (.int .i64 x.ballot) (by decide) (by rw [hx]; rfl)
      have z2 := hc k hkl 2 (.int .i64 x.cmd.kind) (by decide) (by rw [hx]; rfl)
      have z3 := hc k hkl 3 (.int .i64 x.cmd.session) (by decide) (by rw [hx]; rfl)
      have z4 := hc k hkl 4 (.int .i64 x.cmd.seq) (by decide) (by rw [hx]; rfl)
      have z5 := hc k hkl 5 (.string x.cmd.name) (by decide) (by rw [hx]; rfl)
      have z6 := hc k hkl 6 (.int .i64 x.cmd.n) (by decide) (by rw [hx]; rfl)
      rw [Nat.add_zero] at z0
      have HX : Hid _ := hx0
      have HO : Hid (OwnEn wr w2.heap.size (.slice p5 n5 q5) (L.take k)) := ho
      have BR : Hid _ := br
      have hlt : (L.take k).length ≤ 536870912 := by rw [List.length_take]; omega
      clear hc hx ho br hx0 hcap hbk c3 hu0
      go_wp2_with (first
        | (at_builtin; refine wpList_app_row (k := 7) (enc := enC) (l := [x]) rfl (.tmp 30) (.tmp 33) 22 36 rfl i0 _ 64 Try.underlying22 hi hz0 hz1 hz2 rfl (by decide) enC_len enC_one (base := w2.heap.size) rfl rfl (World.ownsRow.alloc O5.out _) (RowAt.built (heap_alloc_new _ _) rfl 1 rfl rfl) (by simp; have := B5.out.size; omega) (by simp; omega) (by simp; omega) ?_; intro u6 w6 o6 a6; obtain ⟨p6, n6, q6, rfl⟩ := own_form o6; have O6 : Hid _ := o6; have B6 : Hid (Below w2.heap.size w2 w6) := (B5.out.alloc B5.out.size _).trans a6.below; clear o6 a6)
        | (go_at_call 40; refine (aclone_any _ x hn).mono ?_; rintro r w5 ⟨rfl, b5⟩; have B5 : Hid (Below w2.heap.size w2 w5) := bmm (BR.out.alloc BR.out.size _) (BR.out.alloc BR.out.size _).size b5; have O5 : Hid (OwnEn w5 w2.heap.size (.slice p5 n5 q5) (L.take k)) := own_keep (World.ownsRow.alloc HO.out _) (fun g e => b5.block g (World.ownsRow.lt (World.ownsRow.alloc HO.out _) g e).2); clear b5))
      go_roundw
      case rel =>
        refine ⟨k + 1, hkl, by go_num, ?_, B6.out⟩
        rw [HX.out]
        show World.ownsRow _ _ _ _ _ _ _
        rw [rowL_append, List.length_append]
        exact O6.out
      case measure => simp [intOf]; omega
    · have q0 : decide ((k : Int) < (L.length : Int)) = false := decide_eq_false (by omega)
      have ht : L.take k = L := List.take_of_length_le (by omega)
      rw [ht] at ho
      have HO : Hid (OwnEn wr w2.heap.size (.slice p5 n5 q5) L) := ho
      have BR : Hid _ := br
      clear ht ho br c3 hu0
      go_wp2
      go_ret
      exact ⟨_, rfl, by rw [HE.out]; exact own_mono HO.out sz2, bmm B2.out B2.out.size BR.out⟩
theorem cut_end {w w4 w5 : World} {S : Nat → Prop} {X base : Nat} {d : Du} {v v5 : Value} {es : List En} (h : PA w4 base S X d v) (k : Kept w w4 S S) (o : OwnEn w5 base v5 es) (g : w4.grownBy w5 v.ownBlock) (hl : v5.ownBlock = v.ownBlock) :
    CutPost 61 w base S X ⟨d.p, d.b, d.s, es⟩ (.returned (.tuple #[])) (w5.setCell ⟨X, 3, none⟩ v5) := by
  have k1 := (g.block X h.lt (fun e1 => h.ne e1.symm)).trans h.blk
  have n1 : v5.ownBlock ≠ some X := own_ne o k1 (by decide)
  have b2 : (w5.setCell ⟨X, 3, none⟩ v5).heap[X]? = some (.cells (duA ⟨d.p, d.b, d.s, es⟩ v5) 61 (0, 0)) := by
    rw [heap_setCell_same w5 X 3 _ _ _ k1]
    rfl
  have hs : ∀ b, b ≠ X → (w5.setCell ⟨X, 3, none⟩ v5).heap[b]? = w5.heap[b]? := fun b hb => heap_setCell_other _ _ _ _ hb
  refine ⟨_, v5, rfl, h.next b2 (own_keep o fun b e1 => hs b (fun e2 => n1 (by rw [e1, e2]))) (by decide), k.trans (h.kept g.os g.tape g.output (Nat.le_trans g.size (by simp)) (fun b hb => Or.inl (by rw [← hl]; exact hb)) (fun b hb h1 h2 => ?_))⟩
  rw [hs b h1, g.block b hb (fun e1 => h2 e1.symm)]
/-- Base and Snap set. -/
theorem AcAt.set12 {T : TypeId} (h : AcAt T w base S X d v) (b : Int) (s : ByteArray) : AcAt T ((w.setCell ⟨X, 1, none⟩ (.int .i64 b)).setCell ⟨X, 2, none⟩ (.string s)) base S X ⟨d.p, b, s, d.es⟩ v ∧ Kept w ((w.setCell ⟨X, 1, none⟩ (.int .i64 b)).setCell ⟨X, 2, none⟩ (.string s)) S S := by
  have hs : ∀ y, y ≠ X → ((w.setCell ⟨X, 1, none⟩ (.int .i64 b)).setCell ⟨X, 2, none⟩ (.string s)).heap[y]? = w.heap[y]? := fun y hy => (heap_setCell_other _ _ _ _ hy).trans (heap_setCell_other _ _ _ _ hy)
  have h1 : (w.setCell ⟨X, 1, none⟩ (.int .i64 b)).heap[X]? = some (.cells #[.int .i64 d.p, .int .i64 b, .string d.s, v] T (0, 0)) := by
    rw [heap_setCell_same w X 1 _ _ _ h.blk]
    rfl
  refine ⟨⟨?_, own_keep h.own fun g e => hs g (fun e2 => h.ne (by rw [e, e2])), h.lo, h.ne, h.set⟩, ⟨rfl, rfl, rfl, by simp, fun x hx => Or.inl hx, fun x _ hn => hs x (fun e => hn ((h.set x).2 (Or.inl e)))⟩⟩
  rw [heap_setCell_same _ X 2 _ _ _ h1]
  rfl
set_option maxHeartbeats 6400000 in
set_option maxRecDepth 100000 in
theorem pcut_any (h : PA w base S X d v) (hu : Rises d.b d.es) (hl : d.es.length ≤ 536870912) (b : Int) (sn : ByteArray) (hn : nameOk sn) : Calls Try.prog 17 #[.pointer (some ⟨X, 0, none⟩), .int .i64 b, .string sn] w (CutPost 61 w base S X (cutD d b sn)) := by
  obtain ⟨pv, nv, qv, rfl⟩ := own_form h.own
  have c1 := h.c1
  by_cases hb : b ≤ d.b
  · have t1 : decide (b ≤ d.b) = true := decide_eq_true hb
    have HE : Hid (cutD d b sn = d) := by
      show (if _ then _ else _) = _
      rw [if_neg (by omega)]
    have HH : Hid _ := h
    clear h
    go_enter Try.func17, Try.ntmps17
    go_wp2
    go_returns
    rw [HE.out]
    exact ⟨S, _, rfl, HH.out, Kept.refl _ _⟩
  · have t1 : decide (b ≤ d.b) = false := decide_eq_false hb
    have q1 := pfind_any h hu hl b
    have HH : Hid _ := h
    have HU : Hid _ := hu
    have HB : Hid (d.b < b) := (by omega : d.b < b)
    clear h hu hb
    go_enter Try.func17, Try.ntmps17
    go_upto_region 2 with (go_at_call 37; refine q1.mono ?_; rintro x w2 ⟨kk, bb, rfl, hF, b2⟩; have FF : Hid _ := hF; have B2 : Hid _ := b2; clear b2 hF)
    clear c1
    obtain ⟨m, hm⟩ : ∃ m, m = (if bb then kk + 1 else kk) := ⟨_, rfl⟩
    have HE : Hid (cutD d b sn = ⟨d.p, b, sn, d.es.drop m⟩) := by
      show (if _ then _ else _) = _
      rw [if_pos HB.out, found_cut FF.out HU.out.2, hm]
    have hml : m ≤ d.es.length := by
      rw [hm]
      split
      · have := (FF.out.yes (by assumption)).1
        omega
      · exact FF.out.le
    have fin : ∀ a : Act, a.tmps.getD 6 undef = .int .i64 (m : Int) → a.tmps.getD 0 undef = .pointer (some ⟨X, 0, none⟩) → True := fun _ _ _ => trivial
    clear fin
    cases bb with
    | true =>
      have hm1 : (kk : Int) + 1 = (m : Int) := by rw [if_pos rfl] at hm; omega
      clear hm
      go_upto_region 5 with (go_at_call 38; refine (kclone_any sn _ hn).mono ?_; rintro r w3 ⟨rfl, b3⟩; have h3 := HH.out.fresh (bmm B2.out B2.out.size b3); have B3 : Hid (Below w.heap.size w w3) := bmm B2.out B2.out.size b3; have e1 := h3.c1; have e2 := h3.c2; have f1 := h3.fz 1; have f2 := h3.fz 2; have H3 : Hid _ := h3; clear b3 h3)
      obtain ⟨w4, hw4⟩ : ∃ w4, w4 = (w3.setCell ⟨X, 1, none⟩ (.int .i64 b)).setCell ⟨X, 2, none⟩ (.string sn) := ⟨_, rfl⟩
      have q4 := H3.out.set12 b sn
      rw [← hw4] at q4
      have HW4 : Hid ((w3.setCell ⟨X, 1, none⟩ (.int .i64 b)).setCell ⟨X, 2, none⟩ (.string sn) = w4) := hw4.symm
      have q5 := pdel_any w4 base _ d.es m q4.1.own hml (by omega)
      have Q4 : Hid _ := q4
      have e3 := q4.1.c3
      rw [HW4.out]
      clear hw4 q4 e1 e2 f1 f2 HW4
      go_wp2_with (go_at_call 39; refine q5.mono ?_; rintro x w5 ⟨v5, rfl, o5, g5, l5⟩; obtain ⟨p5, n5, r5, rfl⟩ := own_form o5; have k5 := (g5.block X Q4.out.1.lt (fun e => Q4.out.1.ne e.symm)).trans Q4.out.1.blk; have z5 : w5.cell? ⟨X, 3, none⟩ = some (.slice pv nv qv) := (by simp [World.cell?, k5]); have f5 : w5.frozen? ⟨X, 3, none⟩ = false := (by simp [World.frozen?, k5]); have O5 : Hid _ := o5; have G5 : Hid _ := g5; have L5 : Hid _ := l5; have K5 : Hid _ := k5; clear o5 g5 l5 k5)
      go_returns
      rw [HE.out]
      exact cut_end Q4.out.1 ((Kept.of B3.out).trans Q4.out.2) O5.out G5.out L5.out
    | false =>
      have hm1 : kk = m := by simp at hm; omega
      clear hm
      subst hm1
      go_upto_region 5 with (go_at_call 38; refine (kclone_any sn _ hn).mono ?_; rintro r w3 ⟨rfl, b3⟩; have h3 := HH.out.fresh (bmm B2.out B2.out.size b3); have B3 : Hid (Below w.heap.size w w3) := bmm B2.out B2.out.size b3; have e1 := h3.c1; have e2 := h3.c2; have f1 := h3.fz 1; have f2 := h3.fz 2; have H3 : Hid _ := h3; clear b3 h3)
      obtain ⟨w4, hw4⟩ : ∃ w4, w4 = (w3.setCell ⟨X, 1, none⟩ (.int .i64 b)).setCell ⟨X, 2, none⟩ (.string sn) := ⟨_, rfl⟩
      have q4 := H3.out.set12 b sn
      rw [← hw4] at q4
      have HW4 : Hid ((w3.setCell ⟨X, 1, none⟩ (.int .i64 b)).setCell ⟨X, 2, none⟩ (.string sn) = w4) := hw4.symm
      have q5 := pdel_any w4 base _ d.es kk q4.1.own hml (by omega)
      have Q4 : Hid _ := q4
      have e3 := q4.1.c3
      rw [HW4.out]
      clear hw4 q4 e1 e2 f1 f2 HW4
      go_wp2_with (go_at_call 39; refine q5.mono ?_; rintro x w5 ⟨v5, rfl, o5, g5, l5⟩; obtain ⟨p5, n5, r5, rfl⟩ := own_form o5; have k5 := (g5.block X Q4.out.1.lt (fun e => Q4.out.1.ne e.symm)).trans Q4.out.1.blk; have z5 : w5.cell? ⟨X, 3, none⟩ = some (.slice pv nv qv) := (by simp [World.cell?, k5]); have f5 : w5.frozen? ⟨X, 3, none⟩ = false := (by simp [World.frozen?, k5]); have O5 : Hid _ := o5; have G5 : Hid _ := g5; have L5 : Hid _ := l5; have K5 : Hid _ := k5; clear o5 g5 l5 k5)
      go_returns
      rw [HE.out]
      exact cut_end Q4.out.1 ((Kept.of B3.out).trans Q4.out.2) O5.out G5.out L5.out
end
end Go.Proofs.Ytkngpfngfmbmjaa
