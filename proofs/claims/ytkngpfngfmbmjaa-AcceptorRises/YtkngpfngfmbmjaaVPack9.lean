/-
  Parts of the proof, laid together: AcAsk, AcAskB. The conditions stand at each part.
-/
import Derived.Test.YtkngpfngfmbmjaaVPack8
/-
  Package acceptor: From, At, Cut, Durable. The conditions: at most 2^29 entries, which rise; a text has at most 2^48 bytes.
-/
namespace Go.Proofs.Ytkngpfngfmbmjaa
open Go.Shelf Go.RowKit Go.Lib Go.Sort

theorem found_from {es : List En} {s : Int} {k : Nat} {b : Bool} (h : FoundS es s k b) : fromE es s = es.drop k := by
  unfold fromE
  have h1 : (es.take k).filter (fun e => decide (s ≤ e.slot)) = [] := by
    rw [List.filter_eq_nil_iff]
    intro x hx
    have := h.lo x hx
    simp only [decide_eq_true_eq]
    omega
  have h2 : (es.drop k).filter (fun e => decide (s ≤ e.slot)) = es.drop k := by
    rw [List.filter_eq_self]
    intro x hx
    obtain ⟨i, hi, rfl⟩ := List.mem_drop_iff_getElem.1 hx
    have := h.above (k + i) (by omega) (by omega)
    simp only [decide_eq_true_eq]
    omega
  conv => lhs; rw [← List.take_append_drop k es, List.filter_append, h1, h2]
  rfl
section
variable {w : World} {base X : Nat} {S : Nat → Prop} {d : Du} {v : Value}
set_option maxHeartbeats 6400000 in
set_option maxRecDepth 100000 in
theorem pat_any (h : PA w base S X d v) (hu : Rises d.b d.es) (hl : d.es.length ≤ 536870912) (hz : ∀ e ∈ d.es, nameOk e.cmd.name) (s : Int) : Calls Try.prog 22 #[.pointer (some ⟨X, 0, none⟩), .int .i64 s] w fun e w' => e = .returned (.tuple #[.agg (enA ((findE d.es s).getD En.zero)), .bool (findE d.es s).isSome]) ∧ Below w.heap.size w w' := by
  obtain ⟨W, hW⟩ : ∃ W, W = w.alloc (.cells (enA En.zero) 36) := ⟨_, rfl⟩
  have bW : Below w.heap.size w W := by rw [hW]; exact (Below.refl _ w).alloc (Nat.le_refl _) _
  have eW : EnAt W w.heap.size En.zero := by rw [hW]; exact heap_alloc_new w _
  have sW : W.heap.size = w.heap.size + 1 := by rw [hW]; simp
  have HP : Hid (∀ y, Below w.heap.size w y → PA y base S X d v) := fun y b => h.fresh b
  have q1 := pfind_any (h.fresh bW) hu hl s
  have HW : Hid (w.alloc (.cells #[.int .i64 0, .int .i64 0, .int .i64 0, .int .i64 0, .int .i64 0, .string ⟨#[]⟩, .int .i64 0] 36) = W) := hW.symm
  have BW : Hid (Below w.heap.size w W ∧ W.heap.size = w.heap.size + 1) := ⟨bW, sW⟩
  have EW : Hid _ := eW
  have HU : Hid _ := hu
  obtain ⟨va, vc, rfl⟩ := h.form
  clear hW bW eW sW h hu
  go_enter Try.func22, Try.ntmps22
  go_upto_region 1 with fail
  rw [HW.out]
  go_upto_region 4 with (go_at_call 37; refine q1.mono ?_; rintro x w2 ⟨kk, bb, rfl, hF, b2⟩; have FF : Hid _ := hF; have B2 : Hid (Below w.heap.size w w2) := bmm BW.out.1 BW.out.1.size b2; have E2 : Hid (EnAt w2 w.heap.size En.zero) := (b2.block _ (by have := BW.out.2; omega)).trans EW.out; clear b2 hF)
  cases bb with
  | false =>
    have HN : Hid _ := found_none FF.out HU.out.2
    go_wp2_with (show wpList _ _ _ (⟨_, Op.store 36 _ _, _, _, _, _⟩ :: _) _ _; refine store_row_g rfl 36 _ _ rfl w.heap.size (enA En.zero) rfl rfl 36 _ E2.out sizeEn rfl (by simp [Value.oneCell']) ?_; intro w6 h6 g6)
    refine bodyPost_ret (results_two Try.results22 _ _ w.heap.size _ rfl (load_ent h6)) rfl ?_
    rw [HN.out]
    exact ⟨rfl, B2.out.grown g6 B2.out.size (fun k hk => by have := Option.some.inj hk; omega)⟩
  | true =>
    obtain ⟨hkl, hfs⟩ := found_some FF.out HU.out.2
    have HN : Hid _ := hfs
    have hP2 := HP.out w2 B2.out
    have c3 := hP2.c3
    obtain ⟨bk, off, cap', hvv, hcap, hbk, hc⟩ := (OwnEn.row hP2.own).cells enC_len (by omega)
    injection hvv with e1 e2 e3
    subst e1 e3
    obtain ⟨x, hx⟩ : ∃ x, x = d.es[kk] := ⟨_, rfl⟩
    have hn : nameOk x.cmd.name := by rw [hx]; exact hz _ (List.getElem_mem hkl)
    have k1 : (0 : Int) ≤ (kk : Int) := by omega
    have k2 : (kk : Int) < (d.es.length : Int) := by omega
    have k3 : ((kk : Int)).toNat = kk := by omega
    have z0 := hc kk hkl 0 (.int .i64 x.slot) (by decide) (by rw [hx]; rfl)
    have z1 := hc kk hkl 1 (.int .i64 x.ballot) (by decide) (by rw [hx]; rfl)
    have z2 := hc kk hkl 2 (.int .i64 x.cmd.kind) (by decide) (by rw [hx]; rfl)
    have z3 := hc kk hkl 3 (.int .i64 x.cmd.session) (by decide) (by rw [hx]; rfl)
    have z4 := hc kk hkl 4 (.int .i64 x.cmd.seq) (by decide) (by rw [hx]; rfl)
    have z5 := hc kk hkl 5 (.string x.cmd.name) (by decide) (by rw [hx]; rfl)
    have z6 := hc kk hkl 6 (.int .i64 x.cmd.n) (by decide) (by rw [hx]; rfl)
    rw [Nat.add_zero] at z0
    rw [← hx] at HN
    clear hc hcap hbk hx hfs hP2
    go_wp2_with (first
      | (show wpList _ _ _ (⟨_, Op.store 36 _ _, _, _, _, _⟩ :: _) _ _; refine store_row_g rfl 36 _ _ rfl w.heap.size (enA x) rfl rfl 36 _ E3.out sizeEn rfl (by simp [Value.oneCell']) ?_; intro w6 h6 g6)
      | (go_at_call 40; refine (aclone_any _ x hn).mono ?_; rintro r w3 ⟨rfl, b3⟩; have B3 : Hid (Below w.heap.size w w3) := bmm B2.out B2.out.size b3; have E3 : Hid (EnAt w3 w.heap.size En.zero) := (b3.block _ (lt_of_block E2.out)).trans E2.out; clear b3))
    refine bodyPost_ret (results_two Try.results22 _ _ w.heap.size _ rfl (load_ent h6)) rfl ?_
    rw [HN.out]
    exact ⟨rfl, B3.out.grown g6 B3.out.size (fun k hk => by have := Option.some.inj hk; omega)⟩
set_option maxHeartbeats 6400000 in
set_option maxRecDepth 100000 in
theorem pdur_any (h : PA w base S X d v) (hu : Rises d.b d.es) (hl : d.es.length ≤ 536870912) (hz : SzD d) : Calls Try.prog 25 #[.pointer (some ⟨X, 0, none⟩)] w fun e w' => ∃ v', e = .returned (.agg (duA d v')) ∧ OwnEn w' w.heap.size v' d.es ∧ Below w.heap.size w w' := by
  obtain ⟨W, hW⟩ : ∃ W, W = w.alloc (.cells #[.int .i64 0, .int .i64 0, .string ⟨#[]⟩, .slice none 0 0] 24) := ⟨_, rfl⟩
  have bW : Below w.heap.size w W := by rw [hW]; exact (Below.refl _ w).alloc (Nat.le_refl _) _
  have eW : W.heap[w.heap.size]? = some (.cells #[.int .i64 0, .int .i64 0, .string ⟨#[]⟩, .slice none 0 0] 24 (0, 0)) := by rw [hW]; exact heap_alloc_new w _
  have sW : W.heap.size = w.heap.size + 1 := by rw [hW]; simp
  have hP := h.fresh bW
  have q1 := pFold_any W d v (.slice none 0 0) [] (OwnEn.row hP.own) (RowAt.nil _) hu hl (by simp) hz (fun r hr => by cases hr)
  have c0 := hP.c0
  have c1 := hP.c1
  have c2 := hP.c2
  have c3 := hP.c3
  have HW : Hid (w.alloc (.cells #[.int .i64 0, .int .i64 0, .string ⟨#[]⟩, .slice none 0 0] 24) = W) := hW.symm
  have BW : Hid (Below w.heap.size w W ∧ W.heap.size = w.heap.size + 1) := ⟨bW, sW⟩
  have EW : Hid _ := eW
  obtain ⟨va, vc, rfl⟩ := h.form
  clear hW bW eW sW h hu hP
  go_enter Try.func25, Try.ntmps25
  go_upto_region 1 with fail
  rw [HW.out]
  go_wp2_with (first
    | (show wpList _ _ _ (⟨_, Op.store 24 _ _, _, _, _, _⟩ :: _) _ _; refine store_row_g rfl 24 _ _ rfl w.heap.size (duA d (.slice p2 n2 q2)) rfl rfl 24 _ E2.out sizeDu rfl (by simp [Value.oneCell']) ?_; intro w6 h6 g6)
    | (go_at_call 26; refine q1.mono ?_; rintro x w2 ⟨v2, rfl, o2, b2⟩; obtain ⟨p2, n2, q2, rfl⟩ := own_form o2; have O2 : Hid _ := o2; have B2 : Hid (Below w.heap.size w w2) := bmm BW.out.1 BW.out.1.size b2; have E2 : Hid _ := (b2.block _ (lt_of_block EW.out)).trans EW.out; clear b2 o2))
  refine bodyPost_ret (results_cell_row Try.results25 _ _ w.heap.size 24 _ (0, 0) _ rfl h6 Try.underlying24 rfl sizeDu) rfl ?_
  exact ⟨_, rfl, own_mono (own_keep O2.out fun g e => g6.block g (World.ownsRow.lt O2.out g e).2 (fun e2 => by have h1 := (World.ownsRow.lt O2.out g e).1; have := Option.some.inj e2; have := BW.out.2; omega)) (by have := BW.out.2; omega), B2.out.grown g6 B2.out.size (fun k hk => by have := Option.some.inj hk; omega)⟩
end
end Go.Proofs.Ytkngpfngfmbmjaa
/-
  Package acceptor: From, Cut. The conditions: at most 2^29 entries, which rise; a text has at most 2^48 bytes.
-/
namespace Go.Proofs.Ytkngpfngfmbmjaa
open Go.Shelf Go.RowKit Go.Lib Go.Sort

section
variable {w : World} {base X : Nat} {S : Nat → Prop} {d : Du} {v : Value}
set_option maxHeartbeats 6400000 in
set_option maxRecDepth 100000 in
theorem pfrom_any (h : PA w base S X d v) (hu : Rises d.b d.es) (hl : d.es.length ≤ 536870912) (hz : ∀ e ∈ d.es, nameOk e.cmd.name) (s : Int) : Calls Try.prog 21 #[.pointer (some ⟨X, 0, none⟩), .int .i64 s] w fun e w' => ∃ u, e = .returned u ∧ OwnEn w' w.heap.size u (fromE d.es s) ∧ Below w.heap.size w w' := by
  obtain ⟨i0, hi, hz0, hz1, hz2⟩ := info_parts infoEn
  have HP : Hid (∀ y, Below w.heap.size w y → PA y base S X d v) := fun y b => h.fresh b
  have q1 := pfind_any h hu hl s
  obtain ⟨va, vc, rfl⟩ := h.form
  clear h hu
  go_enter Try.func21, Try.ntmps21
  go_upto_region 4 with (go_at_call 37; refine q1.mono ?_; rintro x w2 ⟨kk, bb, rfl, hF, b2⟩; have FF : Hid _ := hF; have B2 : Hid _ := b2; clear b2 hF)
  have hP2 := HP.out w2 B2.out
  have c3 := hP2.c3
  have hr2 := OwnEn.row hP2.own
  obtain ⟨u0, hu0, hw0⟩ := OwnRow.from (S := fun _ => True) (D := w2.heap.size) ⟨hr2, fun bk off n cap h0 e => ⟨trivial, by have := hr2.lt h0 e; omega⟩⟩ 22 36 i0 Try.underlying22 (by kernel_rfl) hi hz1 enC_len kk FF.out.le
  have HE : Hid (fromE d.es s = d.es.drop kk) := found_from FF.out
  obtain ⟨L, hL⟩ : ∃ L, L = d.es.drop kk := ⟨_, rfl⟩
  rw [← hL] at hw0 HE
  have hLz : ∀ e ∈ L, nameOk e.cmd.name := fun e he => hz e (List.mem_of_mem_drop (by rw [hL] at he; exact he))
  have hLl : L.length ≤ 536870912 := by rw [hL, List.length_drop]; omega
  have r0 : RowAt enC w2 u0 L := hw0.at'
  obtain ⟨pa, pc, rfl⟩ := r0.form
  have HR : Hid (∀ y, Below w2.heap.size w2 y → RowAt enC y (.slice pa L.length pc) L) := fun y b => r0.fresh b
  clear hw0 hP2 hr2 hL r0 hz hl
  go_wp2
  go_loopw [7, 26] (fun u i wr => ∃ k : Nat, k ≤ L.length ∧ i = .int .i64 (k : Int) ∧ OwnEn wr w2.heap.size u (L.take k) ∧ Below w2.heap.size w2 wr) (fun _ i _ => L.length - (intOf i).toNat)
  case atStart => exact ⟨0, Nat.zero_le _, rfl, World.ownsRow_nil _ _ _ _, Below.refl _ _⟩
  case round =>
    obtain ⟨k, hk, rfl, ho, br⟩ := hrel
    obtain ⟨p5, n5, q5, rfl⟩ := own_form ho
    have sz := br.size
    have sz2 := B2.out.size
    by_cases hkl : k < L.length
    · have q0 : decide ((k : Int) < (L.length : Int)) = true := decide_eq_true (by omega)
      obtain ⟨bk, off, cap', hvv, hcap, hbk, hc⟩ := (HR.out wr br).cells enC_len (by omega)
      injection hvv with e1 e2 e3
      subst e1 e3
      obtain ⟨x, hx⟩ : ∃ x, x = L[k] := ⟨_, rfl⟩
      have hn : nameOk x.cmd.name := by rw [hx]; exact hLz _ (List.getElem_mem hkl)
      have hx0 : L.take (k + 1) = L.take k ++ [x] := by rw [List.take_add_one, List.getElem?_eq_getElem hkl, hx]; rfl
      have z0 := hc k hkl 0 (.int .i64 x.slot) (by decide) (by rw [hx]; rfl)
      have z1 := hc k hkl 1 (.int .i64 x.ballot) (by decide) (by rw [hx]; rfl)
      have z2 := hc k hkl 2 (.int .i64 x.cmd.kind) (by decide) (by rw [hx]; rfl)
      have z3 := hc k hkl 3 (.int .i64 x.cmd.session) (by decide) (by rw [hx]; rfl)
      have z4 := hc k hkl 4 (.int .i64 x.cmd.seq) (by decide) (by rw [hx]; rfl)
      have z5 := hc k hkl 5 (.string x.cmd.name) (by decide) (by rw [hx]; rfl)
      have z6 := hc k hkl 6 (.int .i64 x.cmd.n) (by decide) (by rw [hx]; rfl)
      rw [Nat.add_zero] at z0
      have HX : Hid _ := hx0
      have HO : Hid (OwnEn wr w2.heap.size (.slice p5 n5 q5) (L.take k)) := ho
      have BR : Hid _ := br
      have hlt : (L.take k).length ≤ 536870912 := by rw [List.length_take]; omega
      clear hc hx ho br hx0 hcap hbk c3 hu0
      go_wp2_with (first
        | (at_builtin; refine wpList_app_row (k := 7) (enc := enC) (l := [x]) rfl (.tmp 30) (.tmp 33) 22 36 rfl i0 _ 64 Try.underlying22 hi hz0 hz1 hz2 rfl (by decide) enC_len enC_one (base := w2.heap.size) rfl rfl (World.ownsRow.alloc O5.out _) (RowAt.built (heap_alloc_new _ _) rfl 1 rfl rfl) (by simp; have := B5.out.size; omega) (by simp; omega) (by simp; omega) ?_; intro u6 w6 o6 a6; obtain ⟨p6, n6, q6, rfl⟩ := own_form o6; have O6 : Hid _ := o6; have B6 : Hid (Below w2.heap.size w2 w6) := (B5.out.alloc B5.out.size _).trans a6.below; clear o6 a6)
        | (go_at_call 40; refine (aclone_any _ x hn).mono ?_; rintro r w5 ⟨rfl, b5⟩; have B5 : Hid (Below w2.heap.size w2 w5) := bmm (BR.out.alloc BR.out.size _) (BR.out.alloc BR.out.size _).size b5; have O5 : Hid (OwnEn w5 w2.heap.size (.slice p5 n5 q5) (L.take k)) := own_keep (World.ownsRow.alloc HO.out _) (fun g e => b5.block g (World.ownsRow.lt (World.ownsRow.alloc HO.out _) g e).2); clear b5))
      go_roundw
      case rel =>
        refine ⟨k + 1, hkl, by go_num, ?_, B6.out⟩
        rw [HX.out]
        show World.ownsRow _ _ _ _ _ _ _
        rw [rowL_append, List.length_append]
        exact O6.out
      case measure => simp [intOf]; omega
    · have q0 : decide ((k : Int) < (L.length : Int)) = false := decide_eq_false (by omega)
      have ht : L.take k = L := List.take_of_length_le (by omega)
      rw [ht] at ho
      have HO : Hid (OwnEn wr w2.heap.size (.slice p5 n5 q5) L) := ho
      have BR : Hid _ := br
      clear ht ho br c3 hu0
      go_wp2
      go_ret
      exact ⟨_, rfl, by rw [HE.out]; exact own_mono HO.out sz2, bmm B2.out B2.out.size BR.out⟩
end
end Go.Proofs.Ytkngpfngfmbmjaa
