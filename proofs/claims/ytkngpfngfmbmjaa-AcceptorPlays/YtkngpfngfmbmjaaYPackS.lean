/-
  Parts of the proof, laid together: FoPure, FoNew. The conditions stand at each part.
-/
import Derived.Test.YtkngpfngfmbmjaaYPackQ
import Derived.Test.YtkngpfngfmbmjaaYPackR
/-
  Package durable: Fold, Recs, Same. The conditions: at most 2^29 entries, which rise, where they are folded; at most 2^29 records; a text has at most 2^48 bytes.
-/
namespace Go.Proofs.Ytkngpfngfmbmjaa
open Go.Shelf Go.RowKit Go.Lib Go.Sort

theorem RecI.fresh {w wr w' : World} {d : Du} {v u : Value} {l : List Rc} (h : RecI w wr d v u l) (b : Below wr.heap.size wr w') : RecI w w' d v u l :=
  ⟨own_keep h.own fun g e => b.block g (h.own.lt g e).2, (b.block _ (lt_of_block h.box)).trans h.box, bmm h.bel h.bel.size b, Nat.le_trans h.sz b.size⟩
set_option maxHeartbeats 6400000 in
set_option maxRecDepth 100000 in
theorem precs_any (w : World) (d : Du) (v : Value) (hv : RowAt enC w v d.es) (hl : d.es.length ≤ 536870912) (hs : SzD d) :
    Calls Try.prog 27 #[.agg (duA d v)] w fun e w' => ∃ u, e = .returned u ∧ OwnRc w' w.heap.size u (recsD d) ∧ Below w.heap.size w w' := by
  obtain ⟨a0, cap0, rfl⟩ := hv.form
  obtain ⟨i0, hi, hz0, hz1, hz2⟩ := info_parts infoRec
  have hI : RecI w (w.alloc (.cells (duA d (.slice a0 d.es.length cap0)) 24)) d (.slice a0 d.es.length cap0) (.slice none 0 0) [] := ⟨World.ownsRow_nil _ _ _ _, heap_alloc_new w _, (Below.refl _ w).alloc (Nat.le_refl _) _, by simp⟩
  have c0 := hI.box.c0
  by_cases hp : 0 < d.p
  · have q : decide ((0 : Int) < d.p) = true := decide_eq_true hp
    have hF : firstRc d = [⟨1, d.p, En.zero⟩] := by unfold firstRc; rw [if_pos hp]
    have HF : Hid _ := hF
    have HI : Hid _ := hI
    clear hF hp hI
    go_enter Try.func27, Try.ntmps27
    go_wp2_with (at_builtin; refine wpList_app_row (k := 9) (enc := rcC) (l := [⟨1, d.p, En.zero⟩]) rfl (.tmp 9) (.tmp 13) 39 65 rfl i0 _ 80 Try.underlying39 hi hz0 hz1 hz2 rfl (by decide) rcC_len rcC_ones (base := w.heap.size + 1) (n := 0) (xs := []) rfl rfl (World.ownsRow_nil _ _ _ _) (RowAt.built ((two_blocks w _ _).2.trans (heap_alloc_new _ _)) rfl 1 rfl rfl) (by simp) (by simp) (by simp) ?_; intro u6 w6 o6 a6; obtain ⟨p6, n6, q6, rfl⟩ := own_form o6; have I6 : Hid (RecI w w6 d (.slice a0 d.es.length cap0) (.slice p6 n6 q6) (firstRc d)) := (by rw [HF.out]; exact RecI.step HI.out o6 (((Below.refl _ _).alloc (by simp) _).trans a6.below)); have c3 := I6.out.box.c3; clear o6 a6)
    go_loopw [3, 18] (fun u i wr => ∃ (k : Nat), k ≤ d.es.length ∧ i = .int .i64 (k : Int) ∧ RecI w wr d (.slice a0 d.es.length cap0) u (firstRc d ++ (d.es.take k).map fun e => ⟨2, 0, e⟩)) (fun _ i _ => d.es.length - (intOf i).toNat)
    case atStart => exact ⟨0, Nat.zero_le _, rfl, by simpa using I6.out⟩
    case round =>
      obtain ⟨k, hk, rfl, hP⟩ := hrel
      clear I6
      obtain ⟨p5, n5, q5, rfl⟩ := own_form hP.own
      by_cases hkl : k < d.es.length
      · have q0 : decide ((k : Int) < (d.es.length : Int)) = true := decide_eq_true (by omega)
        obtain ⟨bk, off, cap', hvv, hcap, hbk, hc⟩ := (hv.fresh hP.bel).cells enC_len (by omega)
        injection hvv with e1 e2 e3
        subst e1 e3
        obtain ⟨x, hx⟩ : ∃ x, x = d.es[k] := ⟨_, rfl⟩
        have hxn : nameOk x.cmd.name := by rw [hx]; exact hs.es _ (List.getElem_mem hkl)
        have hx0 : d.es.take (k + 1) = d.es.take k ++ [x] := by rw [List.take_add_one, List.getElem?_eq_getElem hkl, hx]; rfl
        have z0 := hc k hkl 0 (.int .i64 x.slot) (by decide) (by rw [hx]; rfl)
        have z1 := hc k hkl 1 (.int .i64 x.ballot) (by decide) (by rw [hx]; rfl)
        have z2 := hc k hkl 2 (.int .i64 x.cmd.kind) (by decide) (by rw [hx]; rfl)
        have z3 := hc k hkl 3 (.int .i64 x.cmd.session) (by decide) (by rw [hx]; rfl)
        have z4 := hc k hkl 4 (.int .i64 x.cmd.seq) (by decide) (by rw [hx]; rfl)
        have z5 := hc k hkl 5 (.string x.cmd.name) (by decide) (by rw [hx]; rfl)
        have z6 := hc k hkl 6 (.int .i64 x.cmd.n) (by decide) (by rw [hx]; rfl)
        rw [Nat.add_zero] at z0
        have HX : Hid (firstRc d ++ (d.es.take (k + 1)).map (fun e => (⟨2, 0, e⟩ : Rc)) = (firstRc d ++ (d.es.take k).map fun e => ⟨2, 0, e⟩) ++ [⟨2, 0, x⟩]) := by
          show _ = _
          rw [hx0, List.map_append, List.append_assoc]
          rfl
        obtain ⟨l, hll⟩ : ∃ l, l = firstRc d ++ (d.es.take k).map (fun e => (⟨2, 0, e⟩ : Rc)) := ⟨_, rfl⟩
        have hlen : l.length ≤ 536870913 := by
          rw [hll, List.length_append, List.length_map, List.length_take]
          have : (firstRc d).length ≤ 1 := by unfold firstRc; split <;> simp
          omega
        rw [← hll] at hP HX
        have HP : Hid _ := hP
        clear hP hx hc hx0 hll
        go_wp2_with (first
          | (at_builtin; refine wpList_app_row (k := 9) (enc := rcC) (l := [⟨2, 0, x⟩]) rfl (.tmp 22) (.tmp 26) 39 65 rfl i0 _ 80 Try.underlying39 hi hz0 hz1 hz2 rfl (by decide) rcC_len rcC_ones (base := w.heap.size + 1) rfl rfl (I5.out.own.alloc _) (RowAt.built (heap_alloc_new _ _) rfl 1 rfl rfl) (by simp; have := I5.out.sz; omega) (by simp; omega) (by simp; omega) ?_; intro u6 w6 o6 a6; obtain ⟨p6, n6, q6, rfl⟩ := own_form o6; have I6 : Hid _ := (I5.out.fresh ((Below.refl _ _).alloc (Nat.le_refl _) _)).step o6 a6.below; clear o6 a6)
          | (go_at_call 45; refine (cloneE_any _ x hxn).mono ?_; rintro e w5 ⟨rfl, b5⟩; have I5 : Hid _ := (HP.out.fresh ((Below.refl _ _).alloc (Nat.le_refl _) _)).fresh b5; clear b5))
        go_roundw
        case rel => exact ⟨k + 1, hkl, by go_num, by rw [HX.out]; exact I6.out⟩
        case measure => simp [intOf]; omega
      · have q0 : decide ((k : Int) < (d.es.length : Int)) = false := decide_eq_false (by omega)
        have ht : d.es.take k = d.es := List.take_of_length_le (by omega)
        rw [ht] at hP
        have HP : Hid _ := hP
        clear hP ht
        go_wp2
        go_ret
        exact ⟨_, rfl, own_mono HP.out.own (by omega), HP.out.bel⟩
  · have q : decide ((0 : Int) < d.p) = false := decide_eq_false hp
    have hF : firstRc d = [] := by unfold firstRc; rw [if_neg hp]
    have c3 := hI.box.c3
    have I6 : Hid (RecI w (w.alloc (.cells (duA d (.slice a0 d.es.length cap0)) 24)) d (.slice a0 d.es.length cap0) (.slice none 0 0) (firstRc d)) := by rw [hF]; exact hI
    clear hF hp hI
    go_enter Try.func27, Try.ntmps27
    go_wp2
    go_loopw [3, 18] (fun u i wr => ∃ (k : Nat), k ≤ d.es.length ∧ i = .int .i64 (k : Int) ∧ RecI w wr d (.slice a0 d.es.length cap0) u (firstRc d ++ (d.es.take k).map fun e => ⟨2, 0, e⟩)) (fun _ i _ => d.es.length - (intOf i).toNat)
    case atStart => exact ⟨0, Nat.zero_le _, rfl, by simpa using I6.out⟩
    case round =>
      obtain ⟨k, hk, rfl, hP⟩ := hrel
      clear I6
      obtain ⟨p5, n5, q5, rfl⟩ := own_form hP.own
      by_cases hkl : k < d.es.length
      · have q0 : decide ((k : Int) < (d.es.length : Int)) = true := decide_eq_true (by omega)
        obtain ⟨bk, off, cap', hvv, hcap, hbk, hc⟩ := (hv.fresh hP.bel).cells enC_len (by omega)
        injection hvv with e1 e2 e3
        subst e1 e3
        obtain ⟨x, hx⟩ : ∃ x, x = d.es[k] := ⟨_, rfl⟩
        have hxn : nameOk x.cmd.name := by rw [hx]; exact hs.es _ (List.getElem_mem hkl)
        have hx0 : d.es.take (k + 1) = d.es.take k ++ [x] := by rw [List.take_add_one, List.getElem?_eq_getElem hkl, hx]; rfl
        have z0 := hc k hkl 0 (.int .i64 x.slot) (by decide) (by rw [hx]; rfl)
        have z1 := hc k hkl 1 (.int .i64 x.ballot) (by decide) (by rw [hx]; rfl)
        have z2 := hc k hkl 2 (.int .i64 x.cmd.kind) (by decide) (by rw [hx]; rfl)
        have z3 := hc k hkl 3 (.int .i64 x.cmd.session) (by decide) (by rw [hx]; rfl)
        have z4 := hc k hkl 4 (.int .i64 x.cmd.seq) (by decide) (by rw [hx]; rfl)
        have z5 := hc k hkl 5 (.string x.cmd.name) (by decide) (by rw [hx]; rfl)
        have z6 := hc k hkl 6 (.int .i64 x.cmd.n) (by decide) (by rw [hx]; rfl)
        rw [Nat.add_zero] at z0
        have HX : Hid (firstRc d ++ (d.es.take (k + 1)).map (fun e => (⟨2, 0, e⟩ : Rc)) = (firstRc d ++ (d.es.take k).map fun e => ⟨2, 0, e⟩) ++ [⟨2, 0, x⟩]) := by
          show _ = _
          rw [hx0, List.map_append, List.append_assoc]
          rfl
        obtain ⟨l, hll⟩ : ∃ l, l = firstRc d ++ (d.es.take k).map (fun e => (⟨2, 0, e⟩ : Rc)) := ⟨_, rfl⟩
        have hlen : l.length ≤ 536870913 := by
          rw [hll, List.length_append, List.length_map, List.length_take]
          have : (firstRc d).length ≤ 1 := by unfold firstRc; split <;> simp
          omega
        rw [← hll] at hP HX
        have HP : Hid _ := hP
        clear hP hx hc hx0 hll
        go_wp2_with (first
          | (at_builtin; refine wpList_app_row (k := 9) (enc := rcC) (l := [⟨2, 0, x⟩]) rfl (.tmp 22) (.tmp 26) 39 65 rfl i0 _ 80 Try.underlying39 hi hz0 hz1 hz2 rfl (by decide) rcC_len rcC_ones (base := w.heap.size + 1) rfl rfl (I5.out.own.alloc _) (RowAt.built (heap_alloc_new _ _) rfl 1 rfl rfl) (by simp; have := I5.out.sz; omega) (by simp; omega) (by simp; omega) ?_; intro u6 w6 o6 a6; obtain ⟨p6, n6, q6, rfl⟩ := own_form o6; have I6 : Hid _ := (I5.out.fresh ((Below.refl _ _).alloc (Nat.le_refl _) _)).step o6 a6.below; clear o6 a6)
          | (go_at_call 45; refine (cloneE_any _ x hxn).mono ?_; rintro e w5 ⟨rfl, b5⟩; have I5 : Hid _ := (HP.out.fresh ((Below.refl _ _).alloc (Nat.le_refl _) _)).fresh b5; clear b5))
        go_roundw
        case rel => exact ⟨k + 1, hkl, by go_num, by rw [HX.out]; exact I6.out⟩
        case measure => simp [intOf]; omega
      · have q0 : decide ((k : Int) < (d.es.length : Int)) = false := decide_eq_false (by omega)
        have ht : d.es.take k = d.es := List.take_of_length_le (by omega)
        rw [ht] at hP
        have HP : Hid _ := hP
        clear hP ht
        go_wp2
        go_ret
        exact ⟨_, rfl, own_mono HP.out.own (by omega), HP.out.bel⟩
end Go.Proofs.Ytkngpfngfmbmjaa
/-
  Package durable: Fold, and with it what DurableFolds and DurableAgain want. The conditions: at most 2^29 entries, which rise; at most 2^29 records; a text has at most 2^48 bytes.
-/
namespace Go.Proofs.Ytkngpfngfmbmjaa
open Go.Shelf Go.RowKit Go.Lib Go.Sort

set_option maxHeartbeats 6400000 in
set_option maxRecDepth 100000 in
theorem pFold_any (w : World) (d : Du) (v lv : Value) (l : List Rc) (hv : RowAt enC w v d.es) (hr : RowAt rcC w lv l) (hR : Rises d.b d.es) (hl : d.es.length ≤ 536870912) (hm : l.length ≤ 536870912) (hs : SzD d) (hsl : SzR l) :
    Calls Try.prog 26 #[.agg (duA d v), lv] w fun e w' => ∃ v', e = .returned (.agg (duA (foldD d l) v')) ∧ OwnEn w' w.heap.size v' (foldD d l).es ∧ Below w.heap.size w w' := by
  obtain ⟨W, hW⟩ : ∃ W, W = (w.alloc (.cells (duA d v) 24)).alloc (.cells #[.int .i64 0, .int .i64 0, .string ⟨#[]⟩, .slice none 0 0] 24) := ⟨_, rfl⟩
  have bW : Below w.heap.size w W := by rw [hW]; exact ((Below.refl _ w).alloc (Nat.le_refl _) _).alloc (by simp) _
  have h2 := two_blocks w (.cells (duA d v) 24) (.cells #[.int .i64 0, .int .i64 0, .string ⟨#[]⟩, .slice none 0 0] 24)
  have hD : DuAt W w.heap.size d v := by rw [hW]; exact h2.1.trans (heap_alloc_new w _)
  have hZ : W.heap[w.heap.size + 1]? = some (.cells #[.int .i64 0, .int .i64 0, .string ⟨#[]⟩, .slice none 0 0] 24 (0, 0)) := by rw [hW]; exact h2.2.trans (heap_alloc_new _ _)
  have q1 := clone_d W d v (hv.fresh bW) (by omega) hs.s hs.es
  have BW : Hid _ := bW
  have HD : Hid _ := hD
  have HZ : Hid _ := hZ
  have HV : Hid (RowAt rcC w lv l) := hr
  have HW : Hid ((w.alloc (.cells (duA d v) 24)).alloc (.cells #[.int .i64 0, .int .i64 0, .string ⟨#[]⟩, .slice none 0 0] 24) = W) := hW.symm
  clear hW bW h2 hD hZ hr hv
  go_enter Try.func26, Try.ntmps26
  go_upto_region 1 with fail
  rw [HW.out]
  go_upto_region 2 with (first
    | (go_at_call 43; refine q1.mono ?_; rintro e w2 ⟨v2, rfl, o2, b2⟩; obtain ⟨p2, n2, c2, rfl⟩ := own_form o2)
    | (show wpList _ _ _ (⟨_, Op.load 24 _, _, _, _, _⟩ :: _) _ _; refine load_row_g rfl 24 _ rfl w.heap.size rfl 24 (duA d v) (0, 0) _ HD.out Try.underlying24 rfl sizeDu ?_))
  obtain ⟨w3, hw3⟩ : ∃ w3, w3 = w2.alloc (.cells (duA d (.slice p2 n2 c2)) 24) := ⟨_, rfl⟩
  obtain ⟨C, hC⟩ : ∃ C, C = w2.heap.size := ⟨_, rfl⟩
  have b3 : Below w2.heap.size w2 w3 := by rw [hw3]; exact (Below.refl _ _).alloc (Nat.le_refl _) _
  have d3 : DxAt w3 C 24 [] d (.slice p2 n2 c2) := by rw [hw3, hC]; exact heap_alloc_new w2 _
  have o3 : OwnEn w3 W.heap.size (.slice p2 n2 c2) d.es := own_keep o2 fun g e => b3.block g (o2.lt g e).2
  have bb : Below w.heap.size w w3 := bmm (bmm BW.out BW.out.size b2) (bmm BW.out BW.out.size b2).size b3
  have hWC : W.heap.size ≤ C := by rw [hC]; exact b2.size
  have hww : w.heap.size + 2 ≤ W.heap.size := by have := lt_of_block HZ.out; omega
  have z3 : w3.heap[w.heap.size + 1]? = some (.cells #[.int .i64 0, .int .i64 0, .string ⟨#[]⟩, .slice none 0 0] 24 (0, 0)) := ((b3.block _ (by have := b2.size; omega)).trans (b2.block _ (by omega))).trans HZ.out
  have q2 := pfold_any w3 W.heap.size C 24 [] d (.slice p2 n2 c2) lv l d3 (by decide) hWC o3 (HV.out.fresh bb) (fun bk off n cap h0 e => by
    have h1 := HV.out.lt h0 e
    refine ⟨by omega, fun e2 => ?_⟩
    have := (o3.lt bk e2).1
    omega) hR hl hm hsl
  have Z3 : Hid _ := z3
  have BB : Hid _ := bb
  have HC : Hid (W.heap.size ≤ C ∧ w.heap.size + 2 ≤ W.heap.size ∧ C < w3.heap.size) := ⟨hWC, hww, lt_of_block d3⟩
  have O3 : Hid _ := o3
  rw [← hw3, ← hC]
  clear hw3 hC b3 d3 o3 o2 b2 bb hWC hww z3 q1
  go_wp2_with (first
    | (show wpList _ _ _ (⟨_, Op.store 24 _ _, _, _, _, _⟩ :: _) _ _; refine store_row_g rfl 24 _ _ rfl (w.heap.size + 1) (duA (foldD d l) (.slice p4 n4 c4)) rfl rfl 24 _ Z4.out sizeDu rfl (by simp [Value.oneCell']) ?_; intro w6 h6 g6)
    | (show wpList _ _ _ (⟨_, Op.load 24 _, _, _, _, _⟩ :: _) _ _; refine load_row_g rfl 24 _ rfl C rfl 24 (duA (foldD d l) (.slice p4 n4 c4)) (0, 0) _ D4.out Try.underlying24 rfl sizeDu ?_)
    | (go_at_call 44; refine q2.mono ?_; rintro e w4 ⟨rfl, v4, d4, o4, l4, f4⟩; obtain ⟨p4, n4, c4, rfl⟩ := own_form o4; have D4 : Hid (DuAt w4 C (foldD d l) (.slice p4 n4 c4)) := d4; have O4 : Hid _ := o4; have F4 : Hid _ := f4; have Z4 : Hid (w4.heap[w.heap.size + 1]? = some (.cells #[.int .i64 0, .int .i64 0, .string ⟨#[]⟩, .slice none 0 0] 24 (0, 0))) := (f4.rest _ (by have := HC.out; omega) (by have := HC.out; omega) (fun e2 => by have := (World.ownsRow.lt O3.out _ e2).1; have := HC.out; omega)).trans Z3.out; clear d4 o4 l4 f4))
  refine bodyPost_ret (results_cell_row Try.results26 _ _ (w.heap.size + 1) 24 _ (0, 0) _ rfl h6 Try.underlying24 rfl sizeDu) rfl ?_
  have hc := HC.out
  have b4 : Below W.heap.size w3 w4 := F4.out.below hc.1 (by omega) (fun g e => (World.ownsRow.lt O3.out g e).1)
  have bf : Below w.heap.size w w4 := BB.out.trans (b4.mono (by omega))
  refine ⟨_, rfl, own_mono (own_keep O4.out (fun g e => g6.block g (World.ownsRow.lt O4.out g e).2 (fun e2 => ?_))) (by omega), bf.grown g6 bf.size (fun k hk => by have := Option.some.inj hk; omega)⟩
  have := (World.ownsRow.lt O4.out g e).1
  have := Option.some.inj e2
  omega
end Go.Proofs.Ytkngpfngfmbmjaa
