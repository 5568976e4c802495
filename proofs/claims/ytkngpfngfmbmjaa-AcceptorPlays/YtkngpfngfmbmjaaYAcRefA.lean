/-
  The document's acceptor: an entry of a slot, the entries from a slot on. No condition.
-/
import Derived.Test.YtkngpfngfmbmjaaYPack6
namespace Go.Proofs.Ytkngpfngfmbmjaa
open Go.RowKit

theorem findE_take {l : List En} {s : Int} {k : Nat} (hk : k < l.length) (h : findE (l.take k) s = none) : findE (l.take (k + 1)) s = if l[k].slot = s then some l[k] else none := by
  unfold findE at h ⊢
  rw [List.take_add_one, List.getElem?_eq_getElem hk, List.find?_append, h]
  by_cases he : l[k].slot = s
  · rw [if_pos he]
    simp [he]
  · rw [if_neg he]
    simp [he]
theorem findE_front {l : List En} {s : Int} {k : Nat} {x : En} (h : findE (l.take k) s = some x) : findE l s = some x := by
  unfold findE at h ⊢
  have : l = l.take k ++ l.drop k := (List.take_append_drop k l).symm
  rw [this, List.find?_append, h]
  rfl
section
variable {w : World} {base X : Nat} {S : Nat → Prop} {d : Du} {v : Value}
set_option maxHeartbeats 3200000 in
set_option maxRecDepth 100000 in
theorem rat_any (h : RA w base S X d v) (hl : d.es.length ≤ 536870912) (s : Int) : Calls Try.prog 28 #[.pointer (some ⟨X, 0, none⟩), .int .i64 s] w fun e w' => e = .returned (.tuple #[.agg (enA ((findE d.es s).getD En.zero)), .bool (findE d.es s).isSome]) ∧ Below w.heap.size w w' := by
  obtain ⟨W, hW⟩ : ∃ W, W = w.alloc (.cells (enA En.zero) 36) := ⟨_, rfl⟩
  have bW : Below w.heap.size w W := by rw [hW]; exact (Below.refl _ w).alloc (Nat.le_refl _) _
  have hB : W.heap[w.heap.size]? = some (.cells (enA En.zero) 36 (0, 0)) := by rw [hW]; exact heap_alloc_new w _
  have h' := h.fresh bW
  have c3 := h'.c3
  have hr := OwnEn.row h'.own
  obtain ⟨va, vc, rfl⟩ := hr.form
  have HR : Hid _ := hr
  have HB : Hid _ := hB
  have BW : Hid _ := bW
  have HW : Hid (w.alloc (.cells #[.int .i64 0, .int .i64 0, .int .i64 0, .int .i64 0, .int .i64 0, .string ⟨#[]⟩, .int .i64 0] 36) = W) := hW.symm
  clear hW bW hB h h' hr
  go_enter Try.func28, Try.ntmps28
  go_upto_region 1 with fail
  rw [HW.out]
  go_wp2
  go_loopw [6] (fun i wr => ∃ k : Nat, k ≤ d.es.length ∧ i = .int .i64 (k : Int) ∧ findE (d.es.take k) s = none ∧ wr = W) (fun i _ => d.es.length - (intOf i).toNat)
  case atStart => exact ⟨0, Nat.zero_le _, rfl, rfl, rfl⟩
  case round =>
    obtain ⟨k, hk, rfl, hn, rfl⟩ := hrel
    by_cases hkl : k < d.es.length
    · have q0 : decide ((k : Int) < (d.es.length : Int)) = true := decide_eq_true (by omega)
      obtain ⟨bk, off, cap', hvv, hcap, hbk, hc⟩ := HR.out.cells enC_len (by omega)
      injection hvv with e1 e2 e3
      subst e1 e3
      have hf := findE_take hkl hn
      obtain ⟨x, hx⟩ : ∃ x, x = d.es[k] := ⟨_, rfl⟩
      have z0 := hc k hkl 0 (.int .i64 x.slot) (by decide) (by rw [hx]; rfl)
      have z1 := hc k hkl 1 (.int .i64 x.ballot) (by decide) (by rw [hx]; rfl)
      have z2 := hc k hkl 2 (.int .i64 x.cmd.kind) (by decide) (by rw [hx]; rfl)
      have z3 := hc k hkl 3 (.int .i64 x.cmd.session) (by decide) (by rw [hx]; rfl)
      have z4 := hc k hkl 4 (.int .i64 x.cmd.seq) (by decide) (by rw [hx]; rfl)
      have z5 := hc k hkl 5 (.string x.cmd.name) (by decide) (by rw [hx]; rfl)
      have z6 := hc k hkl 6 (.int .i64 x.cmd.n) (by decide) (by rw [hx]; rfl)
      rw [Nat.add_zero] at z0
      rw [← hx] at hf
      clear hc hx hn
      by_cases hs : x.slot = s
      · rw [if_pos hs] at hf
        have HF : Hid (findE d.es s = some x) := findE_front hf
        have t1 : (x.slot == s) = true := by simpa using hs
        clear hf hs
        go_wp2_with (show wpList _ _ _ (⟨_, Op.store 36 _ _, _, _, _, _⟩ :: _) _ _; refine store_row_g rfl 36 _ _ rfl w.heap.size (enA x) rfl rfl 36 _ HB.out sizeEnt rfl (by simp [Value.oneCell']) ?_; intro w6 h6 g6)
        refine bodyPost_ret (results_two Try.results28 _ _ w.heap.size _ rfl (load_ent h6)) rfl ?_
        rw [HF.out]
        exact ⟨rfl, BW.out.grown g6 BW.out.size (fun k hk => by have := Option.some.inj hk; omega)⟩
      · rw [if_neg hs] at hf
        have t1 : (x.slot == s) = false := by simpa using hs
        have HF : Hid _ := hf
        clear hf hs
        go_wp2
        go_roundw
        case rel => exact ⟨k + 1, hkl, by go_num, HF.out, trivial⟩
        case measure => simp [intOf]; omega
    · have q0 : decide ((k : Int) < (d.es.length : Int)) = false := decide_eq_false (by omega)
      have ht : d.es.take k = d.es := List.take_of_length_le (by omega)
      rw [ht] at hn
      have HF : Hid _ := hn
      clear ht hn
      go_wp2_with (show wpList _ _ _ (⟨_, Op.store 36 _ _, _, _, _, _⟩ :: _) _ _; refine store_row_g rfl 36 _ _ rfl w.heap.size (enA En.zero) rfl rfl 36 _ HB.out sizeEnt rfl (by simp [Value.oneCell']) ?_; intro w6 h6 g6)
      refine bodyPost_ret (results_two Try.results28 _ _ w.heap.size _ rfl (load_ent h6)) rfl ?_
      rw [HF.out]
      exact ⟨rfl, BW.out.grown g6 BW.out.size (fun k hk => by have := Option.some.inj hk; omega)⟩
theorem fromE_next (l : List En) (s : Int) (k : Nat) (hk : k < l.length) : fromE (l.take (k + 1)) s = fromE (l.take k) s ++ if s ≤ l[k].slot then [l[k]] else [] := by
  unfold fromE
  rw [List.take_add_one, List.getElem?_eq_getElem hk, List.filter_append]
  congr 1
  by_cases h : s ≤ l[k].slot
  · rw [if_pos h]
    simp [h]
  · rw [if_neg h]
    simp [h]
theorem fromE_len (l : List En) (s : Int) : (fromE l s).length ≤ l.length := List.length_filter_le _ _
set_option maxHeartbeats 3200000 in
set_option maxRecDepth 100000 in
theorem rfrom_any (h : RA w base S X d v) (hl : d.es.length ≤ 536870912) (s : Int) : Calls Try.prog 30 #[.pointer (some ⟨X, 0, none⟩), .int .i64 s] w fun e w' => ∃ u, e = .returned u ∧ OwnEn w' w.heap.size u (fromE d.es s) ∧ Below w.heap.size w w' := by
  obtain ⟨i0, hi, hz0, hz1, hz2⟩ := info_parts infoEn
  have hr := OwnEn.row h.own
  obtain ⟨va, vc, rfl⟩ := hr.form
  have HR : Hid (∀ y, Below w.heap.size w y → RowAt enC y (.slice va d.es.length vc) d.es) := fun y b => hr.fresh b
  have HC : Hid (∀ y, Below w.heap.size w y → y.cell? ⟨X, 3, none⟩ = some (.slice va d.es.length vc)) := fun y b => (h.fresh b).c3
  clear h hr
  go_enter Try.func30, Try.ntmps30
  go_wp2
  go_loopw [5, 6] (fun u i wr => ∃ k : Nat, k ≤ d.es.length ∧ i = .int .i64 (k : Int) ∧ OwnEn wr w.heap.size u (fromE (d.es.take k) s) ∧ Below w.heap.size w wr) (fun _ i _ => d.es.length - (intOf i).toNat)
  case atStart => exact ⟨0, Nat.zero_le _, rfl, World.ownsRow_nil _ _ _ _, Below.refl _ _⟩
  case round =>
    obtain ⟨k, hk, rfl, ho, br⟩ := hrel
    obtain ⟨p5, n5, q5, rfl⟩ := own_form ho
    have c3 := HC.out wr br
    by_cases hkl : k < d.es.length
    · have q0 : decide ((k : Int) < (d.es.length : Int)) = true := decide_eq_true (by omega)
      obtain ⟨bk, off, cap', hvv, hcap, hbk, hc⟩ := (HR.out wr br).cells enC_len (by omega)
      injection hvv with e1 e2 e3
      subst e1 e3
      have hf := fromE_next d.es s k hkl
      have hln := fromE_len (d.es.take k) s
      rw [List.length_take] at hln
      obtain ⟨x, hx⟩ : ∃ x, x = d.es[k] := ⟨_, rfl⟩
      have z0 := hc k hkl 0 (.int .i64 x.slot) (by decide) (by rw [hx]; rfl)
      have z1 := hc k hkl 1 (.int .i64 x.ballot) (by decide) (by rw [hx]; rfl)
      have z2 := hc k hkl 2 (.int .i64 x.cmd.kind) (by decide) (by rw [hx]; rfl)
      have z3 := hc k hkl 3 (.int .i64 x.cmd.session) (by decide) (by rw [hx]; rfl)
      have z4 := hc k hkl 4 (.int .i64 x.cmd.seq) (by decide) (by rw [hx]; rfl)
      have z5 := hc k hkl 5 (.string x.cmd.name) (by decide) (by rw [hx]; rfl)
      have z6 := hc k hkl 6 (.int .i64 x.cmd.n) (by decide) (by rw [hx]; rfl)
      rw [Nat.add_zero] at z0
      rw [← hx] at hf
      have HO : Hid _ := ho
      have BR : Hid _ := br
      have sz := br.size
      clear hc hx ho br
      by_cases hs : s ≤ x.slot
      · rw [if_pos hs] at hf
        have HF : Hid _ := hf
        have t1 : decide (s ≤ x.slot) = true := decide_eq_true hs
        clear hf hs
        go_wp2_with (at_builtin; refine wpList_app_row (k := 7) (enc := enC) (l := [x]) rfl (.tmp 28) (.tmp 37) 22 36 rfl i0 _ 64 Try.underlying22 hi hz0 hz1 hz2 rfl (by decide) enC_len enC_one (base := w.heap.size) rfl rfl (World.ownsRow.alloc HO.out _) (RowAt.built (heap_alloc_new _ _) rfl 1 rfl rfl) (by simp; omega) (by simp; omega) (by simp; omega) ?_; intro u6 w6 o6 a6; obtain ⟨p6, n6, q6, rfl⟩ := own_form o6; have O6 : Hid _ := o6; have B6 : Hid (Below w.heap.size w w6) := (BR.out.alloc BR.out.size _).trans (a6.below); clear o6 a6)
        go_roundw
        case rel =>
          refine ⟨k + 1, hkl, by go_num, ?_, B6.out⟩
          rw [HF.out]
          show World.ownsRow _ _ _ _ _ _ _
          rw [rowL_append, List.length_append]
          exact O6.out
        case measure => simp [intOf]; omega
      · rw [if_neg hs, List.append_nil] at hf
        have t1 : decide (s ≤ x.slot) = false := decide_eq_false hs
        have HF : Hid _ := hf
        clear hf hs
        go_wp2
        go_roundw
        case rel => exact ⟨k + 1, hkl, by go_num, by rw [HF.out]; exact HO.out, BR.out⟩
        case measure => simp [intOf]; omega
    · have q0 : decide ((k : Int) < (d.es.length : Int)) = false := decide_eq_false (by omega)
      have ht : d.es.take k = d.es := List.take_of_length_le (by omega)
      rw [ht] at ho
      have HO : Hid _ := ho
      have BR : Hid _ := br
      clear ht ho br
      go_wp2
      go_ret
      exact ⟨_, rfl, HO.out, BR.out⟩
end
end Go.Proofs.Ytkngpfngfmbmjaa
