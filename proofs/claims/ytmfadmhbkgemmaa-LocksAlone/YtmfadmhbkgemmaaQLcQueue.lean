/-
  Package locks: Queue, as plain data. The condition: names at most 1000 bytes.
-/
import Derived.Test.YtmfadmhbkgemmaaQLcHolders
import Derived.Test.YtmfadmhbkgemmaaQLcWait
import Derived.Test.YtmfadmhbkgemmaaQGRowIn
import Derived.Test.YtmfadmhbkgemmaaQPackC
namespace Go.Proofs.Ytmfadmhbkgemmaa
open Go.RowKit Go.Shelf

attribute [local go_sem] Oper.semAt_some

theorem queL_look (l : List Lk) (nm : ByteArray) : queL l nm = match lookK l nm with | none => [] | some y => y.q.map wtOf := by
  rw [← lkIx_look]
  unfold queL
  cases lkIx l nm <;> rfl
abbrev wtT : TypeId := 100
/-- While they are gathered: the row's box at g. -/
structure QgI (w : World) (g : Nat) (pre : List Wq) (W : World) (SI : Nat → Prop) (u : Value) : Prop where
  box : W.heap[g]? = some (.cells #[u] 44 (0, 0))
  row : W.ownsRow (g + 1) wtT 3 u pre.length (rowL waitC (pre.map wtOf))
  set : ∀ b, SI b ↔ b = g ∨ u.ownBlock = some b
section
variable {w W W' : World} {g : Nat} {pre : List Wq} {SI : Nat → Prop} {u u' : Value} {x : Wq}
theorem QgI.stays : Stays (fun pre W SI => ∃ u, QgI w g pre W SI u) :=
  ⟨fun _ _ _ ⟨u, h⟩ b hb => by
    rcases (h.set b).1 hb with rfl | e
    · exact lt_of_block h.box
    · exact (h.row.lt b e).2, fun _ _ _ _ ⟨u, h⟩ _ he => ⟨u, (he g ((h.set g).2 (Or.inl rfl))).trans h.box, own_keep h.row fun b e => he b ((h.set b).2 (Or.inr e)), h.set⟩⟩
/-- One more. -/
theorem QgI.more (h : QgI w g pre W SI u) {W2 W3 : World} (b2 : Below W.heap.size W W2) (o : W3.ownsRow (g + 1) wtT 3 u' (pre.length + 1) (rowL waitC (pre.map wtOf) ++ rowL waitC [wtOf x])) (a : Appended (g + 1) W2 W3 u u') :
    ∃ S', Kept W (W3.setCell ⟨g, 0, none⟩ u') SI S' ∧ ∃ v, QgI w g (pre ++ [x]) (W3.setCell ⟨g, 0, none⟩ u') S' v := by
  have hg := lt_of_block h.box
  have hub : ∀ b, u.ownBlock = some b → g + 1 ≤ b ∧ b < W.heap.size := fun b e => h.row.lt b e
  have hsz := b2.size
  have hk : ∀ b, b < W.heap.size → u.ownBlock ≠ some b → W3.heap[b]? = W.heap[b]? := fun b h1 h2 => (a.rest b (by omega) (fun e => h2 e.symm)).trans (b2.block b h1)
  have hgk : W3.heap[g]? = some (.cells #[u] 44 (0, 0)) := (hk g hg (fun e => by have := (hub g e).1; omega)).trans h.box
  have hob : ∀ b, b ≠ g → (W3.setCell ⟨g, 0, none⟩ u').heap[b]? = W3.heap[b]? := fun b hb => heap_setCell_other _ _ _ _ hb
  refine ⟨fun b => b = g ∨ u'.ownBlock = some b, ⟨a.below.os.trans b2.os, a.below.tape.trans b2.tape, a.below.output.trans b2.output, by simp; have := a.below.size; omega, fun b hb => ?_, fun b hb hn => ?_⟩, u', ⟨by rw [heap_setCell_same _ g 0 _ _ _ hgk]; rfl, ?_, fun _ => Iff.rfl⟩⟩
  · rcases hb with rfl | hb
    · exact Or.inl ((h.set _).2 (Or.inl rfl))
    · rcases a.lies with e | e
      · exact Or.inl ((h.set b).2 (Or.inr (e.symm.trans hb)))
      · rw [e] at hb
        have : W2.heap.size = b := Option.some.inj hb
        exact Or.inr (by omega)
  · rw [hob b (fun e => hn ((h.set b).2 (Or.inl e)))]
    exact hk b hb (fun e => hn ((h.set b).2 (Or.inr e)))
  · have e : rowL waitC ((pre ++ [x]).map wtOf) = rowL waitC (pre.map wtOf) ++ rowL waitC [wtOf x] := by rw [List.map_append, rowL_append]; rfl
    rw [e, List.length_append, List.length_singleton]
    exact own_keep o fun b eb => hob b (fun e2 => by
      have := (o.lt b eb).1
      omega)
end
set_option maxRecDepth 100000 in
set_option maxHeartbeats 8000000 in
theorem pqueue_some {w : World} {base D M X : Nat} {K : ByteArray → Option Lk} {T : List (ByteArray × Nat)} {own : ByteArray → Nat → Prop} {c : Int} {nm : ByteArray} {y : Lk} (I : LcL w base D M c K T own) (hX : lookM T nm = some X) (hk : K nm = some y) (hA : LcAt w X (own nm) y.h y.wr y.q) (hl : y.q.length ≤ 65536) (hm : nm.size ≤ 1000) :
    Calls Try.prog 17 #[.pointer (some ⟨D, 0, none⟩), .string nm] w (QueP w (y.q.map wtOf)) := by
  have c0 := I.cellM
  have hlk := I.look2 (nm := nm) (by unfold maxLen; omega)
  rw [hk, hX] at hlk
  change _ = Result.ok (Value.tuple #[.pointer (some ⟨X, 0, none⟩), .bool true]) w at hlk
  obtain ⟨W0, hW0⟩ : ∃ W0, W0 = w.alloc (.cells #[.slice none 0 0] 44) := ⟨_, rfl⟩
  have b0 : Below w.heap.size w W0 := by rw [hW0]; exact (Below.refl _ w).alloc (Nat.le_refl _) _
  have n0 : W0.heap[w.heap.size]? = some (.cells #[.slice none 0 0] 44 (0, 0)) := by rw [hW0]; exact heap_alloc_new w _
  have HW : Hid (w.alloc (.cells #[.slice none 0 0] 44) = W0) := hW0.symm
  have HA : Hid (LcAt W0 X (own nm) y.h y.wr y.q ∧ Below w.heap.size w W0 ∧ W0.heap[w.heap.size]? = some (.cells #[.slice none 0 0] 44 (0, 0)) ∧ y.q.length ≤ 65536 ∧ ∀ g, own nm g → g < w.heap.size) := (show Hid _ from (⟨hA.fresh b0, b0, n0, hl, hA.bd⟩ : _ ∧ _ ∧ _ ∧ _ ∧ _))
  clear hW0 b0 n0 hA I hX hk hl hm
  refine (callsIn_wide (n := 3)).1 ?_
  refine callsIn_of_wp_marks Try.func17 rfl trivial ?_ rfl
  simp only [Try.ntmps17, List.size_toArray, List.length_cons, List.length_nil, Nat.reduceAdd, Nat.reduceSub, Array.replicate_succ, Array.replicate_zero, List.push_toArray, List.append_toArray, List.nil_append, List.cons_append]
  gi_wp2
  rw [HW.out]
  obtain ⟨i0, hi, hz0, hz1, hz2⟩ := info_parts infoWt
  refine wpIn_iterB (enc := fun z : Wq => .agg (lcWA z)) (gf := 45) (ba := #[bPtr X]) rfl (enters_of Try.func45 (by kernel_rfl) rfl)
    (waiting_iters HA.out.1) rfl (fun pre W SI => ∃ u, QgI w w.heap.size pre W SI u) QgI.stays (S0 := fun b => b = w.heap.size ∨ (Value.slice none 0 0).ownBlock = some b) ⟨.slice none 0 0, ?_⟩ ?_ (fun z => .cells (lcWA z) lcWT)
    (fun z B => { tmps := #[.pointer (some ⟨D, 0, none⟩), .string nm, undef, undef, .slice none 0 0, .pointer (some ⟨X, 0, none⟩), .bool true, .pointer (some ⟨w.heap.size, 0, none⟩), .pointer (some ⟨B, 0, none⟩), .pointer (some ⟨D, 0, none⟩), .bool false, .tuple #[.pointer (some ⟨X, 0, none⟩), .bool true], .pointer (some ⟨D, 0, none⟩), .pointer (some ⟨D, 0, none⟩), .pointer (some ⟨D, 0, none⟩), .map (some M), .string nm, .tuple #[.pointer (some ⟨X, 0, none⟩), .bool true], .pointer (some ⟨X, 0, none⟩), .bool true, .bool true, .bool false, .pointer (some ⟨X, 0, none⟩), .func (.func 45) #[.pointer (some ⟨X, 0, none⟩)] #[], .agg (lcWA z), undef, undef, undef, undef, undef, undef, undef, undef, undef], defers := [] }) ?assign ?body ?done
  · exact ⟨HA.out.2.2.1, World.ownsRow_nil _ _ _ _, fun b => Iff.rfl⟩
  · intro b hb
    have h1 := HA.out.2.2.2.2 b hb
    have h2 := lt_of_block HA.out.2.2.1
    refine ⟨by omega, fun e => ?_⟩
    rcases e with e | e
    · omega
    · cases e
  case assign =>
    intro l' m z W' K hK
    gi_wp2
    exact hK _ ((Below.refl _ W').alloc (Nat.le_refl _) _) (heap_alloc_new W' _)
  case body =>
    rintro l' m B pre z suf W SI hxx hl' ⟨u, hI⟩ hnl hBl hnB hbx hTW
    obtain ⟨pu, nu, cu, rfl⟩ := own_form hI.row
    have z7 : W.cell? ⟨w.heap.size, 0, none⟩ = some (.slice pu nu cu) := by simp [World.cell?, hI.box]
    have z0 : W.cell? ⟨B, 0, none⟩ = some (.int .i64 z.s) := by simp [World.cell?, hbx]
    have z2 : W.cell? ⟨B, 2, none⟩ = some (.bool z.rd) := by simp [World.cell?, hbx]
    have HI : Hid _ := hI
    have hpl : pre.length < y.q.length := by
      rw [hxx, List.length_append, List.length_cons]
      omega
    have HP : Hid (pre.length < y.q.length) := hpl
    obtain ⟨W2, hW2⟩ : ∃ W2, W2 = W.alloc (.cells #[.int .i64 z.s, .bool z.rd, .bool true] wtT) := ⟨_, rfl⟩
    have b2 : Below W.heap.size W W2 := by rw [hW2]; exact (Below.refl _ W).alloc (Nat.le_refl _) _
    have B2 : Hid (Below W.heap.size W W2) := b2
    have O2 : Hid (W2.ownsRow (w.heap.size + 1) wtT 3 (.slice pu nu cu) pre.length (rowL waitC (pre.map wtOf))) := own_keep hI.row fun g e => b2.block g (hI.row.lt g e).2
    have R2 : Hid (RowAt waitC W2 (.slice (some ⟨W.heap.size, 0, none⟩) 1 1) [wtOf z]) := (show RowAt waitC W2 _ [wtOf z] from by rw [hW2]; exact RowAt.built (heap_alloc_new W _) rfl 1 rfl rfl)
    have HZ : Hid (w.heap.size + 1 ≤ W2.heap.size) := (show _ ≤ _ from by have := lt_of_block hI.box; have := b2.size; omega)
    have HW2 : Hid (W.alloc (.cells #[.int .i64 z.s, .bool z.rd, .bool true] wtT) = W2) := hW2.symm
    have HBX : Hid (W2.heap[w.heap.size]? = some (.cells #[.slice pu nu cu] 44 (0, 0))) := (b2.block _ (lt_of_block hI.box)).trans hI.box
    clear hI hxx hl' hnl hBl hnB hbx hTW hpl hW2 b2
    gi_wp2_with (rw [HW2.out]; refine wpListIn_app_row (k := 3) (enc := waitC) (l := [wtOf z]) rfl (.tmp 25) (.tmp 31) 44 wtT rfl i0 _ 16 Try.underlying44 hi hz0 hz1 hz2 rfl (by decide) waitC_len waitC_one (base := w.heap.size + 1) rfl rfl O2.out R2.out (by simp) HZ.out (by have := HP.out; have := HA.out.2.2.2.1; simp; omega) (by have := HP.out; have := HA.out.2.2.2.1; simp; omega) ?_; intro u3 W3 o3 a3; obtain ⟨p3, n3, c3, rfl⟩ := own_form o3; have nb := (a3.rest w.heap.size (lt_of_block HBX.out) (fun e => by have := (O2.out.lt w.heap.size e.symm).1; omega)).trans HBX.out; have z9 : W3.cell? ⟨w.heap.size, 0, none⟩ = some (.slice pu nu cu) := (by simp [World.cell?, nb]); have f9 : W3.frozen? ⟨w.heap.size, 0, none⟩ = false := (by simp [World.frozen?, nb]); have F3 : Hid _ := HI.out.more B2.out o3 a3; clear o3 a3 nb)
    obtain ⟨S', k, v, q⟩ := F3.out
    exact ⟨S', k, v, q⟩
  case done =>
    rintro Dm W5 S5 hD hnD ⟨u, hI⟩ k5 hdf
    obtain ⟨pu, nu, cu, rfl⟩ := own_form hI.row
    have cl : W5.cell? ⟨w.heap.size, 0, none⟩ = some (.slice pu nu cu) := by simp [World.cell?, hI.box]
    have HI : Hid _ := hI
    have HK5 : Hid _ := k5
    have HD : Hid (W0.heap.size ≤ Dm ∧ ¬ S5 Dm) := (show Hid _ from (⟨hD, hnD⟩ : _ ∧ _))
    clear hI k5 hD hnD
    gi_wp2
    refine ⟨by simp, .inl ⟨_, _, rfl, run_takeDeferred hdf, ?_⟩⟩
    have hDl : ∀ g, g ≠ Dm → (W5.putObj Dm (.deferred none)).heap[g]? = W5.heap[g]? := fun g hg => World.putObj_heap_other hg
    have hz := lt_of_block HA.out.2.2.1
    have hne : ∀ g, (Value.slice pu nu cu).ownBlock = some g → g ≠ Dm := fun g e e2 => HD.out.2 (e2 ▸ (HI.out.set g).2 (Or.inr e))
    refine ⟨_, results_tmp rfl _ _ _, _, rfl, ?_, ?_⟩
    · have := own_keep HI.out.row fun g e => hDl g (hne g e)
      exact RowAt.own (k := 3) waitC_len (by rw [List.length_map]; exact this)
    · have k := HK5.out
      have hb0 := HA.out.2.1
      refine ⟨k.os.trans hb0.os, k.tape.trans hb0.tape, k.output.trans hb0.output, by have := k.size; have := hb0.size; simp; omega, fun g hg => ?_⟩
      have h1 := HD.out.1
      rw [hDl g (by omega), k.kept g (by omega) (fun e => by
        rcases e with e | e
        · omega
        · cases e), hb0.block g hg]
set_option maxHeartbeats 2000000 in
theorem LcW.queue {w : World} {base D N : Nat} {S : Nat → Prop} {c : Int} {l : List Lk} (h : LcW w base D S N c l) (hN : N < 32767) {nm : ByteArray} (hm : nm.size ≤ 1000) :
    Calls Try.prog 17 #[.pointer (some ⟨D, 0, none⟩), .string nm] w (QueP w (queL l nm)) := by
  obtain ⟨M, T, own, I, rfl⟩ := h.ex
  rw [queL_look]
  cases hk : lookK l nm with
  | none =>
    have c0 := I.cellM
    have hlk := I.look2 (nm := nm) (by unfold maxLen; omega)
    rw [hk, (I.no nm hk).1] at hlk
    change _ = Result.ok (Value.tuple #[.pointer none, .bool false]) w at hlk
    clear h I hk
    go_enter Try.func17, Try.ntmps17
    go_wp2
    go_ret
    exact ⟨_, rfl, RowAt.nil _, Below.refl _ _⟩
  | some y =>
    obtain ⟨X, hX, hA⟩ := I.at' nm y hk
    exact pqueue_some I hX hk hA (by have := (h.fit.each y (lookK_name hk).2).sum; omega) hm
end Go.Proofs.Ytmfadmhbkgemmaa
