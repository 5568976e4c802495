/-
  Package learner: a new one, what is applied, what is known, as plain data. No condition but a text's size.
-/
import Derived.Test.YtnoappklbipdhaaLrpLeSince
import Derived.Lib.MinMax
import Derived.Deep.Cut
namespace Go.Proofs.Ytnoappklbipdhaa
open Go.RowKit

abbrev cmdA (c : Cm) : Array Value := #[.int .i64 c.kind, .int .i64 c.session, .int .i64 c.seq, .string c.name, .int .i64 c.n]
theorem sizeCx : (Try.prog.info? 28).map (·.size) = some 5 := by kernel_rfl
theorem results_cmd {fn : Func} {p q : Tmp} {ty : TypeId} (h : fn.results = #[.cell p ty, .tmp q]) (tmps : Array Value) (w : World) (g : Nat) (cs : Array Value)
    (hp : tmps.getD p undef = .pointer (some ⟨g, 0, none⟩)) (hl : (loadVar ty ⟨g, 0, none⟩).run Try.prog w = .ok (.agg cs) w) :
    (results fn tmps).run Try.prog w = .ok (.tuple #[.agg cs, tmps.getD q undef]) w := by
  have hp' : tmps[p]?.getD undef = .pointer (some ⟨g, 0, none⟩) := by simpa using hp
  simp [results, h, hp', asAddr, hl]
theorem load_cmd {w : World} {g : Nat} {c : Cm} (hg : w.heap[g]? = some (.cells (cmdA c) 28 (0, 0))) : (loadVar 28 ⟨g, 0, none⟩).run Try.prog w = .ok (.agg (cmdA c)) w :=
  run_loadVar_row w g 28 28 _ (0, 0) _ hg Try.underlying28 rfl sizeCx
set_option maxRecDepth 100000 in
theorem applied_any {w : World} {base X : Nat} {S : Nat → Prop} {p : Ln} {n : Nat} (h : LnAt w base X S p n) : Calls Try.prog 20 #[.pointer (some ⟨X, 0, none⟩)] w fun e w' => e = .returned (.int .i64 p.ap) ∧ w' = w := by
  obtain ⟨F, l, hs, mb, v, hA, _⟩ := h.ex
  have c0 : w.cell? ⟨X, 0, none⟩ = some (.int .i64 p.ap) := hA.cell 0 _ rfl
  clear hA h
  go_enter Try.func20, Try.ntmps20
  go_wp2
  go_ret
  exact ⟨rfl, rfl⟩
structure NewL (w : World) (m : Int) (e : Ending) (w' : World) : Prop where
  ex : ∃ X S, e = .returned (.pointer (some ⟨X, 0, none⟩)) ∧ LnAt w' w.heap.size X S ⟨m, []⟩ 0 ∧ Below w.heap.size w w'
set_option maxRecDepth 100000 in
set_option maxHeartbeats 2000000 in
theorem new_learner (w : World) (b : Int) (hb : b ≤ MXi) : Calls Try.prog 7 #[.int .i64 b] w (NewL w (max b 0)) := by
  have hmk := @run_makeMap Try.prog
  obtain ⟨m, hm⟩ : ∃ m, m = max b 0 := ⟨_, rfl⟩
  have HM : Hid (max b 0 = m) := hm.symm
  have hq : 0 ≤ m ∧ m ≤ MXi := by unfold MXi at *; omega
  rw [← hm]
  clear hm
  go_enter Try.func7, Try.ntmps7
  go_wp2
  go_ret
  rw [HM.out]
  have b1 : Below w.heap.size w ((w.alloc (.map #[] 0)).alloc (.cells (lrA m m w.heap.size (.slice none 0 0)) 53)) := ((Below.refl _ w).alloc (Nat.le_refl _) _).alloc (by simp) _
  have h2 := two_blocks w (.map #[] 0) (.cells (lrA m m w.heap.size (.slice none 0 0)) 53)
  have hX : ((w.alloc (.map #[] 0)).alloc (.cells (lrA m m w.heap.size (.slice none 0 0)) 53)).heap[w.heap.size + 1]? = some (.cells (lrA m m w.heap.size (.slice none 0 0)) 53 (0, 0)) := h2.2.trans (heap_alloc_new _ _)
  have hM : mKn.At ((w.alloc (.map #[] 0)).alloc (.cells (lrA m m w.heap.size (.slice none 0 0)) 53)) w.heap.size [] := (MapOf.new mKn w).keep h2.1
  refine ⟨w.heap.size + 1, fun g => g = w.heap.size + 1 ∨ (Value.slice none 0 0).ownBlock = some g ∨ g = w.heap.size, rfl, ⟨m, [], [], w.heap.size, .slice none 0 0, ⟨hX, hM, World.ownsRow_nil _ _ _ _, fun g hg => ?_, fun _ => Iff.rfl⟩, ⟨⟨hq, fun e he => (by cases he), fun e he => (by cases he), Nat.le_refl _⟩, fun s => rfl, ⟨hq.1, Int.le_refl _⟩, fun e he => (by cases he), fun k _ hk => (by cases hk), List.nodup_nil, fun s => ⟨fun h => (by cases h), fun h => (by simp [leF] at h)⟩, Nat.le_refl _⟩⟩, b1⟩
  rcases hg with h | h | h
  · omega
  · simp [Value.ownBlock] at h
  · omega
theorem fld_cmd (e : En) (w : World) : (Instr.field 30 (.agg (enA e)) 2).run Try.prog w = .ok (.agg (cmdA e.cmd)) w := by kernel_rfl
structure KnPost (w : World) (q : Cm × Bool) (e : Ending) (w' : World) : Prop where
  ex : e = .returned (.tuple #[.agg (cmdA q.1), .bool q.2]) ∧ Below w.heap.size w w'
set_option maxRecDepth 100000 in
set_option maxHeartbeats 2000000 in
theorem known_any {w : World} {base X : Nat} {S : Nat → Prop} {p : Ln} {n : Nat} (h : LnAt w base X S p n) {s : Int} (hs : inI s) : Calls Try.prog 17 #[.pointer (some ⟨X, 0, none⟩), .int .i64 s] w (KnPost w (knoL p s)) := by
  obtain ⟨F, l, hs', mb, v, hA, hR⟩ := h.ex
  obtain ⟨x, hx⟩ : ∃ x : En, x = (leF p.l s).getD En.zero := ⟨_, rfl⟩
  obtain ⟨ok, hok⟩ : ∃ ok : Bool, ok = (leF p.l s).isSome := ⟨_, rfl⟩
  have e1 : knoL p s = (x.cmd, ok) := by
    unfold knoL
    rw [hx, hok]
    cases leF p.l s with
    | none => rfl
    | some e => rfl
  rw [e1]
  have hnm : x.cmd.name.size ≤ 281474976710656 := by
    rw [hx]
    cases hf : leF p.l s with
    | none => show (En.zero.cmd.name.size) ≤ _; decide
    | some e => exact hR.ok.nm e (leF_some hf).1
  have hgot : mKn.got l s = .agg (enA x) ∧ (lookM l s).isSome = ok := by
    rw [hok, ← hR.lk]
    refine ⟨?_, rfl⟩
    rw [hx, ← hR.lk]
    unfold MapOf.got
    cases lookM l s with
    | none => rfl
    | some e => rfl
  obtain ⟨W, hW⟩ : ∃ W, W = w.alloc (.cells (cmdA Cm.zero) 28) := ⟨_, rfl⟩
  have bC : Below w.heap.size w W := by rw [hW]; exact (Below.refl _ w).alloc (Nat.le_refl _) _
  have c2 : W.cell? ⟨X, 2, none⟩ = some (.map (some mb)) := (hA.fresh bC).cell 2 _ rfl
  have hlk : (Instr.lookup 50 (.map (some mb)) (.int .i64 s) true).run Try.prog W = .ok (.tuple #[.agg (enA x), .bool ok]) W := by
    have := MapOf.look2 mKn_is (hA.fresh bC).map hs
    rw [hgot.1, hgot.2] at this
    exact this
  have hfl := fld_cmd x
  have hC0 : W.heap[w.heap.size]? = some (.cells (cmdA Cm.zero) 28 (0, 0)) := by rw [hW]; exact heap_alloc_new w _
  have HCl : Hid (∀ y, Below W.heap.size W y → Below w.heap.size w y ∧ y.heap[w.heap.size]? = some (.cells (cmdA Cm.zero) 28 (0, 0))) := fun y b => ⟨bmm bC bC.size b, (b.block _ (lt_of_block hC0)).trans hC0⟩
  have HNm : Hid _ := hnm
  have HW : Hid (w.alloc (.cells #[.int .i64 0, .int .i64 0, .int .i64 0, .string ⟨#[]⟩, .int .i64 0] 28) = W) := hW.symm
  clear h hA hR hx hok e1 hgot bC hC0 hnm hW
  go_enter Try.func17, Try.ntmps17
  go_upto_region 1 with fail
  rw [HW.out]
  go_wp2_with (first
    | (show wpList _ _ _ (⟨_, Op.store 28 _ _, _, _, _, _⟩ :: _) _ _; refine store_row_g rfl 28 _ _ rfl w.heap.size (cmdA x.cmd) rfl rfl 28 _ R3.out.2 sizeCx rfl (by simp [Value.oneCell']) ?_; intro w4 h4 g4)
    | (go_at_call 22; refine (lclone_any _ x HNm.out).mono ?_; rintro r w3 ⟨rfl, b3⟩; have R3 : Hid _ := HCl.out w3 (bmm ((Below.refl _ _).alloc (Nat.le_refl _) _) (by simp) b3); clear b3))
  refine bodyPost_ret (results_cmd Try.results17 _ _ w.heap.size _ rfl (load_cmd h4)) rfl ?_
  exact ⟨rfl, R3.out.1.grown g4 R3.out.1.size (fun k hk => by have := Option.some.inj hk; omega)⟩
end Go.Proofs.Ytnoappklbipdhaa
