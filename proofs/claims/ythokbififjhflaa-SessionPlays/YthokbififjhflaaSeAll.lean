/-
  Package session: All, as plain data. No condition.
-/
import Derived.Test.YthokbififjhflaaSeLife
import Derived.Test.YthokbififjhflaaGSortI
namespace Go.Proofs.Ythokbififjhflaa
open Go.RowKit

/-- While the ids are gathered. -/
structure AlI (w wr : World) (mo : Nat) (lo : List (Int × Nat)) (v : Value) (acc : List Int) (left : List (Int × Nat)) : Prop where
  rg : mSe.Ranging wr mo w.heap.size lo left
  row : wr.ownsRow w.heap.size 3 1 v acc.length (intL acc)
  pm : (acc ++ left.map (·.1)).Perm (lo.map (·.1))
  bel : Below w.heap.size w wr
theorem AlI.ne {w wr : World} {mo : Nat} {lo : List (Int × Nat)} {v : Value} {acc : List Int} {left : List (Int × Nat)} (I : AlI w wr mo lo v acc left) : v.ownBlock ≠ some w.heap.size := by
  intro e
  rcases I.row.2 with ⟨e1, _⟩ | ⟨g, cap, cur, e1, _, hb, _⟩
  · rw [e1] at e
    simp [Value.ownBlock] at e
  · rw [e1] at e
    simp only [Value.ownBlock, Option.some.injEq] at e
    subst e
    obtain ⟨es, clock, since, seen, c0, _, _, hr, _⟩ := I.rg.ex
    rw [hb] at hr
    simp at hr
structure AlP (w : World) (l : List SeX) (e : Ending) (w' : World) : Prop where
  ex : ∃ u, e = .returned u ∧ w'.ownsRow w.heap.size 3 1 u (seAll l).length (intL (seAll l)) ∧ Below w.heap.size w w'
set_option maxRecDepth 100000 in
set_option maxHeartbeats 4000000 in
theorem all_any {w : World} {base X : Nat} {S : Nat → Prop} {l : List SeX} (h : SeAt w base X S l) : Calls Try.prog 13 #[.pointer (some ⟨X, 0, none⟩)] w (AlP w l) := by
  obtain ⟨ma, mo, la, lo, ps, L, hM⟩ := h.ex
  have c1 : w.cell? ⟨X, 1, none⟩ = some (.map (some mo)) := hM.cell 1 _ rfl
  obtain ⟨w1, hrun1, hR, hg1, hs1⟩ := MapOf.range mSe_is hM.opn
  have hlo := hM.lenO
  have hfew := h.ok.few
  have HP : Hid ((lo.map (·.1)).Perm (seAll l) ∧ lo.length ≤ 256 ∧ mo < w.heap.size) := (show Hid _ from (⟨hM.permO, by omega, hM.opn.lt⟩ : _ ∧ _ ∧ _))
  have HI : AlI w w1 mo lo (.slice none 0 0) [] lo := ⟨hR, World.ownsRow_nil _ _ _ _, List.Perm.refl _, ⟨hg1.os, hg1.tape, hg1.output, hg1.size, fun k hk => hg1.block k hk (by simp)⟩⟩
  obtain ⟨i0, hi, hz0, hz1, hz2⟩ := info_parts infoI
  clear h hR hg1 hs1 hM hlo hfew
  go_enter Try.func13, Try.ntmps13
  go_wp2
  go_loopw [3] (fun v wr => ∃ acc left, AlI w wr mo lo v acc left) (fun _ wr => mSe.leftN mo w.heap.size wr)
  case atStart => exact ⟨[], lo, HI⟩
  case round =>
    obtain ⟨acc, left, I⟩ := hrel
    obtain ⟨pv, nv, cv, rfl⟩ := own_form I.row
    have hlen := I.pm.length_eq
    simp only [List.length_append, List.length_map] at hlen
    rcases MapOf.next I.rg 0 with ⟨rfl, hrun⟩ | ⟨n, c, A, B, w2, rfl, hrun, hrg, hg2, hs2, hen⟩
    · have hsort := sort_ints wr w.heap.size (.slice pv nv cv) acc I.row (by have := HP.out.2.1; simp at hlen; omega)
      have hpm := I.pm
      rw [List.map_nil, List.append_nil] at hpm
      have HS : Hid (acc.mergeSort leZ = seAll l) := sorted_rise (hpm.trans HP.out.1) (seAllN_rise _ _)
      have HB : Hid (Below w.heap.size w wr ∧ ∀ k, (Value.slice pv nv cv).ownBlock = some k → w.heap.size ≤ k) := (show Hid _ from (⟨I.bel, fun k hk => (I.row.lt k hk).1⟩ : _ ∧ _))
      have HL : Hid (acc.length = (seAll l).length) := (hpm.trans HP.out.1).length_eq
      clear I hpm hlen
      go_wp2_with (go_at_call 30; refine hsort.mono ?_; rintro e w9 ⟨rfl, h1, h2⟩; have HF : Hid _ := h1; have HG : Hid (Below w.heap.size w w9) := HB.out.1.grown h2 HB.out.1.size HB.out.2; clear h1 h2)
      go_ret
      have hf := HF.out
      rw [HS.out, HL.out] at hf
      exact ⟨_, rfl, hf, HG.out⟩
    · have hrow2 : w2.ownsRow w.heap.size 3 1 (.slice pv nv cv) acc.length (intL acc) := own_keep I.row (fun g e => hg2.block g ((I.row.lt g e).2) (fun e2 => I.ne (e.trans e2)))
      have hacc : acc.length ≤ 100000 := by have := HP.out.2.1; omega
      have hms : mSe.leftN mo w.heap.size wr = (A ++ (n, c) :: B).length := MapOf.leftN_eq I.rg
      have HI2 : Hid (AlI w wr mo lo (.slice pv nv cv) acc (A ++ (n, c) :: B)) := I
      have hbase : w.heap.size ≤ w2.heap.size := Nat.le_trans I.bel.size hg2.size
      have HG2 : Hid (wr.grownBy w2 (some w.heap.size)) := hg2
      have HRG : Hid (mSe.Ranging w2 mo w.heap.size lo (A ++ B)) := hrg
      change _ = Result.ok (Value.tuple #[_, .int .i64 n, sePtr c]) w2 at hrun
      change _ = Result.ok (Value.tuple #[.int .i64 n, sePtr c]) w2 at hen
      have HS2 : Hid (w2.heap.size = wr.heap.size) := hs2
      clear I hg2 hrg hlen hs2
      go_wp2_with (at_builtin; refine wpList_append_own _ rfl (.tmp 16) (.tmp 18) 41 rfl w.heap.size 3 i0 _ 1 8 Try.underlying41 hi hz0 hz1 hz2 rfl (by decide) (.slice pv nv cv) acc.length (intL acc) rfl (hrow2.alloc _) ⟨w2.heap.size, 0, none⟩ 1 1 [.int .i64 n] rfl rfl (World.news_of_block (cs := #[.int .i64 n]) (t := 3) (fr := (0, 0)) (heap_alloc_new w2 _)) (by simp [Value.oneCell']) (by unfold maxLen; omega) (by omega) (by simp; omega) ?_; intro v4 w4 hrow4 hg4 _)
      have I := HI2.out
      have hlt := HRG.out.lt
      have hmo := HP.out.2.2
      have hsz := HG2.out.size
      have b2 : Below w.heap.size w w2 := I.bel.grown HG2.out I.bel.size (fun k hk => by cases hk; exact Nat.le_refl _)
      have k4 : ∀ g, g < w2.heap.size → (Value.slice pv nv cv).ownBlock ≠ some g → w4.heap[g]? = w2.heap[g]? := fun g hg hn => (hg4.block g (by simp; omega) (fun e => hn e.symm)).trans (heap_alloc_old w2 _ hg)
      have hmol : mo < w2.heap.size := by have := b2.size; omega
      have I3 : AlI w w4 mo lo v4 (acc ++ [n]) (A ++ B) := by
        refine ⟨HRG.out.keep (k4 mo hmol fun e => ?_) (k4 _ hlt fun e => I.ne e), ?_, ?_, ?_⟩
        · have := (I.row.lt mo e).1
          omega
        · have e : intL (acc ++ [n]) = intL acc ++ [.int .i64 n] := by unfold intL; rw [List.map_append]; rfl
          rw [List.length_append, List.length_singleton, e]
          exact hrow4
        · refine List.Perm.trans ?_ I.pm
          rw [List.map_append, List.map_append, List.map_cons, List.append_assoc]
          exact List.Perm.append_left acc (show (n :: (A.map (·.1) ++ B.map (·.1))).Perm (A.map (·.1) ++ n :: B.map (·.1)) from List.perm_middle.symm)
        · exact (b2.alloc b2.size _).grown hg4 (by simp; have := b2.size; omega) (fun k hk => (I.row.lt k hk).1)
      refine ⟨⟨_, _, I3⟩, ?_⟩
      rw [MapOf.leftN_eq I3.rg, hms]
      simp
end Go.Proofs.Ythokbififjhflaa
