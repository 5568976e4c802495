/-
  NetOnce of layer 6, walked: packets that are taken in any order are those that were sent, each once. The condition: the two slices lie in memory as their reading says.
-/
import Derived.Test.YtpbkpaendhpbfaaNpStep
namespace Go.Proofs.Ytpbkpaendhpbfaa
open Go.RowKit

/-- A row of numbers, as a slice. -/
structure IntsAt (w : World) (v : Value) (l : List Int) : Prop where
  ex : ∃ (a : Option Addr) (cap : Nat), v = .slice a l.length cap ∧ (l.length = 0 ∨ ∃ bk off, a = some ⟨bk, off, none⟩ ∧ bk < w.heap.size ∧ ∀ j (hj : j < l.length), w.cell? ⟨bk, off + j, none⟩ = some (.int .i64 l[j]))
/-- The net and what is left to take. -/
structure Lf (w : World) (B : Nat) (S : Nat → Prop) (u : Value) (M : List ByteArray) : Prop where
  n : NtAt PT w B B S M
  r : w.ownsRow B 9 1 u M.length (strL M)
  d : ∀ g, u.ownBlock = some g → ¬ S g
section
variable {w w' : World} {B : Nat} {S S' : Nat → Prop} {u : Value} {M : List ByteArray}
/-- The row of what is left, where the net has turned. -/
theorem Lf.row (h : Lf w B S u M) (k : Kept w w' S S') : w'.ownsRow B 9 1 u M.length (strL M) := nkeep h.r (fun g e => k.kept g (h.r.lt g e).2 (h.d g e))
theorem Lf.apart (h : Lf w B S u M) (k : Kept w w' S S') : ∀ g, u.ownBlock = some g → ¬ S' g := fun g e hs => by
  rcases k.old g hs with h1 | h1
  · exact h.d g e h1
  · have := (h.r.lt g e).2
    omega
theorem Lf.form (h : Lf w B S u M) : ∃ p c, u = .slice p M.length c ∧ (M.length = 0 ∨ ∃ g, p = some ⟨g, 0, none⟩ ∧ M.length ≤ c ∧ g < w.heap.size) := by
  rcases h.r.2 with ⟨rfl, h0⟩ | ⟨g, cap, cur, rfl, _, hb, h1, _⟩
  · exact ⟨none, 0, by rw [h0], Or.inl h0⟩
  · exact ⟨_, _, rfl, Or.inr ⟨g, rfl, h1, lt_of_block hb⟩⟩
/-- Refused. -/
theorem Lf.same {L : List ByteArray} (h : Lf w B S u M) (hn : NtAt PT w' B B S' L) (hL : L = M) (k : Kept w w' S S') : Lf w' B S' u M := ⟨by rw [← hL]; exact hn, h.row k, h.apart k⟩
/-- One more in both. -/
theorem Lf.more {w3 w4 : World} {L : List ByteArray} {s : ByteArray} {g c H : Nat} (h : Lf w B S u M) (hn : NtAt PT w' B B S' L) (hL : L = M ++ [s]) (k : Kept w w' S S') (b3 : Below w'.heap.size w' w3) (hg : w3.grownBy w4 u.ownBlock) (hat : u.ownBlock = some g ∨ g = H) (hH : w'.heap.size ≤ H) (hr : w4.ownsRow B 9 1 (.slice (some ⟨g, 0, none⟩) (M.length + 1) c) (M.length + 1) (strL M ++ [.string s])) :
    Lf w4 B S' (.slice (some ⟨g, 0, none⟩) (M.length + 1) c) (M ++ [s]) := by
  have ha := h.apart k
  rw [hL] at hn
  refine ⟨hn.keep (Nat.le_trans b3.size hg.size) (fun b hb => ?_), ?_, fun g2 e => ?_⟩
  · have hbl := (hn.bd b hb).2
    rw [hg.block b (Nat.lt_of_lt_of_le hbl b3.size) (fun e => ha b e.symm hb), b3.block b hbl]
  · rw [strL_snoc, List.length_append]
    exact hr
  · simp only [Value.ownBlock, Option.some.injEq] at e
    subst e
    rcases hat with h1 | h1
    · exact ha _ h1
    · intro hs
      have := (hn.bd _ hs).2
      omega
/-- One less in both. -/
theorem Lf.less {w4 : World} {n : Nat} {v : Value} (hn : NtAt PT w' B B S' (M.eraseIdx n)) (b : Below w'.heap.size w' w4) (hr : w4.ownsRow w'.heap.size 9 1 v (M.eraseIdx n).length (strL (M.eraseIdx n))) (hB : B ≤ w'.heap.size) : Lf w4 B S' v (M.eraseIdx n) :=
  ⟨hn.fresh b, nmono hr hB, fun g e hs => by have := (hr.lt g e).1; have := (hn.bd g hs).2; omega⟩
end
theorem own_len {w : World} {base size n n' c : Nat} {e : TypeId} {p : Option Addr} {xs : List Value} (h : w.ownsRow base e size (.slice p n' c) n xs) : n' = n := by
  rcases h.2 with ⟨e1, h0⟩ | ⟨g, cap, cur, e1, _⟩
  · simp only [Value.slice.injEq] at e1
    omega
  · simp only [Value.slice.injEq] at e1
    exact e1.2.1
def lenV : Value → Nat
  | .slice _ n _ => n
  | _ => 0
/-- The place that a number names. -/
theorem place (z : Int) (q : Nat) (hq : 0 < q) : ∃ n : Nat, n < q ∧ (z.tmod (q : Int) + (q : Int)).tmod (q : Int) = (n : Int) ∧ -(q : Int) < z.tmod (q : Int) ∧ z.tmod (q : Int) < (q : Int) := by
  have h1 := Int.tmod_lt_of_pos z (show (0 : Int) < (q : Int) by omega)
  have h2 : -(q : Int) < z.tmod (q : Int) := by
    have h3 := Int.tmod_lt_of_pos (-z) (show (0 : Int) < (q : Int) by omega)
    rw [Int.neg_tmod] at h3
    omega
  have h4 := Int.tmod_nonneg (q : Int) (show (0 : Int) ≤ z.tmod (q : Int) + (q : Int) by omega)
  have h5 := Int.tmod_lt_of_pos (z.tmod (q : Int) + (q : Int)) (show (0 : Int) < (q : Int) by omega)
  exact ⟨((z.tmod (q : Int) + (q : Int)).tmod (q : Int)).toNat, by omega, by omega, h2, h1⟩
theorem run_rem (w : World) (x q : Int) (hq : 0 < q) : (binOp .rem 3 (.int .i64 x) (.int .i64 q)).run Try.prog w = .ok (.int .i64 (x.tmod q)) w := by
  have hne : ¬ q = 0 := by omega
  simp [binOp, go_sem, hne]
set_option maxHeartbeats 6400000 in
set_option maxRecDepth 100000 in
theorem once_walk (v0 v1 : Value) (ss : List ByteArray) (zs : List Int) (w : World) (h0 : StrAt w v0 ss) (h1 : IntsAt w v1 zs) :
    Calls Try.prog 5 #[v0, v1] w fun e w' => e = .returned (.bool true) ∧ Below w.heap.size w w' := by
  obtain ⟨i0, hi, hz0, hz1, hz2⟩ := info_parts infoS
  obtain ⟨a0, c0, rfl, ha0⟩ := h0.ex
  obtain ⟨a1, c1, rfl, ha1⟩ := h1.ex
  have H0 : Hid _ := ha0
  have H1 : Hid _ := ha1
  have hn := new_N w
  clear h0 h1 ha0 ha1
  obtain ⟨B, hB⟩ : ∃ B, B = w.heap.size := ⟨_, rfl⟩
  have HB : Hid (B = w.heap.size) := hB
  rw [← hB] at hn ⊢
  clear hB
  go_enter Try.func5, Try.ntmps5
  go_wp2_with (go_at_call 12; refine hn.mono ?_; rintro e w1 ⟨rfl, S1, k1, b1⟩)
  have HK1 : Hid (Lf w1 B S1 (.slice none 0 0) []) := ⟨k1, World.ownsRow_nil _ _ _ _, fun g e => by simp [Value.ownBlock] at e⟩
  clear k1
  go_loopw [6, 7] (fun u i wr => ∃ (k : Nat) (M : List ByteArray) (S : Nat → Prop), k ≤ ss.length ∧ k ≤ 100 ∧ i = .int .i64 k ∧ M.length ≤ k ∧ Lf wr B S u M ∧ Below B w wr) (fun _ i _ => ss.length - (intOf i).toNat)
  case atStart => exact ⟨0, [], S1, Nat.zero_le _, Nat.zero_le _, rfl, Nat.le_refl _, HK1.out, b1⟩
  case round =>
    obtain ⟨k, M, S, hk, hk2, rfl, hM, hL, bel⟩ := hrel
    clear HK1 b1 S1
    have hBw : B ≤ wr.heap.size := by have := hL.n.bd B hL.n.sD; omega
    by_cases hkk : k < ss.length ∧ k < 100
    · obtain ⟨hkl, hkm⟩ := hkk
      rcases H0.out with h0 | ⟨bk, off, rfl, hbk, hcl⟩
      · omega
      have q0 : decide ((k : Int) < (ss.length : Int)) = true := by simp; omega
      have q1 : decide ((k : Int) < (100 : Int)) = true := by simp; omega
      have hbkB : bk < B := by rw [HB.out]; exact hbk
      have d0 := (bel.cell (p := ⟨bk, off + k, none⟩) (by exact hbkB)).trans (hcl k hkl)
      obtain ⟨s, hs⟩ : ∃ s, s = ss[k] := ⟨_, rfl⟩
      rw [← hs] at d0
      clear hs hcl
      have hsend := psend_any hL.n s
      have hnf : ¬ 4096 ≤ M.length := by omega
      obtain ⟨pu, cu, rfl, _⟩ := hL.form
      have HL : Hid (Lf wr B S (.slice pu M.length cu) M) := hL
      clear hL
      by_cases hsz : 524288 < s.size
      · have ez : sendZ M s = 15 := by unfold sendZ; rw [if_neg hnf, if_pos hsz]
        have el : sendL M s = M := by unfold sendL; rw [if_neg hnf, if_pos hsz]
        rw [ez, el] at hsend
        go_wp2_with (go_at_call 13; refine hsend.mono ?_; rintro e w2 ⟨rfl, S2, n2, k2⟩; have HN2 : Hid _ := n2; have bl2 : Below B wr w2 := k2.below HL.out.n; clear n2)
        go_roundw
        case rel => exact ⟨k + 1, M, S2, hkl, by omega, by go_num, by omega, HL.out.same HN2.out rfl k2, bel.trans bl2⟩
        case measure => simp [intOf]; omega
      · have ez : sendZ M s = 0 := by unfold sendZ; rw [if_neg hnf, if_neg hsz]
        have el : sendL M s = M ++ [s] := by unfold sendL; rw [if_neg hnf, if_neg hsz]
        rw [ez, el] at hsend
        go_wp2_with (first
          | (at_builtin; refine wpList_append_lies _ rfl (.tmp 32) (.tmp 37) 39 rfl B 9 i0 (.string ⟨#[]⟩) 1 16 Try.underlying39 hi hz0 hz1 hz2 rfl (by decide) (.slice pu M.length cu) M.length (strL M) rfl (r2.alloc _) ⟨w2.heap.size, 0, none⟩ 1 1 [.string s] rfl rfl (World.news_of_block (cs := #[.string s]) (t := 9) (fr := (0, 0)) (heap_alloc_new w2 _)) (by simp [Value.oneCell']) (by decide) (by unfold maxLen; omega) (by omega) (by simp; omega) (w2.heap.size + 1) (by simp) ?_; intro gg cp w4 hown4 hgrow hat hlt)
          | (go_at_call 13; refine hsend.mono ?_; rintro e w2 ⟨rfl, S2, n2, k2⟩; have HN2 : Hid _ := n2; have bl2 : Below B wr w2 := k2.below HL.out.n; have r2 := HL.out.row k2; have d2 := (bl2.cell (p := ⟨bk, off + k, none⟩) (by exact hbkB)).trans d0; have hb2 : B ≤ w2.heap.size := Nat.le_trans hBw bl2.size; clear n2))
        go_roundw
        case rel =>
          have hLf := HL.out.more HN2.out rfl k2 ((Below.refl _ w2).alloc (Nat.le_refl _) _) hgrow hat (by omega) hown4
          refine ⟨k + 1, M ++ [s], S2, hkl, by omega, by go_num, by simp; omega, hLf, (bel.trans bl2).trans ?_⟩
          exact ((Below.refl _ w2).alloc hb2 _).grown hgrow (by simp; omega) (fun g e => (r2.lt g e).1)
        case measure => simp [intOf]; omega
    · have q0 : k = ss.length ∨ (k < ss.length ∧ k = 100) := by omega
      have hM100 : M.length ≤ 100 := by omega
      clear hkk hk hk2 hM
      rcases q0 with rfl | ⟨q0, rfl⟩
      · go_wp2
        go_loopw [6, 8] (fun u i wr => ∃ (j : Nat) (M : List ByteArray) (S : Nat → Prop), i = .int .i64 j ∧ j + M.length ≤ 100 ∧ Lf wr B S u M ∧ Below B w wr) (fun u _ _ => lenV u)
        case atStart => exact ⟨0, M, S, rfl, by omega, hL, bel⟩
        case round =>
          clear hL bel hBw hM100
          obtain ⟨j, M, S, rfl, hjM, hL, belr⟩ := hrel
          have hBw : B ≤ wr.heap.size := by have := hL.n.bd B hL.n.sD; omega
          obtain ⟨p, c, rfl, hfm⟩ := hL.form
          by_cases hM0 : M.length = 0
          · have q2 : decide ((0 : Int) < (M.length : Int)) = false := decide_eq_false (by omega)
            have hlen := plen_any hL.n
            rw [hM0] at hlen ⊢
            clear hL hfm
            go_wp2_with (first
              | (go_at_call 24; refine (nawake_any _).mono ?_; rintro e w9 ⟨rfl, b9⟩)
              | (go_at_call 21; refine hlen.mono ?_; rintro e w3 ⟨rfl, rfl⟩))
            go_ret
            exact ⟨rfl, bmm belr hBw b9⟩
          · have q2 : decide ((0 : Int) < (M.length : Int)) = true := decide_eq_true (by omega)
            rcases hfm with h0 | ⟨g, rfl, hcap, hgl⟩
            · omega
            obtain ⟨q, hq⟩ : ∃ q, q = M.length := ⟨_, rfl⟩
            obtain ⟨n, hnq, hcase⟩ : ∃ n : Nat, n < M.length ∧ ((¬ j < zs.length ∧ n = 0) ∨ (j < zs.length ∧ ∃ (z : Int) (bk off : Nat), a1 = some ⟨bk, off, none⟩ ∧ bk < B ∧ wr.cell? ⟨bk, off + j, none⟩ = some (.int .i64 z) ∧ (z.tmod (M.length : Int) + (M.length : Int)).tmod (M.length : Int) = (n : Int) ∧ -(M.length : Int) < z.tmod (M.length : Int) ∧ z.tmod (M.length : Int) < (M.length : Int))) := by
              by_cases hj : j < zs.length
              · rcases H1.out with h0 | ⟨bk, off, e1, hbk, hc⟩
                · omega
                have hbB : bk < B := by rw [HB.out]; exact hbk
                obtain ⟨n, h1, h2, h3, h4⟩ := place zs[j] M.length (by omega)
                exact ⟨n, h1, Or.inr ⟨hj, zs[j], bk, off, e1, hbB, (belr.cell (p := ⟨bk, off + j, none⟩) (by exact hbB)).trans (hc j hj), h2, h3, h4⟩⟩
              · exact ⟨0, by omega, Or.inl ⟨hj, rfl⟩⟩
            have hn : n < M.length := hnq
            have htk := ptake_yes n hL.n hn
            obtain ⟨x, hx⟩ : ∃ x, x = M[n] := ⟨_, rfl⟩
            rw [← hx] at htk
            have HL : Hid (Lf wr B S (.slice (some ⟨g, 0, none⟩) M.length c) M) := hL
            have hr : wr.ownsRow B 9 1 (.slice (some ⟨g, 0, none⟩) M.length c) M.length (strL M) := hL.r
            have HR : Hid (wr.ownsRow B 9 1 (.slice (some ⟨g, 0, none⟩) M.length c) M.length (strL M)) := hL.r
            obtain ⟨X, hX⟩ : ∃ X, X = (strL M).take n := ⟨_, rfl⟩
            obtain ⟨Y, hY⟩ : ∃ Y, Y = (strL M).drop (n + 1) := ⟨_, rfl⟩
            have hX1 : X.length = n * 1 := by rw [hX, List.length_take, strL_length]; omega
            have hY1 : Y.length = (M.length - (n + 1)) * 1 := by rw [hY, List.length_drop, strL_length]; omega
            have HXc : Hid (∀ w2 : World, w2.ownsRow B 9 1 (.slice (some ⟨g, 0, none⟩) M.length c) M.length (strL M) → ∀ j u, X[j]? = some u → w2.cell? ((⟨g, 0, none⟩ : Addr).add j) = some u) := fun w2 h2 j u hj => by rw [hX] at hj; exact head_cells h2 j u hj
            have HYc : Hid (∀ w2 w3 : World, w2.ownsRow B 9 1 (.slice (some ⟨g, 0, none⟩) M.length c) M.length (strL M) → Below w2.heap.size w2 w3 → ∀ j u, Y[j]? = some u → w3.cell? ((tailAd g c n).add j) = some u) := fun w2 w3 h2 b j u hj => by rw [hY] at hj; exact tail_cells (nkeep h2 (fun g2 e => b.block g2 (h2.lt g2 e).2)) hn hcap j u hj
            have hXo : ∀ u ∈ X, u.oneCell' = true := by rw [hX]; exact one_take M n
            have hYo : ∀ u ∈ Y, u.oneCell' = true := by rw [hY]; exact one_drop M (n + 1)
            have HE : Hid (∀ (w2 w3 : World) (v : Value), w3.ownsRow w2.heap.size 9 1 v (0 + n + (M.length - (n + 1))) ([] ++ X ++ Y) → w3.ownsRow w2.heap.size 9 1 v (M.eraseIdx n).length (strL (M.eraseIdx n))) := fun w2 w3 v h3 => by
              rw [strL_erase, ← hX, ← hY, List.length_eraseIdx_of_lt hn]
              have e : 0 + n + (M.length - (n + 1)) = M.length - 1 := by omega
              rw [e] at h3
              exact h3
            have hsl := slice_tail g M.length c n (by omega)
            have hsh := slice_head g M.length c n (by omega)
            have hwr : IntKind.i64.wrap ((n : Int) + 1) = (n : Int) + 1 := IntWalk.i64_in _ ⟨by omega, by omega⟩
            have hxc : ∀ w2 : World, w2.ownsRow B 9 1 (.slice (some ⟨g, 0, none⟩) M.length c) M.length (strL M) → w2.cell? ⟨g, n, none⟩ = some (.string x) := fun w2 h2 => by rw [hx]; exact ncell h2 rfl hn
            have HXX : Hid _ := hxc
            clear hX hY hL hx hr hq hnq hxc
            rcases hcase with ⟨q3, rfl⟩ | ⟨q3, z, bk, off, rfl, hbk, hzc, hr2, hr0, hr1⟩
            · have htk : Calls Try.prog 15 #[.pointer (some ⟨B, 0, none⟩), .int .i64 0] wr fun e w' => e = .returned (.tuple #[.string x, .int .i64 0]) ∧ ∃ S', NtAt PT w' B B S' (M.eraseIdx 0) ∧ Kept wr w' S S' := htk
              have hsl : ∀ w, (Instr.sliceAt 39 (.slice (some ⟨g, 0, none⟩) M.length c) (some (.int .i64 1)) none none).run Try.prog w = .ok (.slice (some (tailAd g c 0)) (M.length - 1) (c - 1)) w := hsl
              have hsh : ∀ w, (Instr.sliceAt 39 (.slice (some ⟨g, 0, none⟩) M.length c) none (some (.int .i64 0)) none).run Try.prog w = .ok (.slice (some ⟨g, 0, none⟩) 0 c) w := hsh
              have hwr : IntKind.i64.wrap 1 = 1 := IntWalk.i64_in _ ⟨by omega, by omega⟩
              go_wp2_with (go_at_call 15; refine htk.mono ?_; rintro e w2 ⟨rfl, S2, n2, k2⟩; have HN2 : Hid _ := n2; have bl2 : Below B wr w2 := k2.below HL.out.n; have hb2 : B ≤ w2.heap.size := Nat.le_trans hBw bl2.size; have r2 := HL.out.row k2; have x2 := HXX.out w2 r2; clear n2)
              have hXc := HXc.out w2 r2
              have hYc : ∀ w3, Below w2.heap.size w2 w3 → ∀ j u, Y[j]? = some u → w3.cell? ((tailAd g c 0).add j) = some u := fun w3 b => HYc.out w2 w3 r2 b
              have HE : Hid (∀ (w3 : World) (v : Value), w3.ownsRow w2.heap.size 9 1 v (0 + 0 + (M.length - 1)) ([] ++ X ++ Y) → w3.ownsRow w2.heap.size 9 1 v (M.eraseIdx 0).length (strL (M.eraseIdx 0))) := fun w3 v => HE.out w2 w3 v
              clear HXc HYc HXX x2 r2
              refine wp_region_held_drew (S := (fun _ : World => True)) (by kernel_rfl) ?_ (fun hHeld0 => ?_)
              · trivial
              refine tk0 (.slice (some ⟨g, 0, none⟩) M.length c) (by kernel_rfl) (by kernel_rfl) (by kernel_rfl) (fun _ _ _ h => h) rfl (fun w hSw => by (try dsimp only at hSw); go_simp) trivial ?_
              try simp only [Act.put, List.setIfInBounds_toArray, List.set_cons_zero, List.set_cons_succ]
              refine tk1 (.int .i64 0) (by kernel_rfl) (by kernel_rfl) (by kernel_rfl) (fun _ _ _ h => h) rfl (fun w hSw => by (try dsimp only at hSw); go_simp) trivial ?_
              try simp only [Act.put, List.setIfInBounds_toArray, List.set_cons_zero, List.set_cons_succ]
              refine tk2 (.slice (some ⟨g, 0, none⟩) 0 c) (by kernel_rfl) (by kernel_rfl) (by kernel_rfl) (fun _ _ _ h => h) rfl (fun w hSw => by (try dsimp only at hSw); go_simp) trivial ?_
              try simp only [Act.put, List.setIfInBounds_toArray, List.set_cons_zero, List.set_cons_succ]
              refine tk4 (.slice (some ⟨g, 0, none⟩) M.length c) (by kernel_rfl) (by kernel_rfl) (by kernel_rfl) (fun _ _ _ h => h) rfl (fun w hSw => by (try dsimp only at hSw); go_simp) trivial ?_
              try simp only [Act.put, List.setIfInBounds_toArray, List.set_cons_zero, List.set_cons_succ]
              refine tk5 (.int .i64 0) (by kernel_rfl) (by kernel_rfl) (by kernel_rfl) (fun _ _ _ h => h) rfl (fun w hSw => by (try dsimp only at hSw); go_simp) trivial ?_
              try simp only [Act.put, List.setIfInBounds_toArray, List.set_cons_zero, List.set_cons_succ]
              refine tk6 (.int .i64 1) (by kernel_rfl) (by kernel_rfl) (by kernel_rfl) (fun _ _ _ h => h) rfl (fun w hSw => by (try dsimp only at hSw); go_simp) trivial ?_
              try simp only [Act.put, List.setIfInBounds_toArray, List.set_cons_zero, List.set_cons_succ]
              refine tk7 (.slice (some (tailAd g c 0)) (M.length - 1) (c - 1)) (by kernel_rfl) (by kernel_rfl) (by kernel_rfl) (fun _ _ _ h => h) rfl (fun w hSw => by (try dsimp only at hSw); go_simp) trivial ?_
              try simp only [Act.put, List.setIfInBounds_toArray, List.set_cons_zero, List.set_cons_succ]
              refine cl3 (by kernel_rfl) rfl (fun K hK => ?_)
              refine (wp_append_own _ (.const (.slice none 0 0)) (.tmp 79) 39 rfl w2.heap.size 9 i0 _ 1 16 Try.underlying39 hi hz0 hz1 hz2 rfl (by omega) (.slice none 0 0) 0 [] rfl (World.ownsRow_nil _ _ _ _) ⟨g, 0, none⟩ 0 c X rfl hX1 (by exact hXc) hXo (by unfold maxLen; omega) (by omega) (Nat.le_refl _) ?_)
              intro u3 w3 h3 g3 _
              have b3 : Below w2.heap.size w2 w3 := (undrew (Below.refl _ w2.drew)).grown g3 (Nat.le_refl _) (fun k hk => by simp [Value.ownBlock] at hk)
              refine hK.out _ _ ?_ (fun hHeld => ?_)
              · trivial
              clear hK K
              try simp only [Act.put, List.setIfInBounds_toArray, List.set_cons_zero, List.set_cons_succ]
              refine cl8 (by kernel_rfl) rfl (fun K hK => ?_)
              refine (wp_append_own _ (.tmp 80) (.tmp 84) 39 rfl w2.heap.size 9 i0 _ 1 16 Try.underlying39 hi hz0 hz1 hz2 rfl (by omega) u3 (0 + 0) ([] ++ X) rfl h3 (tailAd g c 0) (M.length - 1) (c - 1) Y rfl hY1 (hYc _ b3) hYo (by unfold maxLen; omega) (by omega) b3.size ?_)
              intro u4 w4 h4 g4 _
              obtain ⟨p4, n4, q4, rfl⟩ := nform h4
              have b4 : Below w2.heap.size w2 w4 := b3.grown g4 b3.size (fun k hk => (h3.lt k hk).1)
              refine hK.out _ _ ?_ (fun hHeld => ?_)
              · trivial
              clear hK K
              try simp only [Act.put, List.setIfInBounds_toArray, List.set_cons_zero, List.set_cons_succ]
              refine tk9 (.slice p4 n4 q4) (by kernel_rfl) (by kernel_rfl) (by kernel_rfl) (fun _ _ _ h => h) rfl (fun w hSw => by (try dsimp only at hSw); go_simp) trivial ?_
              try simp only [Act.put, List.setIfInBounds_toArray, List.set_cons_zero, List.set_cons_succ]
              refine wpAnyH_done (by kernel_rfl) ?_ _
              have hrow4 := HE.out _ _ h4
              have e4 : n4 = (M.eraseIdx 0).length := own_len hrow4
              go_wp2
              go_roundw
              case rel => exact ⟨j + 1, M.eraseIdx 0, S2, by go_num, by rw [List.length_eraseIdx_of_lt hn]; omega, Lf.less HN2.out b4 hrow4 hb2, (belr.trans bl2).trans (b4.mono hb2)⟩
              case measure =>
                show n4 < M.length
                rw [e4, List.length_eraseIdx_of_lt hn]
                omega
            · have hwq : IntKind.i64.wrap (z.tmod (M.length : Int) + (M.length : Int)) = z.tmod (M.length : Int) + (M.length : Int) := IntWalk.i64_in _ ⟨by omega, by omega⟩
              go_wp2_with (go_at_call 15; refine htk.mono ?_; rintro e w2 ⟨rfl, S2, n2, k2⟩; have HN2 : Hid _ := n2; have bl2 : Below B wr w2 := k2.below HL.out.n; have hb2 : B ≤ w2.heap.size := Nat.le_trans hBw bl2.size; have r2 := HL.out.row k2; have x2 := HXX.out w2 r2; clear n2)
              have hXc := HXc.out w2 r2
              have hYc : ∀ w3, Below w2.heap.size w2 w3 → ∀ j u, Y[j]? = some u → w3.cell? ((tailAd g c n).add j) = some u := fun w3 b => HYc.out w2 w3 r2 b
              have HE : Hid (∀ (w3 : World) (v : Value), w3.ownsRow w2.heap.size 9 1 v (0 + n + (M.length - (n + 1))) ([] ++ X ++ Y) → w3.ownsRow w2.heap.size 9 1 v (M.eraseIdx n).length (strL (M.eraseIdx n))) := fun w3 v => HE.out w2 w3 v
              clear HXc HYc HXX x2 r2
              refine wp_region_held_drew (S := (fun _ : World => True)) (by kernel_rfl) ?_ (fun hHeld0 => ?_)
              · trivial
              refine tk0 (.slice (some ⟨g, 0, none⟩) M.length c) (by kernel_rfl) (by kernel_rfl) (by kernel_rfl) (fun _ _ _ h => h) rfl (fun w hSw => by (try dsimp only at hSw); go_simp) trivial ?_
              try simp only [Act.put, List.setIfInBounds_toArray, List.set_cons_zero, List.set_cons_succ]
              refine tk1 (.int .i64 (n : Int)) (by kernel_rfl) (by kernel_rfl) (by kernel_rfl) (fun _ _ _ h => h) rfl (fun w hSw => by (try dsimp only at hSw); go_simp) trivial ?_
              try simp only [Act.put, List.setIfInBounds_toArray, List.set_cons_zero, List.set_cons_succ]
              refine tk2 (.slice (some ⟨g, 0, none⟩) n c) (by kernel_rfl) (by kernel_rfl) (by kernel_rfl) (fun _ _ _ h => h) rfl (fun w hSw => by (try dsimp only at hSw); go_simp) trivial ?_
              try simp only [Act.put, List.setIfInBounds_toArray, List.set_cons_zero, List.set_cons_succ]
              refine tk4 (.slice (some ⟨g, 0, none⟩) M.length c) (by kernel_rfl) (by kernel_rfl) (by kernel_rfl) (fun _ _ _ h => h) rfl (fun w hSw => by (try dsimp only at hSw); go_simp) trivial ?_
              try simp only [Act.put, List.setIfInBounds_toArray, List.set_cons_zero, List.set_cons_succ]
              refine tk5 (.int .i64 (n : Int)) (by kernel_rfl) (by kernel_rfl) (by kernel_rfl) (fun _ _ _ h => h) rfl (fun w hSw => by (try dsimp only at hSw); go_simp) trivial ?_
              try simp only [Act.put, List.setIfInBounds_toArray, List.set_cons_zero, List.set_cons_succ]
              refine tk6 (.int .i64 ((n : Int) + 1)) (by kernel_rfl) (by kernel_rfl) (by kernel_rfl) (fun _ _ _ h => h) rfl (fun w hSw => by (try dsimp only at hSw); go_simp) trivial ?_
              try simp only [Act.put, List.setIfInBounds_toArray, List.set_cons_zero, List.set_cons_succ]
              refine tk7 (.slice (some (tailAd g c n)) (M.length - (n + 1)) (c - (n + 1))) (by kernel_rfl) (by kernel_rfl) (by kernel_rfl) (fun _ _ _ h => h) rfl (fun w hSw => by (try dsimp only at hSw); go_simp) trivial ?_
              try simp only [Act.put, List.setIfInBounds_toArray, List.set_cons_zero, List.set_cons_succ]
              refine cl3 (by kernel_rfl) rfl (fun K hK => ?_)
              refine (wp_append_own _ (.const (.slice none 0 0)) (.tmp 79) 39 rfl w2.heap.size 9 i0 _ 1 16 Try.underlying39 hi hz0 hz1 hz2 rfl (by omega) (.slice none 0 0) 0 [] rfl (World.ownsRow_nil _ _ _ _) ⟨g, 0, none⟩ n c X rfl hX1 (by exact hXc) hXo (by unfold maxLen; omega) (by omega) (Nat.le_refl _) ?_)
              intro u3 w3 h3 g3 _
              have b3 : Below w2.heap.size w2 w3 := (undrew (Below.refl _ w2.drew)).grown g3 (Nat.le_refl _) (fun k hk => by simp [Value.ownBlock] at hk)
              refine hK.out _ _ ?_ (fun hHeld => ?_)
              · trivial
              clear hK K
              try simp only [Act.put, List.setIfInBounds_toArray, List.set_cons_zero, List.set_cons_succ]
              refine cl8 (by kernel_rfl) rfl (fun K hK => ?_)
              refine (wp_append_own _ (.tmp 80) (.tmp 84) 39 rfl w2.heap.size 9 i0 _ 1 16 Try.underlying39 hi hz0 hz1 hz2 rfl (by omega) u3 (0 + n) ([] ++ X) rfl h3 (tailAd g c n) (M.length - (n + 1)) (c - (n + 1)) Y rfl hY1 (hYc _ b3) hYo (by unfold maxLen; omega) (by omega) b3.size ?_)
              intro u4 w4 h4 g4 _
              obtain ⟨p4, n4, q4, rfl⟩ := nform h4
              have b4 : Below w2.heap.size w2 w4 := b3.grown g4 b3.size (fun k hk => (h3.lt k hk).1)
              refine hK.out _ _ ?_ (fun hHeld => ?_)
              · trivial
              clear hK K
              try simp only [Act.put, List.setIfInBounds_toArray, List.set_cons_zero, List.set_cons_succ]
              refine tk9 (.slice p4 n4 q4) (by kernel_rfl) (by kernel_rfl) (by kernel_rfl) (fun _ _ _ h => h) rfl (fun w hSw => by (try dsimp only at hSw); go_simp) trivial ?_
              try simp only [Act.put, List.setIfInBounds_toArray, List.set_cons_zero, List.set_cons_succ]
              refine wpAnyH_done (by kernel_rfl) ?_ _
              have hrow4 := HE.out _ _ h4
              have e4 : n4 = (M.eraseIdx n).length := own_len hrow4
              go_wp2
              go_roundw
              case rel => exact ⟨j + 1, M.eraseIdx n, S2, by go_num, by rw [List.length_eraseIdx_of_lt hn]; omega, Lf.less HN2.out b4 hrow4 hb2, (belr.trans bl2).trans (b4.mono hb2)⟩
              case measure =>
                show n4 < M.length
                rw [e4, List.length_eraseIdx_of_lt hn]
                omega
      · have q1 : decide (((100 : Nat) : Int) < (ss.length : Int)) = true := by simp; omega
        go_wp2
        go_loopw [6, 8] (fun u i wr => ∃ (j : Nat) (M : List ByteArray) (S : Nat → Prop), i = .int .i64 j ∧ j + M.length ≤ 100 ∧ Lf wr B S u M ∧ Below B w wr) (fun u _ _ => lenV u)
        case atStart => exact ⟨0, M, S, rfl, by omega, hL, bel⟩
        case round =>
          clear hL bel hBw hM100 q0 q1
          obtain ⟨j, M, S, rfl, hjM, hL, belr⟩ := hrel
          have hBw : B ≤ wr.heap.size := by have := hL.n.bd B hL.n.sD; omega
          obtain ⟨p, c, rfl, hfm⟩ := hL.form
          by_cases hM0 : M.length = 0
          · have q2 : decide ((0 : Int) < (M.length : Int)) = false := decide_eq_false (by omega)
            have hlen := plen_any hL.n
            rw [hM0] at hlen ⊢
            clear hL hfm
            go_wp2_with (first
              | (go_at_call 24; refine (nawake_any _).mono ?_; rintro e w9 ⟨rfl, b9⟩)
              | (go_at_call 21; refine hlen.mono ?_; rintro e w3 ⟨rfl, rfl⟩))
            go_ret
            exact ⟨rfl, bmm belr hBw b9⟩
          · have q2 : decide ((0 : Int) < (M.length : Int)) = true := decide_eq_true (by omega)
            rcases hfm with h0 | ⟨g, rfl, hcap, hgl⟩
            · omega
            obtain ⟨q, hq⟩ : ∃ q, q = M.length := ⟨_, rfl⟩
            obtain ⟨n, hnq, hcase⟩ : ∃ n : Nat, n < M.length ∧ ((¬ j < zs.length ∧ n = 0) ∨ (j < zs.length ∧ ∃ (z : Int) (bk off : Nat), a1 = some ⟨bk, off, none⟩ ∧ bk < B ∧ wr.cell? ⟨bk, off + j, none⟩ = some (.int .i64 z) ∧ (z.tmod (M.length : Int) + (M.length : Int)).tmod (M.length : Int) = (n : Int) ∧ -(M.length : Int) < z.tmod (M.length : Int) ∧ z.tmod (M.length : Int) < (M.length : Int))) := by
              by_cases hj : j < zs.length
              · rcases H1.out with h0 | ⟨bk, off, e1, hbk, hc⟩
                · omega
                have hbB : bk < B := by rw [HB.out]; exact hbk
                obtain ⟨n, h1, h2, h3, h4⟩ := place zs[j] M.length (by omega)
                exact ⟨n, h1, Or.inr ⟨hj, zs[j], bk, off, e1, hbB, (belr.cell (p := ⟨bk, off + j, none⟩) (by exact hbB)).trans (hc j hj), h2, h3, h4⟩⟩
              · exact ⟨0, by omega, Or.inl ⟨hj, rfl⟩⟩
            have hn : n < M.length := hnq
            have htk := ptake_yes n hL.n hn
            obtain ⟨x, hx⟩ : ∃ x, x = M[n] := ⟨_, rfl⟩
            rw [← hx] at htk
            have HL : Hid (Lf wr B S (.slice (some ⟨g, 0, none⟩) M.length c) M) := hL
            have hr : wr.ownsRow B 9 1 (.slice (some ⟨g, 0, none⟩) M.length c) M.length (strL M) := hL.r
            have HR : Hid (wr.ownsRow B 9 1 (.slice (some ⟨g, 0, none⟩) M.length c) M.length (strL M)) := hL.r
            obtain ⟨X, hX⟩ : ∃ X, X = (strL M).take n := ⟨_, rfl⟩
            obtain ⟨Y, hY⟩ : ∃ Y, Y = (strL M).drop (n + 1) := ⟨_, rfl⟩
            have hX1 : X.length = n * 1 := by rw [hX, List.length_take, strL_length]; omega
            have hY1 : Y.length = (M.length - (n + 1)) * 1 := by rw [hY, List.length_drop, strL_length]; omega
            have HXc : Hid (∀ w2 : World, w2.ownsRow B 9 1 (.slice (some ⟨g, 0, none⟩) M.length c) M.length (strL M) → ∀ j u, X[j]? = some u → w2.cell? ((⟨g, 0, none⟩ : Addr).add j) = some u) := fun w2 h2 j u hj => by rw [hX] at hj; exact head_cells h2 j u hj
            have HYc : Hid (∀ w2 w3 : World, w2.ownsRow B 9 1 (.slice (some ⟨g, 0, none⟩) M.length c) M.length (strL M) → Below w2.heap.size w2 w3 → ∀ j u, Y[j]? = some u → w3.cell? ((tailAd g c n).add j) = some u) := fun w2 w3 h2 b j u hj => by rw [hY] at hj; exact tail_cells (nkeep h2 (fun g2 e => b.block g2 (h2.lt g2 e).2)) hn hcap j u hj
            have hXo : ∀ u ∈ X, u.oneCell' = true := by rw [hX]; exact one_take M n
            have hYo : ∀ u ∈ Y, u.oneCell' = true := by rw [hY]; exact one_drop M (n + 1)
            have HE : Hid (∀ (w2 w3 : World) (v : Value), w3.ownsRow w2.heap.size 9 1 v (0 + n + (M.length - (n + 1))) ([] ++ X ++ Y) → w3.ownsRow w2.heap.size 9 1 v (M.eraseIdx n).length (strL (M.eraseIdx n))) := fun w2 w3 v h3 => by
              rw [strL_erase, ← hX, ← hY, List.length_eraseIdx_of_lt hn]
              have e : 0 + n + (M.length - (n + 1)) = M.length - 1 := by omega
              rw [e] at h3
              exact h3
            have hsl := slice_tail g M.length c n (by omega)
            have hsh := slice_head g M.length c n (by omega)
            have hwr : IntKind.i64.wrap ((n : Int) + 1) = (n : Int) + 1 := IntWalk.i64_in _ ⟨by omega, by omega⟩
            have hxc : ∀ w2 : World, w2.ownsRow B 9 1 (.slice (some ⟨g, 0, none⟩) M.length c) M.length (strL M) → w2.cell? ⟨g, n, none⟩ = some (.string x) := fun w2 h2 => by rw [hx]; exact ncell h2 rfl hn
            have HXX : Hid _ := hxc
            clear hX hY hL hx hr hq hnq hxc
            rcases hcase with ⟨q3, rfl⟩ | ⟨q3, z, bk, off, rfl, hbk, hzc, hr2, hr0, hr1⟩
            · have htk : Calls Try.prog 15 #[.pointer (some ⟨B, 0, none⟩), .int .i64 0] wr fun e w' => e = .returned (.tuple #[.string x, .int .i64 0]) ∧ ∃ S', NtAt PT w' B B S' (M.eraseIdx 0) ∧ Kept wr w' S S' := htk
              have hsl : ∀ w, (Instr.sliceAt 39 (.slice (some ⟨g, 0, none⟩) M.length c) (some (.int .i64 1)) none none).run Try.prog w = .ok (.slice (some (tailAd g c 0)) (M.length - 1) (c - 1)) w := hsl
              have hsh : ∀ w, (Instr.sliceAt 39 (.slice (some ⟨g, 0, none⟩) M.length c) none (some (.int .i64 0)) none).run Try.prog w = .ok (.slice (some ⟨g, 0, none⟩) 0 c) w := hsh
              have hwr : IntKind.i64.wrap 1 = 1 := IntWalk.i64_in _ ⟨by omega, by omega⟩
              go_wp2_with (go_at_call 15; refine htk.mono ?_; rintro e w2 ⟨rfl, S2, n2, k2⟩; have HN2 : Hid _ := n2; have bl2 : Below B wr w2 := k2.below HL.out.n; have hb2 : B ≤ w2.heap.size := Nat.le_trans hBw bl2.size; have r2 := HL.out.row k2; have x2 := HXX.out w2 r2; clear n2)
              have hXc := HXc.out w2 r2
              have hYc : ∀ w3, Below w2.heap.size w2 w3 → ∀ j u, Y[j]? = some u → w3.cell? ((tailAd g c 0).add j) = some u := fun w3 b => HYc.out w2 w3 r2 b
              have HE : Hid (∀ (w3 : World) (v : Value), w3.ownsRow w2.heap.size 9 1 v (0 + 0 + (M.length - 1)) ([] ++ X ++ Y) → w3.ownsRow w2.heap.size 9 1 v (M.eraseIdx 0).length (strL (M.eraseIdx 0))) := fun w3 v => HE.out w2 w3 v
              clear HXc HYc HXX x2 r2
              refine wp_region_held_drew (S := (fun _ : World => True)) (by kernel_rfl) ?_ (fun hHeld0 => ?_)
              · trivial
              refine tk0 (.slice (some ⟨g, 0, none⟩) M.length c) (by kernel_rfl) (by kernel_rfl) (by kernel_rfl) (fun _ _ _ h => h) rfl (fun w hSw => by (try dsimp only at hSw); go_simp) trivial ?_
              try simp only [Act.put, List.setIfInBounds_toArray, List.set_cons_zero, List.set_cons_succ]
              refine tk1 (.int .i64 0) (by kernel_rfl) (by kernel_rfl) (by kernel_rfl) (fun _ _ _ h => h) rfl (fun w hSw => by (try dsimp only at hSw); go_simp) trivial ?_
              try simp only [Act.put, List.setIfInBounds_toArray, List.set_cons_zero, List.set_cons_succ]
              refine tk2 (.slice (some ⟨g, 0, none⟩) 0 c) (by kernel_rfl) (by kernel_rfl) (by kernel_rfl) (fun _ _ _ h => h) rfl (fun w hSw => by (try dsimp only at hSw); go_simp) trivial ?_
              try simp only [Act.put, List.setIfInBounds_toArray, List.set_cons_zero, List.set_cons_succ]
              refine tk4 (.slice (some ⟨g, 0, none⟩) M.length c) (by kernel_rfl) (by kernel_rfl) (by kernel_rfl) (fun _ _ _ h => h) rfl (fun w hSw => by (try dsimp only at hSw); go_simp) trivial ?_
              try simp only [Act.put, List.setIfInBounds_toArray, List.set_cons_zero, List.set_cons_succ]
              refine tk5 (.int .i64 0) (by kernel_rfl) (by kernel_rfl) (by kernel_rfl) (fun _ _ _ h => h) rfl (fun w hSw => by (try dsimp only at hSw); go_simp) trivial ?_
              try simp only [Act.put, List.setIfInBounds_toArray, List.set_cons_zero, List.set_cons_succ]
              refine tk6 (.int .i64 1) (by kernel_rfl) (by kernel_rfl) (by kernel_rfl) (fun _ _ _ h => h) rfl (fun w hSw => by (try dsimp only at hSw); go_simp) trivial ?_
              try simp only [Act.put, List.setIfInBounds_toArray, List.set_cons_zero, List.set_cons_succ]
              refine tk7 (.slice (some (tailAd g c 0)) (M.length - 1) (c - 1)) (by kernel_rfl) (by kernel_rfl) (by kernel_rfl) (fun _ _ _ h => h) rfl (fun w hSw => by (try dsimp only at hSw); go_simp) trivial ?_
              try simp only [Act.put, List.setIfInBounds_toArray, List.set_cons_zero, List.set_cons_succ]
              refine cl3 (by kernel_rfl) rfl (fun K hK => ?_)
              refine (wp_append_own _ (.const (.slice none 0 0)) (.tmp 79) 39 rfl w2.heap.size 9 i0 _ 1 16 Try.underlying39 hi hz0 hz1 hz2 rfl (by omega) (.slice none 0 0) 0 [] rfl (World.ownsRow_nil _ _ _ _) ⟨g, 0, none⟩ 0 c X rfl hX1 (by exact hXc) hXo (by unfold maxLen; omega) (by omega) (Nat.le_refl _) ?_)
              intro u3 w3 h3 g3 _
              have b3 : Below w2.heap.size w2 w3 := (undrew (Below.refl _ w2.drew)).grown g3 (Nat.le_refl _) (fun k hk => by simp [Value.ownBlock] at hk)
              refine hK.out _ _ ?_ (fun hHeld => ?_)
              · trivial
              clear hK K
              try simp only [Act.put, List.setIfInBounds_toArray, List.set_cons_zero, List.set_cons_succ]
              refine cl8 (by kernel_rfl) rfl (fun K hK => ?_)
              refine (wp_append_own _ (.tmp 80) (.tmp 84) 39 rfl w2.heap.size 9 i0 _ 1 16 Try.underlying39 hi hz0 hz1 hz2 rfl (by omega) u3 (0 + 0) ([] ++ X) rfl h3 (tailAd g c 0) (M.length - 1) (c - 1) Y rfl hY1 (hYc _ b3) hYo (by unfold maxLen; omega) (by omega) b3.size ?_)
              intro u4 w4 h4 g4 _
              obtain ⟨p4, n4, q4, rfl⟩ := nform h4
              have b4 : Below w2.heap.size w2 w4 := b3.grown g4 b3.size (fun k hk => (h3.lt k hk).1)
              refine hK.out _ _ ?_ (fun hHeld => ?_)
              · trivial
              clear hK K
              try simp only [Act.put, List.setIfInBounds_toArray, List.set_cons_zero, List.set_cons_succ]
              refine tk9 (.slice p4 n4 q4) (by kernel_rfl) (by kernel_rfl) (by kernel_rfl) (fun _ _ _ h => h) rfl (fun w hSw => by (try dsimp only at hSw); go_simp) trivial ?_
              try simp only [Act.put, List.setIfInBounds_toArray, List.set_cons_zero, List.set_cons_succ]
              refine wpAnyH_done (by kernel_rfl) ?_ _
              have hrow4 := HE.out _ _ h4
              have e4 : n4 = (M.eraseIdx 0).length := own_len hrow4
              go_wp2
              go_roundw
              case rel => exact ⟨j + 1, M.eraseIdx 0, S2, by go_num, by rw [List.length_eraseIdx_of_lt hn]; omega, Lf.less HN2.out b4 hrow4 hb2, (belr.trans bl2).trans (b4.mono hb2)⟩
              case measure =>
                show n4 < M.length
                rw [e4, List.length_eraseIdx_of_lt hn]
                omega
            · have hwq : IntKind.i64.wrap (z.tmod (M.length : Int) + (M.length : Int)) = z.tmod (M.length : Int) + (M.length : Int) := IntWalk.i64_in _ ⟨by omega, by omega⟩
              go_wp2_with (go_at_call 15; refine htk.mono ?_; rintro e w2 ⟨rfl, S2, n2, k2⟩; have HN2 : Hid _ := n2; have bl2 : Below B wr w2 := k2.below HL.out.n; have hb2 : B ≤ w2.heap.size := Nat.le_trans hBw bl2.size; have r2 := HL.out.row k2; have x2 := HXX.out w2 r2; clear n2)
              have hXc := HXc.out w2 r2
              have hYc : ∀ w3, Below w2.heap.size w2 w3 → ∀ j u, Y[j]? = some u → w3.cell? ((tailAd g c n).add j) = some u := fun w3 b => HYc.out w2 w3 r2 b
              have HE : Hid (∀ (w3 : World) (v : Value), w3.ownsRow w2.heap.size 9 1 v (0 + n + (M.length - (n + 1))) ([] ++ X ++ Y) → w3.ownsRow w2.heap.size 9 1 v (M.eraseIdx n).length (strL (M.eraseIdx n))) := fun w3 v => HE.out w2 w3 v
              clear HXc HYc HXX x2 r2
              refine wp_region_held_drew (S := (fun _ : World => True)) (by kernel_rfl) ?_ (fun hHeld0 => ?_)
              · trivial
              refine tk0 (.slice (some ⟨g, 0, none⟩) M.length c) (by kernel_rfl) (by kernel_rfl) (by kernel_rfl) (fun _ _ _ h => h) rfl (fun w hSw => by (try dsimp only at hSw); go_simp) trivial ?_
              try simp only [Act.put, List.setIfInBounds_toArray, List.set_cons_zero, List.set_cons_succ]
              refine tk1 (.int .i64 (n : Int)) (by kernel_rfl) (by kernel_rfl) (by kernel_rfl) (fun _ _ _ h => h) rfl (fun w hSw => by (try dsimp only at hSw); go_simp) trivial ?_
              try simp only [Act.put, List.setIfInBounds_toArray, List.set_cons_zero, List.set_cons_succ]
              refine tk2 (.slice (some ⟨g, 0, none⟩) n c) (by kernel_rfl) (by kernel_rfl) (by kernel_rfl) (fun _ _ _ h => h) rfl (fun w hSw => by (try dsimp only at hSw); go_simp) trivial ?_
              try simp only [Act.put, List.setIfInBounds_toArray, List.set_cons_zero, List.set_cons_succ]
              refine tk4 (.slice (some ⟨g, 0, none⟩) M.length c) (by kernel_rfl) (by kernel_rfl) (by kernel_rfl) (fun _ _ _ h => h) rfl (fun w hSw => by (try dsimp only at hSw); go_simp) trivial ?_
              try simp only [Act.put, List.setIfInBounds_toArray, List.set_cons_zero, List.set_cons_succ]
              refine tk5 (.int .i64 (n : Int)) (by kernel_rfl) (by kernel_rfl) (by kernel_rfl) (fun _ _ _ h => h) rfl (fun w hSw => by (try dsimp only at hSw); go_simp) trivial ?_
              try simp only [Act.put, List.setIfInBounds_toArray, List.set_cons_zero, List.set_cons_succ]
              refine tk6 (.int .i64 ((n : Int) + 1)) (by kernel_rfl) (by kernel_rfl) (by kernel_rfl) (fun _ _ _ h => h) rfl (fun w hSw => by (try dsimp only at hSw); go_simp) trivial ?_
              try simp only [Act.put, List.setIfInBounds_toArray, List.set_cons_zero, List.set_cons_succ]
              refine tk7 (.slice (some (tailAd g c n)) (M.length - (n + 1)) (c - (n + 1))) (by kernel_rfl) (by kernel_rfl) (by kernel_rfl) (fun _ _ _ h => h) rfl (fun w hSw => by (try dsimp only at hSw); go_simp) trivial ?_
              try simp only [Act.put, List.setIfInBounds_toArray, List.set_cons_zero, List.set_cons_succ]
              refine cl3 (by kernel_rfl) rfl (fun K hK => ?_)
              refine (wp_append_own _ (.const (.slice none 0 0)) (.tmp 79) 39 rfl w2.heap.size 9 i0 _ 1 16 Try.underlying39 hi hz0 hz1 hz2 rfl (by omega) (.slice none 0 0) 0 [] rfl (World.ownsRow_nil _ _ _ _) ⟨g, 0, none⟩ n c X rfl hX1 (by exact hXc) hXo (by unfold maxLen; omega) (by omega) (Nat.le_refl _) ?_)
              intro u3 w3 h3 g3 _
              have b3 : Below w2.heap.size w2 w3 := (undrew (Below.refl _ w2.drew)).grown g3 (Nat.le_refl _) (fun k hk => by simp [Value.ownBlock] at hk)
              refine hK.out _ _ ?_ (fun hHeld => ?_)
              · trivial
              clear hK K
              try simp only [Act.put, List.setIfInBounds_toArray, List.set_cons_zero, List.set_cons_succ]
              refine cl8 (by kernel_rfl) rfl (fun K hK => ?_)
              refine (wp_append_own _ (.tmp 80) (.tmp 84) 39 rfl w2.heap.size 9 i0 _ 1 16 Try.underlying39 hi hz0 hz1 hz2 rfl (by omega) u3 (0 + n) ([] ++ X) rfl h3 (tailAd g c n) (M.length - (n + 1)) (c - (n + 1)) Y rfl hY1 (hYc _ b3) hYo (by unfold maxLen; omega) (by omega) b3.size ?_)
              intro u4 w4 h4 g4 _
              obtain ⟨p4, n4, q4, rfl⟩ := nform h4
              have b4 : Below w2.heap.size w2 w4 := b3.grown g4 b3.size (fun k hk => (h3.lt k hk).1)
              refine hK.out _ _ ?_ (fun hHeld => ?_)
              · trivial
              clear hK K
              try simp only [Act.put, List.setIfInBounds_toArray, List.set_cons_zero, List.set_cons_succ]
              refine tk9 (.slice p4 n4 q4) (by kernel_rfl) (by kernel_rfl) (by kernel_rfl) (fun _ _ _ h => h) rfl (fun w hSw => by (try dsimp only at hSw); go_simp) trivial ?_
              try simp only [Act.put, List.setIfInBounds_toArray, List.set_cons_zero, List.set_cons_succ]
              refine wpAnyH_done (by kernel_rfl) ?_ _
              have hrow4 := HE.out _ _ h4
              have e4 : n4 = (M.eraseIdx n).length := own_len hrow4
              go_wp2
              go_roundw
              case rel => exact ⟨j + 1, M.eraseIdx n, S2, by go_num, by rw [List.length_eraseIdx_of_lt hn]; omega, Lf.less HN2.out b4 hrow4 hb2, (belr.trans bl2).trans (b4.mono hb2)⟩
              case measure =>
                show n4 < M.length
                rw [e4, List.length_eraseIdx_of_lt hn]
                omega
end Go.Proofs.Ytpbkpaendhpbfaa
