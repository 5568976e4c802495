/-
  FrameBack, one of the four kinds of cut (A): frames one behind the other are read as what was wrapped, of any beginning of them those that are whole; the call answers true. The condition: package frame's table lies in memory.
-/
import Derived.Test.YtpokiijbhmmmaaaDoorFBackHead
namespace Go.Proofs.YtpokiijbhmmmaaaDoor.frameBack
open Go.RowKit

set_option maxHeartbeats 12800000 in
set_option maxRecDepth 100000 in
theorem walk_A (bk off len cap : Nat) (X : Nat → ByteArray) (cut : Int) (w : World) (hl : 0 < len) (hlm : len ≤ 9223372036854775807) (hbk : bk < w.heap.size) (hX : ∀ j, j < len → w.cell? ⟨bk, off + j, none⟩ = some (.string (X j))) (t0 : Tab w) (hcase : Hid (cut ≤ 0)) :
    Calls Tryd.prog 5 #[.slice (some ⟨bk, off, none⟩) len cap, .int .i64 cut] w fun e w' => e = .returned (.bool true) ∧ Below w.heap.size w w' := by
  obtain ⟨i0, hi, hz0, hz1, hz2⟩ := info_parts Tryd.info3
  have qa := awake_any frameOk
  have hF := frameOk
  obtain ⟨base, hbase⟩ : ∃ base, w.heap.size = base := ⟨_, rfl⟩
  obtain ⟨T, hT0⟩ : ∃ T : Nat → List UInt8, T = fun j => (X j).data.toList := ⟨_, rfl⟩
  have hT : ∀ j, T j = (X j).data.toList := fun j => by rw [hT0]
  try rw [← hT0] at hcase
  clear hT0
  have hst : Laid base w (w.alloc (.cells #[.int .i64 0] 3)) T 0 (.slice (some ⟨base, 0, none⟩) 1 1) := by
    refine ⟨⟨by simp [endsOf], .inr ⟨base, 1, #[.int .i64 0], rfl, Nat.le_refl _, ?_, by omega, by unfold maxLen; omega, rfl, rfl⟩⟩, fun j hj => by omega, (Below.refl base w).alloc (by omega) _⟩
    rw [← hbase]
    exact heap_alloc_new w _
  rw [hbase] at hbk ⊢
  go_enter Tryd.func5, Tryd.ntmps5
  go_wp2
  go_loopw [5, 6, 7, 8, 9] (fun t v i _ _ wr => ∃ k : Nat, k ≤ len ∧ k ≤ 50 ∧ i = .int .i64 k ∧ t = .string ⟨(cat T 0 k).toArray⟩ ∧ Laid base w wr T k v) (fun _ _ i _ _ _ => len - (intOf i).toNat)
  case atStart => exact ⟨0, by omega, by omega, rfl, rfl, hst⟩
  case round =>
    clear hst
    obtain ⟨k, hk, hk50, rfl, rfl, hown, hsm, hbel⟩ := hrel
    have hsz : base ≤ wr.heap.size := by have := hbel.size; omega
    have tr : Tab wr := t0.below (by rw [hbase]; exact hbel)
    by_cases hlt : k < len ∧ k < 50
    · obtain ⟨hkl, hk1⟩ := hlt
      have hkl' : (k : Int) < (len : Int) := by omega
      have hk1' : (k : Int) < 50 := by omega
      obtain ⟨x, hx⟩ : ∃ x, X k = x := ⟨_, rfl⟩
      have hc0 := hX k hkl
      have hTk := hT k
      rw [hx] at hc0 hTk
      have hcell := (hbel.cell (by exact hbk)).trans hc0
      have later : Hid (∀ w1, Below base w w1 → w1.cell? ⟨bk, off + k, none⟩ = some (.string x)) := fun w1 h1 => (h1.cell (by exact hbk)).trans hc0
      have q1 := fun w (hT : Tab w) => wrap_any x w hT
      have hxl := Lib.size_eq x
      by_cases hbig : 524288 < x.size
      · have ew : wrapOf x = (⟨#[]⟩, 1) := by unfold wrapOf; rw [if_pos hbig]
        rw [ew] at q1
        have hb' : (524288 : Int) < (x.size : Int) := by omega
        have q1' : ∀ w, Tab w → Calls Tryd.prog 8 #[.string x] w fun e w' => e = .returned (.tuple #[.string ⟨#[]⟩, .int .i64 1]) ∧ Below w.heap.size w w' := q1
        clear q1 ew hX hx hc0 hTk hsm hxl hF
        go_wp2_with (first
          | (go_at_call 7; refine (qa _ (by exact t1)).mono ?_; rintro e w2 ⟨rfl, b2⟩)
          | (go_at_call 8; refine (q1' _ (by exact tr)).mono ?_; rintro e w1 ⟨rfl, b1⟩; have t1 := Tab.below (by exact tr) b1; have b1' := hbel.trans (b1.mono hsz); have c1 := later.out w1 b1'))
        go_ret
        exact ⟨rfl, b1'.trans (b2.mono (Nat.le_trans hsz b1.size))⟩
      · have ew : wrapOf x = (⟨(frameOf (T k)).toArray⟩, 0) := by unfold wrapOf; rw [if_neg hbig, hTk]
        rw [ew] at q1
        have hcl := cat_le hsm k 0 (by omega)
        have hsn := cat_snoc T k 0
        rw [Nat.zero_add] at hsn
        obtain ⟨A, hA⟩ : ∃ A : ByteArray, A = ⟨(cat T 0 k).toArray⟩ := ⟨_, rfl⟩
        obtain ⟨B, hB⟩ : ∃ B : ByteArray, B = ⟨(frameOf (T k)).toArray⟩ := ⟨_, rfl⟩
        obtain ⟨C, hC⟩ : ∃ C : ByteArray, C = ⟨(cat T 0 (k + 1)).toArray⟩ := ⟨_, rfl⟩
        have hcat : A ++ B = C := by rw [hA, hB, hC, append_lists, hsn]
        have eA : A.size = (cat T 0 k).length := by rw [hA, size_list]
        have zA : A.size ≤ 50 * 524296 := by omega
        have eB : B.size = x.size + 8 := by rw [hB, size_list, frameOf_len, hTk, hxl]
        have zB : B.size ≤ 524296 := by omega
        have hsum : A.size + B.size ≤ 9223372036854775807 := by omega
        have hCs : C.size = (cat T 0 (k + 1)).length := by rw [hC, size_list]
        have zC : C.size ≤ 9223372036854775807 := by rw [← hcat, ByteArray.size_append]; exact hsum
        have q1' : ∀ w, Tab w → Calls Tryd.prog 8 #[.string x] w fun e w' => e = .returned (.tuple #[.string B, .int .i64 0]) ∧ Below w.heap.size w w' := by rw [hB]; exact q1
        have HC : Hid (C = ⟨(cat T 0 (k + 1)).toArray⟩) := hC
        have HCs : Hid (C.size = (cat T 0 (k + 1)).length) := hCs
        have hsm' : Hid (∀ j, j < k + 1 → (T j).length ≤ 524288) := fun j hj => by
          by_cases e : j = k
          · rw [e, hTk, ← hxl]; omega
          · exact hsm j (by omega)
        rw [← hA]
        clear q1 ew hX hx hc0 hTk hsm hxl hF hcl hsn hA hB hC zA zB hCs later eA eB
        go_wp2_with (first
          | (go_at_call 8; refine (q1' _ (by exact tr)).mono ?_; rintro e w1 ⟨rfl, b1⟩; have t1 := Tab.below (by exact tr) b1; have hown1 := hown.kept (grownB b1 Option.none) (by cases Value.ownBlock _ <;> simp); have hsz1 : base ≤ w1.heap.size := Nat.le_trans hsz b1.size)
          | (at_builtin; refine wpList_append_lies _ rfl (.tmp 47) (.tmp 50) 38 rfl base 3 i0 (.int .i64 0) 1 8 Tryd.underlying38 hi hz0 hz1 hz2 rfl (by decide) _ (k + 1) _ rfl (hown1.alloc _) ⟨w1.heap.size, 0, none⟩ 1 1 [.int .i64 (C.size : Nat)] rfl rfl ?c1 ?c2 (by decide) (by unfold maxLen; omega) (by omega) (by simp; omega) (w1.heap.size + 1) (by simp) ?_))
        case c1 =>
          intro j u hj
          match j, hj with
          | 0, hj => simp at hj; subst hj; simp [Addr.add]
        case c2 => intro u hu; simp at hu; subst hu; rfl
        intro g' cap' w2 hown' hgrow _ _
        rw [HCs.out, endsOf_succ] at hown'
        have R2 : Below base w w2 := ((hbel.trans (b1.mono hsz)).alloc hsz1 _).grown hgrow (by simp; omega) (fun k hk => (hown.lt k hk).1)
        clear hgrow hown1
        go_wp2
        go_roundw
        case rel => exact ⟨k + 1, by omega, by omega, by go_num, by rw [HC.out], hown', hsm'.out, R2⟩
        case measure => simp [intOf]; omega
    · -- all is laid: the cut
      have hcl := cat_le hsm k 0 (by omega)
      obtain ⟨L, hL⟩ : ∃ L, L = (cat T 0 k).length := ⟨_, rfl⟩
      obtain ⟨A, hA⟩ : ∃ A : ByteArray, A = ⟨(cat T 0 k).toArray⟩ := ⟨_, rfl⟩
      have hAs : A.size = L := by rw [hA, size_list, hL]
      have hLs : L ≤ 50 * 524296 := by omega
      obtain ⟨g, ce, hv, hgb, hgl⟩ := hown.form (by omega)
      rw [hv] at hown
      have hends := ends_cell hown
      have hkm : k = min len 50 := by omega
      have hcs0 := hcase.out
      try rw [← hkm, ← hL] at hcs0
      obtain ⟨hc0, C, hCe, hCL⟩ : cut ≤ 0 ∧ ∃ C : Nat, C = 0 ∧ C ≤ L := ⟨hcs0, 0, rfl, by omega⟩
      obtain ⟨G, hG⟩ : ∃ G, G = allT ((cat T 0 k).take C) := ⟨_, rfl⟩
      have hw : Hid (∀ m, m ≤ k → (cat T 0 m).length ≤ C → (m = k ∨ C < (cat T 0 (m + 1)).length) → G = ((List.range' 0 m).map T, (cat T 0 m).length)) := fun m h1 h2 h3 => by rw [hG]; exact whole hsm h1 h2 h3
      have qA : ∀ Z : ByteArray, Z.data.toList = (cat T 0 k).take C → ∀ w0, Tab w0 → Calls Tryd.prog 14 #[.string Z] w0 fun e w' => ∃ ad cap, e = .returned (.tuple #[.slice ad G.1.length cap, .int .i64 G.2]) ∧ Hid (∀ j, j < G.1.length → ∃ b, ad = some ⟨b, 0, none⟩ ∧ w'.cell? ⟨b, j, none⟩ = some (.string ⟨(G.1.getD j []).toArray⟩)) ∧ Below w0.heap.size w0 w' := fun Z hZ w0 hTw => by
        have hZs : Z.size ≤ 1099511627776 := by
          rw [Lib.size_eq, hZ, List.length_take]
          omega
        refine (hF.all Z w0 hZs hTw).mono fun e w' ⟨v, he, ht, hb⟩ => ?_
        rw [hZ, ← hG] at he ht
        obtain ⟨ad, cp, rfl, hc⟩ := shape ht
        exact ⟨ad, cp, he, hc, hb⟩
      obtain ⟨N, hN⟩ : ∃ N, G.1.length = N := ⟨_, rfl⟩
      obtain ⟨n, hn⟩ : ∃ n, G.2 = n := ⟨_, rfl⟩
      rw [hN, hn] at qA
      have HX : Hid (∀ w1, Below base w w1 → ∀ j, j < len → w1.cell? ⟨bk, off + j, none⟩ = some (.string (X j))) := fun w1 h1 j hj => (h1.cell (by exact hbk)).trans (hX j hj)
      have hT' : Hid (∀ j, T j = (X j).data.toList) := hT
      have HN : Hid (G.1.length = N) := hN
      have Hn : Hid (G.2 = n) := hn
      have HE : Hid (∀ j, j ≤ k → wr.cell? ⟨g, j, none⟩ = some (.int .i64 ((cat T 0 j).length : Nat))) := hends
      have hxx : (k < len ∧ k = 50) ∨ (k = len) := by omega
      have eA0 : Hid (∀ c, (A.extract 0 c).data.toList = (cat T 0 k).take c) := fun c => by rw [Lib.extract_data, hA]; simp
      rw [← hA, hv]
      clear hG hN hn hX hcase hkm hsm hlt hv hown hF hends hT hL hA hcl
      have zA := eA0.out L
      rw [show A.extract 0 L = A by rw [← hAs]; exact ByteArray.extract_zero_size] at zA
      have zE := eA0.out C
      have hexit : (50 : Int) ≤ (k : Int) ∨ (len : Int) ≤ (k : Int) := by omega
      have hkk : (k : Int) ≤ (len : Int) := by omega
      clear hxx
      · have zz : ByteArray.empty.data.toList = (cat T 0 k).take C := by rw [hCe]; rfl
        clear zA zE eA0
        by_cases hkl : k < len
        · have hkl' : (k : Int) < (len : Int) := by omega
          have hk1' : (50 : Int) ≤ (k : Int) := by omega
          clear hexit
          all_goals (go_wp2_with (go_at_call 14; refine (qA _ zz wr (by exact tr)).mono ?_; rintro e w1 ⟨ad, cp, rfl, hcs, b1⟩))
          all_goals have t1 := Tab.below (by exact tr) b1
          all_goals have b1' := hbel.trans (b1.mono hsz)
          all_goals have hsz1 : base ≤ w1.heap.size := Nat.le_trans hsz b1.size
          all_goals have HE1 : Hid (∀ j, j ≤ k → w1.cell? ⟨g, j, none⟩ = some (.int .i64 ((cat T 0 j).length : Nat))) := fun j hj => (b1.cell (by exact hgl)).trans (HE.out j hj)
          all_goals (
            go_loop [12] (fun i => ∃ m : Nat, m ≤ k ∧ i = .int .i64 m ∧ (cat T 0 m).length ≤ C) (fun i => k - (intOf i).toNat)
            case atStart => exact ⟨0, by omega, rfl, by simp [cat]⟩
            case round =>
              obtain ⟨m, hm, rfl, hmC⟩ := hrel
              by_cases hstep : m + 1 ≤ k ∧ (cat T 0 (m + 1)).length ≤ C
              · obtain ⟨hm1, hE⟩ := hstep
                have hce := HE1.out (m + 1) hm1
                obtain ⟨E, hEe⟩ : ∃ E, E = (cat T 0 (m + 1)).length := ⟨_, rfl⟩
                rw [← hEe] at hce hE
                have HEe : Hid (E = (cat T 0 (m + 1)).length) := hEe
                have i1 : (m : Int) + 1 < (k : Int) + 1 := by omega
                clear hEe hmC qA zz
                go_wp2
                go_round
                case rel => exact ⟨m + 1, hm1, by go_num, by rw [← HEe.out]; exact hE⟩
                case measure => simp [intOf]; omega
              · have hGe := hw.out m hm hmC (by omega)
                have eN : N = m := by rw [← HN.out, hGe]; simp
                have en : n = (cat T 0 m).length := by rw [← Hn.out, hGe]
                have hcm := HE1.out m hm
                rw [← en] at hcm
                have hgot : Hid (∀ j, j < m → ∃ b, ad = some ⟨b, 0, none⟩ ∧ w1.cell? ⟨b, j, none⟩ = some (.string (X j))) := fun j hj => by
                  obtain ⟨b, hb, hc⟩ := hcs.out j (by rw [eN]; exact hj)
                  refine ⟨b, hb, ?_⟩
                  rw [hc, hGe]
                  have e : ((List.range' 0 m).map T).getD j [] = T j := by simp [hj]
                  show some (Value.string ⟨(((List.range' 0 m).map T).getD j []).toArray⟩) = _
                  rw [e, hT'.out j, Lib.mk_data]
                have HXm : Hid (∀ j, j < m → w1.cell? ⟨bk, off + j, none⟩ = some (.string (X j))) := fun j hj => HX.out w1 b1' j (by omega)
                subst eN
                have hstep' : (k : Int) + 1 ≤ (N : Int) + 1 ∨ ((N : Int) + 1 < (k : Int) + 1 ∧ ∃ E : Nat, w1.cell? ⟨g, N + 1, none⟩ = some (.int .i64 E) ∧ C < E) := by
                  by_cases h : N + 1 ≤ k
                  · exact Or.inr ⟨by omega, (cat T 0 (N + 1)).length, HE1.out (N + 1) h, by omega⟩
                  · exact Or.inl (by omega)
                clear en hGe hw HN Hn hcs hT' HX HE HE1 qA zz hstep hmC
                rcases hstep' with i1 | ⟨i1, E, hce, i2⟩
                all_goals go_wp2
                all_goals (
                  go_loopw [13] (fun i wx => ∃ j : Nat, j ≤ N ∧ i = .int .i64 j ∧ ∃ q, wx = w1.drewN q) (fun i _ => N - (intOf i).toNat)
                  case atStart => exact ⟨0, by omega, rfl, 0, rfl⟩
                  case round =>
                    obtain ⟨j, hjN, rfl, q, rfl⟩ := hrel
                    by_cases hj : j < N
                    · have hj' : (j : Int) < (N : Int) := by omega
                      have hjl : (j : Int) < (len : Int) := by omega
                      obtain ⟨b, had, d1⟩ := hgot.out j hj
                      have d2 := HXm.out j hj
                      rw [had]
                      obtain ⟨t, ht⟩ : ∃ t : ByteArray, t = X j := ⟨_, rfl⟩
                      rw [← ht] at d1 d2
                      clear ht hgot HXm had
                      go_wp2
                      go_quiet (fail)
                      go_wp2
                      go_roundw
                      case rel => exact ⟨j + 1, by omega, by go_num, q + nq, rfl⟩
                      case measure => simp [intOf]; omega
                    · have hj' : (N : Int) ≤ (j : Int) := by omega
                      clear hgot HXm
                      go_wp2_with (go_at_call 7; refine (qa _ (by exact t1.drewN _)).mono ?_; rintro e w2 ⟨rfl, b2⟩)
                      go_ret
                      exact ⟨rfl, b1'.trans (Below.trans (below_drewN (Below.refl _ _) q) (b2.mono hsz1))⟩))
        · have hkl' : (len : Int) ≤ (k : Int) := by omega
          clear hexit
          all_goals (go_wp2_with (go_at_call 14; refine (qA _ zz wr (by exact tr)).mono ?_; rintro e w1 ⟨ad, cp, rfl, hcs, b1⟩))
          all_goals have t1 := Tab.below (by exact tr) b1
          all_goals have b1' := hbel.trans (b1.mono hsz)
          all_goals have hsz1 : base ≤ w1.heap.size := Nat.le_trans hsz b1.size
          all_goals have HE1 : Hid (∀ j, j ≤ k → w1.cell? ⟨g, j, none⟩ = some (.int .i64 ((cat T 0 j).length : Nat))) := fun j hj => (b1.cell (by exact hgl)).trans (HE.out j hj)
          all_goals (
            go_loop [12] (fun i => ∃ m : Nat, m ≤ k ∧ i = .int .i64 m ∧ (cat T 0 m).length ≤ C) (fun i => k - (intOf i).toNat)
            case atStart => exact ⟨0, by omega, rfl, by simp [cat]⟩
            case round =>
              obtain ⟨m, hm, rfl, hmC⟩ := hrel
              by_cases hstep : m + 1 ≤ k ∧ (cat T 0 (m + 1)).length ≤ C
              · obtain ⟨hm1, hE⟩ := hstep
                have hce := HE1.out (m + 1) hm1
                obtain ⟨E, hEe⟩ : ∃ E, E = (cat T 0 (m + 1)).length := ⟨_, rfl⟩
                rw [← hEe] at hce hE
                have HEe : Hid (E = (cat T 0 (m + 1)).length) := hEe
                have i1 : (m : Int) + 1 < (k : Int) + 1 := by omega
                clear hEe hmC qA zz
                go_wp2
                go_round
                case rel => exact ⟨m + 1, hm1, by go_num, by rw [← HEe.out]; exact hE⟩
                case measure => simp [intOf]; omega
              · have hGe := hw.out m hm hmC (by omega)
                have eN : N = m := by rw [← HN.out, hGe]; simp
                have en : n = (cat T 0 m).length := by rw [← Hn.out, hGe]
                have hcm := HE1.out m hm
                rw [← en] at hcm
                have hgot : Hid (∀ j, j < m → ∃ b, ad = some ⟨b, 0, none⟩ ∧ w1.cell? ⟨b, j, none⟩ = some (.string (X j))) := fun j hj => by
                  obtain ⟨b, hb, hc⟩ := hcs.out j (by rw [eN]; exact hj)
                  refine ⟨b, hb, ?_⟩
                  rw [hc, hGe]
                  have e : ((List.range' 0 m).map T).getD j [] = T j := by simp [hj]
                  show some (Value.string ⟨(((List.range' 0 m).map T).getD j []).toArray⟩) = _
                  rw [e, hT'.out j, Lib.mk_data]
                have HXm : Hid (∀ j, j < m → w1.cell? ⟨bk, off + j, none⟩ = some (.string (X j))) := fun j hj => HX.out w1 b1' j (by omega)
                subst eN
                have hstep' : (k : Int) + 1 ≤ (N : Int) + 1 ∨ ((N : Int) + 1 < (k : Int) + 1 ∧ ∃ E : Nat, w1.cell? ⟨g, N + 1, none⟩ = some (.int .i64 E) ∧ C < E) := by
                  by_cases h : N + 1 ≤ k
                  · exact Or.inr ⟨by omega, (cat T 0 (N + 1)).length, HE1.out (N + 1) h, by omega⟩
                  · exact Or.inl (by omega)
                clear en hGe hw HN Hn hcs hT' HX HE HE1 qA zz hstep hmC
                rcases hstep' with i1 | ⟨i1, E, hce, i2⟩
                all_goals go_wp2
                all_goals (
                  go_loopw [13] (fun i wx => ∃ j : Nat, j ≤ N ∧ i = .int .i64 j ∧ ∃ q, wx = w1.drewN q) (fun i _ => N - (intOf i).toNat)
                  case atStart => exact ⟨0, by omega, rfl, 0, rfl⟩
                  case round =>
                    obtain ⟨j, hjN, rfl, q, rfl⟩ := hrel
                    by_cases hj : j < N
                    · have hj' : (j : Int) < (N : Int) := by omega
                      have hjl : (j : Int) < (len : Int) := by omega
                      obtain ⟨b, had, d1⟩ := hgot.out j hj
                      have d2 := HXm.out j hj
                      rw [had]
                      obtain ⟨t, ht⟩ : ∃ t : ByteArray, t = X j := ⟨_, rfl⟩
                      rw [← ht] at d1 d2
                      clear ht hgot HXm had
                      go_wp2
                      go_quiet (fail)
                      go_wp2
                      go_roundw
                      case rel => exact ⟨j + 1, by omega, by go_num, q + nq, rfl⟩
                      case measure => simp [intOf]; omega
                    · have hj' : (N : Int) ≤ (j : Int) := by omega
                      clear hgot HXm
                      go_wp2_with (go_at_call 7; refine (qa _ (by exact t1.drewN _)).mono ?_; rintro e w2 ⟨rfl, b2⟩)
                      go_ret
                      exact ⟨rfl, b1'.trans (Below.trans (below_drewN (Below.refl _ _) q) (b2.mono hsz1))⟩))
end Go.Proofs.YtpokiijbhmmmaaaDoor.frameBack
