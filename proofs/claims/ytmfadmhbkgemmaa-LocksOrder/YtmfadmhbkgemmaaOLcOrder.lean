/-
  LocksOrder: who asks for a lock has it in the order of asking. No condition.
-/
import Derived.Test.YtmfadmhbkgemmaaOLcOrdP
import Derived.Test.YtmfadmhbkgemmaaOLcOpen
import Derived.Test.YtmfadmhbkgemmaaOLcQueue
namespace Go.Proofs.Ytmfadmhbkgemmaa
open Go.RowKit

theorem OrdP.few {i : Nat} {l : List Lk} {q : List Int} (h : OrdP i l q) : q.length ≤ i := by
  rcases h.ex with ⟨_, _, rfl⟩ | ⟨_, hh, wr, ws, _, h2, _, _, h3⟩
  · exact Nat.zero_le _
  · rw [← h2, List.length_map]
    omega
theorem OrdJ.few {n : Nat} {l : List Lk} {q : List Int} (h : OrdJ n l q) : q.length ≤ 50 := by
  rcases h.ex with ⟨_, rfl⟩ | ⟨hh, wr, ws, _, h2, h3⟩
  · exact Nat.zero_le _
  · rw [← h2, List.length_map]
    omega
theorem ordJ_lt {n : Nat} {l : List Lk} {q : List Int} (h : OrdJ n l q) {a : Int} {h' : List Int} {wr : Bool} (hh : holL l kaN = (a :: h', wr)) (ok : LcOk l) : n < 50 := by
  rcases h.ex with ⟨rfl, rfl⟩ | ⟨hd, wd, ws, rfl, hq, hl⟩
  · cases hh
  · have hne : 0 < hd.length := (ok.each _ List.mem_cons_self).ne
    omega
/-- While they ask: the locks, and a row of one's own. -/
structure OrdV (w wr : World) (D : Nat) (S : Nat → Prop) (N : Nat) (c : Int) (l : List Lk) (u : Value) (q : List Int) : Prop where
  lo : LcW wr w.heap.size D S N c l
  bel : Below w.heap.size w wr
  row : wr.ownsRow w.heap.size 3 1 u q.length (rowL intC q)
  sep : ∀ g, u.ownBlock = some g → ¬ S g
section
variable {w wr w' W4 : World} {D N N' : Nat} {S S' : Nat → Prop} {c c' : Int} {l l' : List Lk} {u u' : Value} {q : List Int} {x : Int}
theorem OrdV.got (h : OrdV w wr D S N c l u q) (hl : LcW w' w.heap.size D S' N' c' l') (k : Kept wr w' S S') : OrdV w w' D S' N' c' l' u q :=
  ⟨hl, h.lo.lowk k h.bel (Nat.le_refl _), own_keep h.row fun g e => k.kept g (h.row.lt g e).2 (h.sep g e), fun g e hs => by
    rcases k.old g hs with h1 | h1
    · exact h.sep g e h1
    · have := (h.row.lt g e).2
      omega⟩
theorem OrdV.app (h : OrdV w wr D S N c l u q) (b4 : Below wr.heap.size wr W4) (o : w'.ownsRow w.heap.size 3 1 u' (q.length + 1) (rowL intC q ++ rowL intC [x])) (a : Appended w.heap.size W4 w' u u') : OrdV w w' D S N c l u' (q ++ [x]) := by
  have hs4 := b4.size
  refine ⟨h.lo.keep fun g hg => ?_, (bmm h.bel h.bel.size b4).trans a.below, ?_, fun g e hs => ?_⟩
  · have hlt := (h.lo.bd g hg).2
    exact (a.rest g (by omega) (fun e => h.sep g e.symm hg)).trans (b4.block g hlt)
  · rw [rowL_append, List.length_append, List.length_singleton]
    exact o
  · rcases a.lies with e1 | e1
    · exact h.sep g (e1 ▸ e) hs
    · rw [e1] at e
      have e2 : W4.heap.size = g := Option.some.inj e
      have := (h.lo.bd g hs).2
      omega
/-- While they let go. -/
structure OrdU (w wr : World) (D : Nat) (S : Nat → Prop) (c : Int) (l : List Lk) (u : Value) (q : List Int) : Prop where
  lo : LcW wr w.heap.size D S 50 c l
  bel : Below w.heap.size w wr
  row : OwnRow intC wr (fun b => ¬ S b) D u q
theorem OrdV.toU (h : OrdV w wr D S N c l u q) (hn : N ≤ 50) : OrdU w wr D S c l u q :=
  ⟨h.lo.up hn, h.bel, RowAt.own (k := 1) (T := 3) intC_len h.row, fun bk off m cap _ e => by
    have hb := h.sep bk (by rw [e]; rfl)
    exact ⟨hb, fun e2 => hb (e2 ▸ h.lo.inD)⟩⟩
theorem OrdU.got (h : OrdU w wr D S c l u q) (hl : LcW w' w.heap.size D S' 50 c' l') (k : Kept wr w' S S') : OrdU w w' D S' c' l' u q := by
  have hlt : ∀ bk off n cap, 0 < n → u = .slice (some ⟨bk, off, none⟩) n cap → bk < wr.heap.size := fun bk off n cap h0 e => h.row.at'.lt h0 e
  refine ⟨hl, h.lo.lowk k h.bel (Nat.le_refl _), h.row.at'.keep k.size fun bk off n cap h0 e => k.kept bk (hlt bk off n cap h0 e) (h.row.own bk off n cap h0 e).1, fun bk off n cap h0 e => ⟨fun e2 => ?_, (h.row.own bk off n cap h0 e).2⟩⟩
  rcases k.old bk e2 with e3 | e3
  · exact (h.row.own bk off n cap h0 e).1 e3
  · have := hlt bk off n cap h0 e
    omega
theorem OrdU.fresh (h : OrdU w wr D S c l u q) (b : Below wr.heap.size wr w') : OrdU w w' D S c l u q := h.got (h.lo.fresh b) (Kept.of b)
theorem OrdU.row' {q' : List Int} (h : OrdU w wr D S c l u q) (r : OwnRow intC wr (fun b => ¬ S b) D u' q') : OrdU w wr D S c l u' q' := ⟨h.lo, h.bel, r⟩
end
set_option maxHeartbeats 16000000 in
set_option maxRecDepth 100000 in
theorem lorder_walk (w : World) (av : Option Addr) (cv : Nat) (readers : List Bool) (r0 : RowAt blC w (.slice av readers.length cv) readers) : Calls Try.prog 5 #[.slice av readers.length cv] w fun e w' => e = .returned (.bool true) ∧ Below w.heap.size w w' := by
  obtain ⟨L, hL⟩ : ∃ L, L = readers.length := ⟨_, rfl⟩
  rw [← hL] at r0 ⊢
  obtain ⟨i0, hi, hz0, hz1, hz2⟩ := info_parts infoI
  have HR : Hid (RowAt blC w (.slice av L cv) readers ∧ L = readers.length) := (show Hid _ from (⟨r0, hL⟩ : _ ∧ _))
  clear r0 hL
  go_enter Try.func5, Try.ntmps5
  go_upto_region 4 with (go_at_call 7; refine Calls.mono (lnew_any w) ?_; rintro r w0 ⟨D, S0, rfl, h0, b0⟩; have H0 : Hid (OrdV w w0 D S0 0 0 [] (.slice none 0 0) []) := ⟨h0, b0, World.ownsRow_nil _ _ _ _, fun g e => (by cases e)⟩; clear h0 b0)
  go_wp2
  go_loopw [4, 5] (fun s4 s5 wr => ∃ (i : Nat) (q : List Int) (c : Int) (l : List Lk) (S : Nat → Prop), s5 = .int .i64 (i : Int) ∧ i ≤ L ∧ i ≤ 50 ∧ Hid (OrdV w wr D S i c l s4 q ∧ OrdP i l q ∧ (i = 0 → c = 0))) (fun _ s5 _ => 50 - (intOf s5).toNat)
  case atStart => exact ⟨0, [], 0, [], S0, rfl, Nat.zero_le _, by decide, (show Hid _ from (⟨H0.out, ⟨Or.inl ⟨rfl, rfl, rfl⟩⟩, fun _ => rfl⟩ : _ ∧ _ ∧ _))⟩
  case round =>
    obtain ⟨i, q, c, l, S, rfl, hi1, hi2, HI⟩ := hrel
    by_cases hL : i < L
    · have t1 : decide ((i : Int) < (L : Int)) = true := decide_eq_true (by omega)
      have t1b : i < L := hL
      by_cases h50 : i < 50
      · have t2 : decide ((i : Int) < 50) = true := decide_eq_true (by omega)
        have HG : Hid (i < L ∧ i < 50) := ⟨hL, h50⟩
        have hil : i < readers.length := by have := HR.out.2; omega
        obtain ⟨bk, off, cap, ev, _, _, hc⟩ := HR.out.1.cells blC_len (by omega)
        have cb : wr.cell? ⟨bk, off + i, none⟩ = some (.bool readers[i]) := by
          have h1 := hc i hil 0 (.bool readers[i]) (by decide) rfl
          have hbk : bk < w.heap.size := HR.out.1.lt (by omega) ev
          simp only [Nat.mul_one, Nat.add_zero] at h1
          exact (World.cell?_of_block (HI.out.1.bel.block bk hbk)).trans h1
        simp only [Value.slice.injEq] at ev
        obtain ⟨ev, hx1, hx2⟩ := ev
        clear hx1 hx2
        obtain ⟨b, hb⟩ : ∃ b, b = readers[i] := ⟨_, rfl⟩
        rw [← hb] at cb
        have q1 : IntKind.i64.wrap ((i : Int) + 1) = (i : Int) + 1 := by rw [IntKind.wrap_i64]; omega
        have hfew := HI.out.2.1.few
        have HF : Hid (q.length ≤ 50) := (show q.length ≤ 50 by omega)
        have hask := ord_ask HI.out.2.1 HI.out.1.lo.ok HI.out.2.2 b (c := c)
        have hcall := HI.out.1.lo.ask (by omega) (ordK b) ((i : Int) + 1) 1 kaN 0 ⟨by omega, by omega⟩ ⟨by decide, by decide⟩ (by decide)
        obtain ⟨qa, hqa⟩ : ∃ qa, qa = askL c l (ordK b) ((i : Int) + 1) 1 kaN := ⟨_, rfl⟩
        rw [← hqa] at hask hcall
        obtain ⟨c', l', gs, wt⟩ := qa
        clear hqa hc hfew hil hb hL h50 hi1 hi2
        subst ev
        rcases hask with ⟨rr, e1, P⟩ | ⟨e1, P⟩
        · cases b
          · obtain rfl : gs = [rr] := congrArg Prod.fst e1
            obtain rfl : wt = false := congrArg Prod.snd e1
            have HC : Hid (Calls Try.prog 10 #[.pointer (some ⟨D, 0, none⟩), .agg (cmA 5 ((i : Int) + 1) 1 kaN 0)] wr (AnsP wr w.heap.size D S (i + 1) (c', l', [rr], false))) := hcall
            have HP : Hid (OrdP (i + 1) l' q) := P
            clear hcall P e1
            go_upto_region 12 with (go_at_call 10; refine Calls.mono HC.out ?_; rintro r w3 ⟨x3, S3, rfl, r3, h3, k3, s3⟩; have V3 : Hid (OrdV w w3 D S3 (i + 1) c' l' u4 q) := HI.out.1.got h3 k3; obtain ⟨pg, qg, rfl⟩ := r3.form; clear r3 h3 k3 s3)
            go_wp2
            go_roundw
            case rel => exact ⟨i + 1, _, _, _, _, by go_num, by have := HG.out; omega, by have := HG.out; omega, (show Hid _ from (⟨V3.out, HP.out, fun e => by omega⟩ : _ ∧ _ ∧ _))⟩
            case measure => have := HG.out; simp [intOf]; omega
          · obtain rfl : gs = [rr] := congrArg Prod.fst e1
            obtain rfl : wt = false := congrArg Prod.snd e1
            have HC : Hid (Calls Try.prog 10 #[.pointer (some ⟨D, 0, none⟩), .agg (cmA 7 ((i : Int) + 1) 1 kaN 0)] wr (AnsP wr w.heap.size D S (i + 1) (c', l', [rr], false))) := hcall
            have HP : Hid (OrdP (i + 1) l' q) := P
            clear hcall P e1
            go_upto_region 12 with (go_at_call 10; refine Calls.mono HC.out ?_; rintro r w3 ⟨x3, S3, rfl, r3, h3, k3, s3⟩; have V3 : Hid (OrdV w w3 D S3 (i + 1) c' l' u4 q) := HI.out.1.got h3 k3; obtain ⟨pg, qg, rfl⟩ := r3.form; clear r3 h3 k3 s3)
            go_wp2
            go_roundw
            case rel => exact ⟨i + 1, _, _, _, _, by go_num, by have := HG.out; omega, by have := HG.out; omega, (show Hid _ from (⟨V3.out, HP.out, fun e => by omega⟩ : _ ∧ _ ∧ _))⟩
            case measure => have := HG.out; simp [intOf]; omega
        · cases b
          · obtain rfl : gs = [] := congrArg Prod.fst e1
            obtain rfl : wt = true := congrArg Prod.snd e1
            have HC : Hid (Calls Try.prog 10 #[.pointer (some ⟨D, 0, none⟩), .agg (cmA 5 ((i : Int) + 1) 1 kaN 0)] wr (AnsP wr w.heap.size D S (i + 1) (c', l', [], true))) := hcall
            have HP : Hid (OrdP (i + 1) l' (q ++ [(i : Int) + 1])) := P
            clear hcall P e1
            go_upto_region 12 with (go_at_call 10; refine Calls.mono HC.out ?_; rintro r w3 ⟨x3, S3, rfl, r3, h3, k3, s3⟩; have V3 : Hid (OrdV w w3 D S3 (i + 1) c' l' u4 q) := HI.out.1.got h3 k3; obtain ⟨pg, qg, rfl⟩ := r3.form; clear r3 h3 k3 s3)
            go_wp2_with (at_builtin; refine wpList_app_row (k := 1) (enc := intC) (l := [(i : Int) + 1]) rfl (.tmp 47) (.tmp 50) 41 3 rfl i0 _ 8 Try.underlying41 hi hz0 hz1 hz2 rfl (by decide) intC_len intC_one rfl rfl (V3.out.row.alloc _) (RowAt.built (heap_alloc_new w3 _) rfl 1 rfl rfl) (by have := V3.out.bel.size; simp; omega) (by have := HF.out; simp; omega) (by have := HF.out; simp; omega) ?_; intro x5 w5 o5 a5; have V5 : Hid (OrdV w w5 D S3 (i + 1) c' l' x5 (q ++ [(i : Int) + 1])) := V3.out.app ((Below.refl _ w3).alloc (Nat.le_refl _) _) o5 a5; clear o5 a5)
            go_roundw
            case rel => exact ⟨i + 1, _, _, _, _, by go_num, by have := HG.out; omega, by have := HG.out; omega, (show Hid _ from (⟨V5.out, HP.out, fun e => by omega⟩ : _ ∧ _ ∧ _))⟩
            case measure => have := HG.out; simp [intOf]; omega
          · obtain rfl : gs = [] := congrArg Prod.fst e1
            obtain rfl : wt = true := congrArg Prod.snd e1
            have HC : Hid (Calls Try.prog 10 #[.pointer (some ⟨D, 0, none⟩), .agg (cmA 7 ((i : Int) + 1) 1 kaN 0)] wr (AnsP wr w.heap.size D S (i + 1) (c', l', [], true))) := hcall
            have HP : Hid (OrdP (i + 1) l' (q ++ [(i : Int) + 1])) := P
            clear hcall P e1
            go_upto_region 12 with (go_at_call 10; refine Calls.mono HC.out ?_; rintro r w3 ⟨x3, S3, rfl, r3, h3, k3, s3⟩; have V3 : Hid (OrdV w w3 D S3 (i + 1) c' l' u4 q) := HI.out.1.got h3 k3; obtain ⟨pg, qg, rfl⟩ := r3.form; clear r3 h3 k3 s3)
            go_wp2_with (at_builtin; refine wpList_app_row (k := 1) (enc := intC) (l := [(i : Int) + 1]) rfl (.tmp 47) (.tmp 50) 41 3 rfl i0 _ 8 Try.underlying41 hi hz0 hz1 hz2 rfl (by decide) intC_len intC_one rfl rfl (V3.out.row.alloc _) (RowAt.built (heap_alloc_new w3 _) rfl 1 rfl rfl) (by have := V3.out.bel.size; simp; omega) (by have := HF.out; simp; omega) (by have := HF.out; simp; omega) ?_; intro x5 w5 o5 a5; have V5 : Hid (OrdV w w5 D S3 (i + 1) c' l' x5 (q ++ [(i : Int) + 1])) := V3.out.app ((Below.refl _ w3).alloc (Nat.le_refl _) _) o5 a5; clear o5 a5)
            go_roundw
            case rel => exact ⟨i + 1, _, _, _, _, by go_num, by have := HG.out; omega, by have := HG.out; omega, (show Hid _ from (⟨V5.out, HP.out, fun e => by omega⟩ : _ ∧ _ ∧ _))⟩
            case measure => have := HG.out; simp [intOf]; omega
      · have t2 : decide ((i : Int) < 50) = false := decide_eq_false (by omega)
        have HI2 : Hid (i ≤ 50) := hi2
        clear hi1 hi2 H0
        go_wp2
        go_loopw [4, 9] (fun s4 s9 wr => ∃ (n : Nat) (q : List Int) (c : Int) (l : List Lk) (S : Nat → Prop), s9 = .int .i64 (n : Int) ∧ n ≤ 51 ∧ Hid (OrdU w wr D S c l s4 q ∧ OrdJ n l q)) (fun _ s9 _ => 100 - (intOf s9).toNat)
        case atStart => exact ⟨0, q, c, l, S, rfl, by decide, (show Hid _ from (⟨HI.out.1.toU HI2.out, HI.out.2.1.start HI2.out⟩ : _ ∧ _))⟩
        case round =>
          clear HI HI2
          obtain ⟨n, q, c, l, S, rfl, hn, HI⟩ := hrel
          have t1 : decide ((n : Int) < 100) = true := decide_eq_true (by omega)
          have hhold := HI.out.1.lo.hold (nm := kaN) (by decide) (by decide)
          rcases ordJ_hold HI.out.2 HI.out.1.lo.ok with ⟨e, rfl⟩ | ⟨a, h', wt, e, _⟩
          · rw [e] at hhold
            have HC : Hid (Calls Try.prog 16 #[.pointer (some ⟨D, 0, none⟩), .string kaN] _ (HolP _ ([], false))) := hhold
            have BW : Hid _ := HI.out.1.bel
            obtain ⟨pq, cq, rfl⟩ := HI.out.1.row.at'.none0
            clear hhold e
            go_wp2_with (first
              | (go_at_call 18; refine Calls.mono (awake_any _) ?_; rintro r w7 ⟨rfl, b7⟩; have B7 : Hid _ := bmm B6.out B6.out.size b7; clear b7)
              | (go_at_call 16; refine Calls.mono HC.out ?_; rintro r w6 ⟨uh, rfl, rh, b6⟩; obtain ⟨ph, qh, eh, _⟩ := rh.ex; change uh = .slice ph 0 qh at eh; subst eh; have B6 : Hid _ := bmm BW.out BW.out.size b6; clear b6 rh))
            go_ret
            exact ⟨rfl, B7.out⟩
          · rw [e] at hhold
            have hn50 := ordJ_lt HI.out.2 e HI.out.1.lo.ok
            obtain ⟨gs, q', e1, e2, hJ⟩ := ord_rel (c := c) HI.out.2 HI.out.1.lo.ok e
            have HN : Hid (n < 50) := hn50
            have HC : Hid (Calls Try.prog 16 #[.pointer (some ⟨D, 0, none⟩), .string kaN] _ (HolP _ (a :: h', wt))) := hhold
            have HREL : Hid (∀ y S, LcW y w.heap.size D S 50 c l → okI a → Calls Try.prog 12 #[.pointer (some ⟨D, 0, none⟩), .agg (cmA (ordR wt) a 2 kaN 0)] y (RepP y w.heap.size D S 50 (relL c l (ordR wt) a 2 kaN))) := fun y S h ha => h.rel (by decide) (ordR wt) a 2 kaN 0 ha (by decide)
            obtain ⟨qa, hqa⟩ : ∃ qa, qa = relL c l (ordR wt) a 2 kaN := ⟨_, rfl⟩
            rw [← hqa] at e1 hJ HREL
            obtain ⟨c', l', gg⟩ := qa
            obtain rfl : gg = ⟨a, 2, 0, 0, 0⟩ :: gs := e1
            have HJ : Hid (OrdJ (n + 1) l' q' ∧ gs.map (·.session) ++ q' = q) := ⟨hJ, e2⟩
            have HGL : Hid (gs.length ≤ 50) := (by have h9 := HI.out.2.few; rw [← e2, List.length_append, List.length_map] at h9; omega : gs.length ≤ 50)
            clear hhold e hn50 e2 hJ hqa hn
            go_upto_region 20 with (go_at_call 16; refine Calls.mono HC.out ?_; rintro r w6 ⟨uh, rfl, rh, b6⟩; have RH : Hid (IntsAt w6 uh (a :: h')) := rh; have U6 : Hid (OrdU w w6 D S c l u4 q) := HI.out.1.fresh b6; clear b6 rh)
            obtain ⟨ph, qh, eh, _, hx | ⟨bh, oh, rfl, _, hh⟩⟩ := RH.out.ex
            · exact absurd hx (by simp)
            have zh : w6.cell? ⟨bh, oh, none⟩ = some (.int .i64 a) := hh 0 (by simp)
            have hai : okI a := RH.out.lo a List.mem_cons_self
            have HCR : Hid _ := HREL.out w6 S U6.out.lo hai
            obtain ⟨nh, hnh⟩ : ∃ nh, nh = h'.length := ⟨_, rfl⟩
            rw [List.length_cons, ← hnh] at eh
            subst eh
            have t2 : (((nh + 1 : Nat) : Int) == 0) = false := by rw [beq_eq_false_iff_ne]; omega
            have t3 : 0 < nh + 1 := Nat.succ_pos _
            clear hh hnh hai HREL RH
            cases wt
            · go_upto_region 26 with (go_at_call 12; refine Calls.mono HCR.out ?_; rintro r w5 ⟨x5, S5, rfl, r5, h5, k5, s5⟩; have R5 : Hid (RowAt rpC w5 x5 (⟨a, 2, 0, 0, 0⟩ :: gs)) := r5; have U5 : Hid (OrdU w w5 D S5 c' l' u4 q) := U6.out.got h5 k5; clear r5 h5 k5 s5)
              obtain ⟨bg, og, kg, eg, _, _, hg⟩ := R5.out.cells rpC_len (by simp)
              have z2 : w5.cell? ⟨bg, og + 2, none⟩ = some (.int .i64 0) := hg 0 (by simp) 2 _ (by decide) rfl
              obtain ⟨ng, hng⟩ : ∃ ng, ng = gs.length := ⟨_, rfl⟩
              rw [List.length_cons, ← hng] at eg
              subst eg
              have HNG : Hid (ng = gs.length ∧ ng ≤ 50) := ⟨hng, by rw [hng]; exact HGL.out⟩
              have t4 : decide (((ng + 1 : Nat) : Int) < 1) = false := decide_eq_false (by omega)
              have t5 : 0 < ng + 1 := Nat.succ_pos _
              clear hg hng zh t2 t3
              go_wp2
              go_loopw [4, 14] (fun s4 s14 wr2 => ∃ (k : Nat) (q2 : List Int), s14 = .int .i64 ((k + 1 : Nat) : Int) ∧ k ≤ ng ∧ Hid (OrdU w wr2 D S5 c' l' s4 q2 ∧ RowAt rpC wr2 (.slice (some ⟨bg, og, none⟩) (ng + 1) kg) (⟨a, 2, 0, 0, 0⟩ :: gs) ∧ (gs.drop k).map (·.session) ++ q' = q2)) (fun _ s14 _ => ng + 1 - (intOf s14).toNat)
              case atStart => exact ⟨0, q, rfl, Nat.zero_le _, (show Hid _ from (⟨U5.out, R5.out, HJ.out.2⟩ : _ ∧ _ ∧ _))⟩
              case round =>
                clear z2 t4 t5
                obtain ⟨k, q2, rfl, hk', HK⟩ := hrel
                by_cases hk : k < ng
                · have t6 : decide (((k + 1 : Nat) : Int) < ((ng + 1 : Nat) : Int)) = true := decide_eq_true (by omega)
                  have hkg : k < gs.length := by have := HNG.out.1; omega
                  have hk50 : k < 50 := by have := HNG.out.2; omega
                  have hq2 : gs[k].session :: ((gs.drop (k + 1)).map (·.session) ++ q') = q2 := by
                    rw [← HK.out.2.2, List.drop_eq_getElem_cons hkg]
                    rfl
                  subst hq2
                  obtain ⟨q3, hq3⟩ : ∃ q3, q3 = (gs.drop (k + 1)).map (·.session) ++ q' := ⟨_, rfl⟩
                  obtain ⟨sx, hsx⟩ : ∃ sx, sx = gs[k].session := ⟨_, rfl⟩
                  have hU := HK.out.1
                  rw [← hq3, ← hsx] at hU
                  obtain ⟨bq, oq, kq, eq, _, _, hq⟩ := hU.row.at'.cells intC_len (by simp)
                  have cq := hq 0 (by simp) 0 (.int .i64 sx) (by decide) rfl
                  obtain ⟨bg', og', kg', eg, _, _, hg⟩ := HK.out.2.1.cells rpC_len (by simp)
                  simp only [Value.slice.injEq, Option.some.injEq, Addr.mk.injEq] at eg
                  obtain ⟨⟨rfl, rfl, _⟩, _, rfl⟩ := eg
                  have cg := hg (k + 1) (by simp; omega) 0 (.int .i64 sx) (by decide) (by rw [hsx]; rfl)
                  simp only [Nat.add_zero] at cg
                  obtain ⟨u8, hsl, hu8⟩ := hU.row.from 41 3 i0 Try.underlying41 (by kernel_rfl) hi hz1 intC_len 1 (by simp)
                  have hu8' := hu8
                  rw [show (sx :: q3).drop 1 = q3 from rfl] at hu8'
                  obtain ⟨a8, c8, hu9⟩ := hu8'.at'.form
                  subst hu9
                  obtain ⟨m2, hm2⟩ : ∃ m2, m2 = q3.length := ⟨_, rfl⟩
                  rw [List.length_cons, ← hm2] at eq
                  rw [← hm2] at hsl
                  subst eq
                  have hsl' : ∀ w', (Instr.sliceAt 41 (.slice (some ⟨bq, oq, none⟩) (m2 + 1) kq) (some (.int .i64 1)) none none).run Try.prog w' = .ok (.slice a8 m2 c8) w' := hsl
                  have UN : Hid (OrdU w _ D S5 c' l' (.slice a8 m2 c8) ((gs.drop (k + 1)).map (·.session) ++ q')) := (show Hid _ from (by rw [hm2, ← hq3]; exact hU.row' hu8'))
                  have GN : Hid _ := HK.out.2.1
                  have DW : Hid (Below wr.heap.size wr wr.drew) := Below.drew (Below.refl _ _)
                  have t7 : (((m2 + 1 : Nat) : Int) == 0) = false := by rw [beq_eq_false_iff_ne]; omega
                  have t8 : (sx != sx) = false := by simp
                  have t9 : k + 1 < ng + 1 := by omega
                  have t10 : 0 < m2 + 1 := Nat.succ_pos _
                  clear hsl hu8 hu8' hq hg hU hq3 hsx hm2
                  go_upto_region 31 with fail
                  refine wp_region_held_drew (S := (fun w' : World => w'.cell? ⟨bg, og + (k + 1) * 5, none⟩ = some (.int .i64 sx) ∧ w'.cell? ⟨bq, oq, none⟩ = some (.int .i64 sx))) (by kernel_rfl) ?_ (fun hHeld0 => ?_)
                  · exact ⟨cg, cq⟩
                  refine tk0 (.slice (some ⟨bq, oq, none⟩) (m2 + 1) kq) (by kernel_rfl) (by kernel_rfl) (by kernel_rfl) (fun _ _ _ h => h) rfl (fun w hSw => by (try dsimp only at hSw); obtain ⟨hS1, hS2⟩ := hSw; go_simp) (by assumption) ?_
                  try simp only [Act.put, List.setIfInBounds_toArray, List.set_cons_zero, List.set_cons_succ]
                  refine tk1 (.int .i64 ((m2 + 1 : Nat) : Int)) (by kernel_rfl) (by kernel_rfl) (by kernel_rfl) (fun _ _ _ h => h) rfl (fun w hSw => by (try dsimp only at hSw); obtain ⟨hS1, hS2⟩ := hSw; go_simp) (by assumption) ?_
                  try simp only [Act.put, List.setIfInBounds_toArray, List.set_cons_zero, List.set_cons_succ]
                  refine tk2 (.bool false) (by kernel_rfl) (by kernel_rfl) (by kernel_rfl) (fun _ _ _ h => h) rfl (fun w hSw => by (try dsimp only at hSw); obtain ⟨hS1, hS2⟩ := hSw; go_simp; omega) (by assumption) ?_
                  try simp only [Act.put, List.setIfInBounds_toArray, List.set_cons_zero, List.set_cons_succ]
                  refine tk3 (.bool false) (by kernel_rfl) (by kernel_rfl) (by kernel_rfl) (fun _ _ _ h => h) rfl (fun w hSw => by (try dsimp only at hSw); obtain ⟨hS1, hS2⟩ := hSw; go_simp) (by assumption) ?_
                  try simp only [Act.put, List.setIfInBounds_toArray, List.set_cons_zero, List.set_cons_succ]
                  refine tk4 (.slice (some ⟨bg, og, none⟩) (ng + 1) kg) (by kernel_rfl) (by kernel_rfl) (by kernel_rfl) (fun _ _ _ h => h) rfl (fun w hSw => by (try dsimp only at hSw); obtain ⟨hS1, hS2⟩ := hSw; go_simp) (by assumption) ?_
                  try simp only [Act.put, List.setIfInBounds_toArray, List.set_cons_zero, List.set_cons_succ]
                  refine tk5 (.int .i64 ((k + 1 : Nat) : Int)) (by kernel_rfl) (by kernel_rfl) (by kernel_rfl) (fun _ _ _ h => h) rfl (fun w hSw => by (try dsimp only at hSw); obtain ⟨hS1, hS2⟩ := hSw; go_simp) (by assumption) ?_
                  try simp only [Act.put, List.setIfInBounds_toArray, List.set_cons_zero, List.set_cons_succ]
                  refine tk6 (.pointer (some ⟨bg, og + (k + 1) * 5, none⟩)) (by kernel_rfl) (by kernel_rfl) (by kernel_rfl) (fun _ _ _ h => h) rfl (fun w hSw => by (try dsimp only at hSw); obtain ⟨hS1, hS2⟩ := hSw; go_simp; intro h; omega) (by assumption) ?_
                  try simp only [Act.put, List.setIfInBounds_toArray, List.set_cons_zero, List.set_cons_succ]
                  refine tk7 (.pointer (some ⟨bg, og + (k + 1) * 5, none⟩)) (by kernel_rfl) (by kernel_rfl) (by kernel_rfl) (fun _ _ _ h => h) rfl (fun w hSw => by (try dsimp only at hSw); obtain ⟨hS1, hS2⟩ := hSw; go_simp) (by assumption) ?_
                  try simp only [Act.put, List.setIfInBounds_toArray, List.set_cons_zero, List.set_cons_succ]
                  refine tk8 (.int .i64 sx) (by kernel_rfl) (by kernel_rfl) (by kernel_rfl) (fun _ _ _ h => h) rfl (fun w hSw => by (try dsimp only at hSw); obtain ⟨hS1, hS2⟩ := hSw; go_simp) (by assumption) ?_
                  try simp only [Act.put, List.setIfInBounds_toArray, List.set_cons_zero, List.set_cons_succ]
                  refine tk9 (.slice (some ⟨bq, oq, none⟩) (m2 + 1) kq) (by kernel_rfl) (by kernel_rfl) (by kernel_rfl) (fun _ _ _ h => h) rfl (fun w hSw => by (try dsimp only at hSw); obtain ⟨hS1, hS2⟩ := hSw; go_simp) (by assumption) ?_
                  try simp only [Act.put, List.setIfInBounds_toArray, List.set_cons_zero, List.set_cons_succ]
                  refine tk10 (.pointer (some ⟨bq, oq, none⟩)) (by kernel_rfl) (by kernel_rfl) (by kernel_rfl) (fun _ _ _ h => h) rfl (fun w hSw => by (try dsimp only at hSw); obtain ⟨hS1, hS2⟩ := hSw; go_simp) (by assumption) ?_
                  try simp only [Act.put, List.setIfInBounds_toArray, List.set_cons_zero, List.set_cons_succ]
                  refine tk11 (.int .i64 sx) (by kernel_rfl) (by kernel_rfl) (by kernel_rfl) (fun _ _ _ h => h) rfl (fun w hSw => by (try dsimp only at hSw); obtain ⟨hS1, hS2⟩ := hSw; go_simp) (by assumption) ?_
                  try simp only [Act.put, List.setIfInBounds_toArray, List.set_cons_zero, List.set_cons_succ]
                  refine tk12 (.bool false) (by kernel_rfl) (by kernel_rfl) (by kernel_rfl) (fun _ _ _ h => h) rfl (fun w hSw => by (try dsimp only at hSw); obtain ⟨hS1, hS2⟩ := hSw; go_simp) (by assumption) ?_
                  try simp only [Act.put, List.setIfInBounds_toArray, List.set_cons_zero, List.set_cons_succ]
                  refine tk13 (.bool false) (by kernel_rfl) (by kernel_rfl) (by kernel_rfl) (fun _ _ _ h => h) rfl (fun w hSw => by (try dsimp only at hSw); obtain ⟨hS1, hS2⟩ := hSw; go_simp) (by assumption) ?_
                  try simp only [Act.put, List.setIfInBounds_toArray, List.set_cons_zero, List.set_cons_succ]
                  refine wpAnyH_done (by kernel_rfl) ?_ _
                  go_wp2
                  go_roundw
                  case rel => exact ⟨k + 1, _, by go_num, hk, (show Hid _ from (⟨UN.out.fresh DW.out, GN.out.fresh DW.out, rfl⟩ : _ ∧ _ ∧ _))⟩
                  case measure => simp [intOf]; omega
                · have t6 : decide (((k + 1 : Nat) : Int) < ((ng + 1 : Nat) : Int)) = false := decide_eq_false (by omega)
                  have HK2 : Hid (k = gs.length) := (by have := HNG.out.1; omega : k = gs.length)
                  have hn2 := HN.out
                  clear hk'
                  go_wp2
                  go_roundw
                  case rel =>
                    have hq := HK.out.2.2
                    rw [HK2.out, List.drop_length] at hq
                    obtain rfl : q' = _ := hq
                    exact ⟨n + 1, _, _, _, _, by go_num, by omega, (show Hid _ from (⟨HK.out.1, HJ.out.1⟩ : _ ∧ _))⟩
                  case measure => simp [intOf]; omega
            · go_upto_region 26 with (go_at_call 12; refine Calls.mono HCR.out ?_; rintro r w5 ⟨x5, S5, rfl, r5, h5, k5, s5⟩; have R5 : Hid (RowAt rpC w5 x5 (⟨a, 2, 0, 0, 0⟩ :: gs)) := r5; have U5 : Hid (OrdU w w5 D S5 c' l' u4 q) := U6.out.got h5 k5; clear r5 h5 k5 s5)
              obtain ⟨bg, og, kg, eg, _, _, hg⟩ := R5.out.cells rpC_len (by simp)
              have z2 : w5.cell? ⟨bg, og + 2, none⟩ = some (.int .i64 0) := hg 0 (by simp) 2 _ (by decide) rfl
              obtain ⟨ng, hng⟩ : ∃ ng, ng = gs.length := ⟨_, rfl⟩
              rw [List.length_cons, ← hng] at eg
              subst eg
              have HNG : Hid (ng = gs.length ∧ ng ≤ 50) := ⟨hng, by rw [hng]; exact HGL.out⟩
              have t4 : decide (((ng + 1 : Nat) : Int) < 1) = false := decide_eq_false (by omega)
              have t5 : 0 < ng + 1 := Nat.succ_pos _
              clear hg hng zh t2 t3
              go_wp2
              go_loopw [4, 14] (fun s4 s14 wr2 => ∃ (k : Nat) (q2 : List Int), s14 = .int .i64 ((k + 1 : Nat) : Int) ∧ k ≤ ng ∧ Hid (OrdU w wr2 D S5 c' l' s4 q2 ∧ RowAt rpC wr2 (.slice (some ⟨bg, og, none⟩) (ng + 1) kg) (⟨a, 2, 0, 0, 0⟩ :: gs) ∧ (gs.drop k).map (·.session) ++ q' = q2)) (fun _ s14 _ => ng + 1 - (intOf s14).toNat)
              case atStart => exact ⟨0, q, rfl, Nat.zero_le _, (show Hid _ from (⟨U5.out, R5.out, HJ.out.2⟩ : _ ∧ _ ∧ _))⟩
              case round =>
                clear z2 t4 t5
                obtain ⟨k, q2, rfl, hk', HK⟩ := hrel
                by_cases hk : k < ng
                · have t6 : decide (((k + 1 : Nat) : Int) < ((ng + 1 : Nat) : Int)) = true := decide_eq_true (by omega)
                  have hkg : k < gs.length := by have := HNG.out.1; omega
                  have hk50 : k < 50 := by have := HNG.out.2; omega
                  have hq2 : gs[k].session :: ((gs.drop (k + 1)).map (·.session) ++ q') = q2 := by
                    rw [← HK.out.2.2, List.drop_eq_getElem_cons hkg]
                    rfl
                  subst hq2
                  obtain ⟨q3, hq3⟩ : ∃ q3, q3 = (gs.drop (k + 1)).map (·.session) ++ q' := ⟨_, rfl⟩
                  obtain ⟨sx, hsx⟩ : ∃ sx, sx = gs[k].session := ⟨_, rfl⟩
                  have hU := HK.out.1
                  rw [← hq3, ← hsx] at hU
                  obtain ⟨bq, oq, kq, eq, _, _, hq⟩ := hU.row.at'.cells intC_len (by simp)
                  have cq := hq 0 (by simp) 0 (.int .i64 sx) (by decide) rfl
                  obtain ⟨bg', og', kg', eg, _, _, hg⟩ := HK.out.2.1.cells rpC_len (by simp)
                  simp only [Value.slice.injEq, Option.some.injEq, Addr.mk.injEq] at eg
                  obtain ⟨⟨rfl, rfl, _⟩, _, rfl⟩ := eg
                  have cg := hg (k + 1) (by simp; omega) 0 (.int .i64 sx) (by decide) (by rw [hsx]; rfl)
                  simp only [Nat.add_zero] at cg
                  obtain ⟨u8, hsl, hu8⟩ := hU.row.from 41 3 i0 Try.underlying41 (by kernel_rfl) hi hz1 intC_len 1 (by simp)
                  have hu8' := hu8
                  rw [show (sx :: q3).drop 1 = q3 from rfl] at hu8'
                  obtain ⟨a8, c8, hu9⟩ := hu8'.at'.form
                  subst hu9
                  obtain ⟨m2, hm2⟩ : ∃ m2, m2 = q3.length := ⟨_, rfl⟩
                  rw [List.length_cons, ← hm2] at eq
                  rw [← hm2] at hsl
                  subst eq
                  have hsl' : ∀ w', (Instr.sliceAt 41 (.slice (some ⟨bq, oq, none⟩) (m2 + 1) kq) (some (.int .i64 1)) none none).run Try.prog w' = .ok (.slice a8 m2 c8) w' := hsl
                  have UN : Hid (OrdU w _ D S5 c' l' (.slice a8 m2 c8) ((gs.drop (k + 1)).map (·.session) ++ q')) := (show Hid _ from (by rw [hm2, ← hq3]; exact hU.row' hu8'))
                  have GN : Hid _ := HK.out.2.1
                  have DW : Hid (Below wr.heap.size wr wr.drew) := Below.drew (Below.refl _ _)
                  have t7 : (((m2 + 1 : Nat) : Int) == 0) = false := by rw [beq_eq_false_iff_ne]; omega
                  have t8 : (sx != sx) = false := by simp
                  have t9 : k + 1 < ng + 1 := by omega
                  have t10 : 0 < m2 + 1 := Nat.succ_pos _
                  clear hsl hu8 hu8' hq hg hU hq3 hsx hm2
                  go_upto_region 31 with fail
                  refine wp_region_held_drew (S := (fun w' : World => w'.cell? ⟨bg, og + (k + 1) * 5, none⟩ = some (.int .i64 sx) ∧ w'.cell? ⟨bq, oq, none⟩ = some (.int .i64 sx))) (by kernel_rfl) ?_ (fun hHeld0 => ?_)
                  · exact ⟨cg, cq⟩
                  refine tk0 (.slice (some ⟨bq, oq, none⟩) (m2 + 1) kq) (by kernel_rfl) (by kernel_rfl) (by kernel_rfl) (fun _ _ _ h => h) rfl (fun w hSw => by (try dsimp only at hSw); obtain ⟨hS1, hS2⟩ := hSw; go_simp) (by assumption) ?_
                  try simp only [Act.put, List.setIfInBounds_toArray, List.set_cons_zero, List.set_cons_succ]
                  refine tk1 (.int .i64 ((m2 + 1 : Nat) : Int)) (by kernel_rfl) (by kernel_rfl) (by kernel_rfl) (fun _ _ _ h => h) rfl (fun w hSw => by (try dsimp only at hSw); obtain ⟨hS1, hS2⟩ := hSw; go_simp) (by assumption) ?_
                  try simp only [Act.put, List.setIfInBounds_toArray, List.set_cons_zero, List.set_cons_succ]
                  refine tk2 (.bool false) (by kernel_rfl) (by kernel_rfl) (by kernel_rfl) (fun _ _ _ h => h) rfl (fun w hSw => by (try dsimp only at hSw); obtain ⟨hS1, hS2⟩ := hSw; go_simp; omega) (by assumption) ?_
                  try simp only [Act.put, List.setIfInBounds_toArray, List.set_cons_zero, List.set_cons_succ]
                  refine tk3 (.bool false) (by kernel_rfl) (by kernel_rfl) (by kernel_rfl) (fun _ _ _ h => h) rfl (fun w hSw => by (try dsimp only at hSw); obtain ⟨hS1, hS2⟩ := hSw; go_simp) (by assumption) ?_
                  try simp only [Act.put, List.setIfInBounds_toArray, List.set_cons_zero, List.set_cons_succ]
                  refine tk4 (.slice (some ⟨bg, og, none⟩) (ng + 1) kg) (by kernel_rfl) (by kernel_rfl) (by kernel_rfl) (fun _ _ _ h => h) rfl (fun w hSw => by (try dsimp only at hSw); obtain ⟨hS1, hS2⟩ := hSw; go_simp) (by assumption) ?_
                  try simp only [Act.put, List.setIfInBounds_toArray, List.set_cons_zero, List.set_cons_succ]
                  refine tk5 (.int .i64 ((k + 1 : Nat) : Int)) (by kernel_rfl) (by kernel_rfl) (by kernel_rfl) (fun _ _ _ h => h) rfl (fun w hSw => by (try dsimp only at hSw); obtain ⟨hS1, hS2⟩ := hSw; go_simp) (by assumption) ?_
                  try simp only [Act.put, List.setIfInBounds_toArray, List.set_cons_zero, List.set_cons_succ]
                  refine tk6 (.pointer (some ⟨bg, og + (k + 1) * 5, none⟩)) (by kernel_rfl) (by kernel_rfl) (by kernel_rfl) (fun _ _ _ h => h) rfl (fun w hSw => by (try dsimp only at hSw); obtain ⟨hS1, hS2⟩ := hSw; go_simp; intro h; omega) (by assumption) ?_
                  try simp only [Act.put, List.setIfInBounds_toArray, List.set_cons_zero, List.set_cons_succ]
                  refine tk7 (.pointer (some ⟨bg, og + (k + 1) * 5, none⟩)) (by kernel_rfl) (by kernel_rfl) (by kernel_rfl) (fun _ _ _ h => h) rfl (fun w hSw => by (try dsimp only at hSw); obtain ⟨hS1, hS2⟩ := hSw; go_simp) (by assumption) ?_
                  try simp only [Act.put, List.setIfInBounds_toArray, List.set_cons_zero, List.set_cons_succ]
                  refine tk8 (.int .i64 sx) (by kernel_rfl) (by kernel_rfl) (by kernel_rfl) (fun _ _ _ h => h) rfl (fun w hSw => by (try dsimp only at hSw); obtain ⟨hS1, hS2⟩ := hSw; go_simp) (by assumption) ?_
                  try simp only [Act.put, List.setIfInBounds_toArray, List.set_cons_zero, List.set_cons_succ]
                  refine tk9 (.slice (some ⟨bq, oq, none⟩) (m2 + 1) kq) (by kernel_rfl) (by kernel_rfl) (by kernel_rfl) (fun _ _ _ h => h) rfl (fun w hSw => by (try dsimp only at hSw); obtain ⟨hS1, hS2⟩ := hSw; go_simp) (by assumption) ?_
                  try simp only [Act.put, List.setIfInBounds_toArray, List.set_cons_zero, List.set_cons_succ]
                  refine tk10 (.pointer (some ⟨bq, oq, none⟩)) (by kernel_rfl) (by kernel_rfl) (by kernel_rfl) (fun _ _ _ h => h) rfl (fun w hSw => by (try dsimp only at hSw); obtain ⟨hS1, hS2⟩ := hSw; go_simp) (by assumption) ?_
                  try simp only [Act.put, List.setIfInBounds_toArray, List.set_cons_zero, List.set_cons_succ]
                  refine tk11 (.int .i64 sx) (by kernel_rfl) (by kernel_rfl) (by kernel_rfl) (fun _ _ _ h => h) rfl (fun w hSw => by (try dsimp only at hSw); obtain ⟨hS1, hS2⟩ := hSw; go_simp) (by assumption) ?_
                  try simp only [Act.put, List.setIfInBounds_toArray, List.set_cons_zero, List.set_cons_succ]
                  refine tk12 (.bool false) (by kernel_rfl) (by kernel_rfl) (by kernel_rfl) (fun _ _ _ h => h) rfl (fun w hSw => by (try dsimp only at hSw); obtain ⟨hS1, hS2⟩ := hSw; go_simp) (by assumption) ?_
                  try simp only [Act.put, List.setIfInBounds_toArray, List.set_cons_zero, List.set_cons_succ]
                  refine tk13 (.bool false) (by kernel_rfl) (by kernel_rfl) (by kernel_rfl) (fun _ _ _ h => h) rfl (fun w hSw => by (try dsimp only at hSw); obtain ⟨hS1, hS2⟩ := hSw; go_simp) (by assumption) ?_
                  try simp only [Act.put, List.setIfInBounds_toArray, List.set_cons_zero, List.set_cons_succ]
                  refine wpAnyH_done (by kernel_rfl) ?_ _
                  go_wp2
                  go_roundw
                  case rel => exact ⟨k + 1, _, by go_num, hk, (show Hid _ from (⟨UN.out.fresh DW.out, GN.out.fresh DW.out, rfl⟩ : _ ∧ _ ∧ _))⟩
                  case measure => simp [intOf]; omega
                · have t6 : decide (((k + 1 : Nat) : Int) < ((ng + 1 : Nat) : Int)) = false := decide_eq_false (by omega)
                  have HK2 : Hid (k = gs.length) := (by have := HNG.out.1; omega : k = gs.length)
                  have hn2 := HN.out
                  clear hk'
                  go_wp2
                  go_roundw
                  case rel =>
                    have hq := HK.out.2.2
                    rw [HK2.out, List.drop_length] at hq
                    obtain rfl : q' = _ := hq
                    exact ⟨n + 1, _, _, _, _, by go_num, by omega, (show Hid _ from (⟨HK.out.1, HJ.out.1⟩ : _ ∧ _))⟩
                  case measure => simp [intOf]; omega
    · have t1 : decide ((i : Int) < (L : Int)) = false := decide_eq_false (by omega)
      have HI2 : Hid (i ≤ 50) := hi2
      clear hi1 hi2 H0
      go_wp2
      go_loopw [4, 9] (fun s4 s9 wr => ∃ (n : Nat) (q : List Int) (c : Int) (l : List Lk) (S : Nat → Prop), s9 = .int .i64 (n : Int) ∧ n ≤ 51 ∧ Hid (OrdU w wr D S c l s4 q ∧ OrdJ n l q)) (fun _ s9 _ => 100 - (intOf s9).toNat)
      case atStart => exact ⟨0, q, c, l, S, rfl, by decide, (show Hid _ from (⟨HI.out.1.toU HI2.out, HI.out.2.1.start HI2.out⟩ : _ ∧ _))⟩
      case round =>
        clear HI HI2
        obtain ⟨n, q, c, l, S, rfl, hn, HI⟩ := hrel
        have t1 : decide ((n : Int) < 100) = true := decide_eq_true (by omega)
        have hhold := HI.out.1.lo.hold (nm := kaN) (by decide) (by decide)
        rcases ordJ_hold HI.out.2 HI.out.1.lo.ok with ⟨e, rfl⟩ | ⟨a, h', wt, e, _⟩
        · rw [e] at hhold
          have HC : Hid (Calls Try.prog 16 #[.pointer (some ⟨D, 0, none⟩), .string kaN] _ (HolP _ ([], false))) := hhold
          have BW : Hid _ := HI.out.1.bel
          obtain ⟨pq, cq, rfl⟩ := HI.out.1.row.at'.none0
          clear hhold e
          go_wp2_with (first
            | (go_at_call 18; refine Calls.mono (awake_any _) ?_; rintro r w7 ⟨rfl, b7⟩; have B7 : Hid _ := bmm B6.out B6.out.size b7; clear b7)
            | (go_at_call 16; refine Calls.mono HC.out ?_; rintro r w6 ⟨uh, rfl, rh, b6⟩; obtain ⟨ph, qh, eh, _⟩ := rh.ex; change uh = .slice ph 0 qh at eh; subst eh; have B6 : Hid _ := bmm BW.out BW.out.size b6; clear b6 rh))
          go_ret
          exact ⟨rfl, B7.out⟩
        · rw [e] at hhold
          have hn50 := ordJ_lt HI.out.2 e HI.out.1.lo.ok
          obtain ⟨gs, q', e1, e2, hJ⟩ := ord_rel (c := c) HI.out.2 HI.out.1.lo.ok e
          have HN : Hid (n < 50) := hn50
          have HC : Hid (Calls Try.prog 16 #[.pointer (some ⟨D, 0, none⟩), .string kaN] _ (HolP _ (a :: h', wt))) := hhold
          have HREL : Hid (∀ y S, LcW y w.heap.size D S 50 c l → okI a → Calls Try.prog 12 #[.pointer (some ⟨D, 0, none⟩), .agg (cmA (ordR wt) a 2 kaN 0)] y (RepP y w.heap.size D S 50 (relL c l (ordR wt) a 2 kaN))) := fun y S h ha => h.rel (by decide) (ordR wt) a 2 kaN 0 ha (by decide)
          obtain ⟨qa, hqa⟩ : ∃ qa, qa = relL c l (ordR wt) a 2 kaN := ⟨_, rfl⟩
          rw [← hqa] at e1 hJ HREL
          obtain ⟨c', l', gg⟩ := qa
          obtain rfl : gg = ⟨a, 2, 0, 0, 0⟩ :: gs := e1
          have HJ : Hid (OrdJ (n + 1) l' q' ∧ gs.map (·.session) ++ q' = q) := ⟨hJ, e2⟩
          have HGL : Hid (gs.length ≤ 50) := (by have h9 := HI.out.2.few; rw [← e2, List.length_append, List.length_map] at h9; omega : gs.length ≤ 50)
          clear hhold e hn50 e2 hJ hqa hn
          go_upto_region 20 with (go_at_call 16; refine Calls.mono HC.out ?_; rintro r w6 ⟨uh, rfl, rh, b6⟩; have RH : Hid (IntsAt w6 uh (a :: h')) := rh; have U6 : Hid (OrdU w w6 D S c l u4 q) := HI.out.1.fresh b6; clear b6 rh)
          obtain ⟨ph, qh, eh, _, hx | ⟨bh, oh, rfl, _, hh⟩⟩ := RH.out.ex
          · exact absurd hx (by simp)
          have zh : w6.cell? ⟨bh, oh, none⟩ = some (.int .i64 a) := hh 0 (by simp)
          have hai : okI a := RH.out.lo a List.mem_cons_self
          have HCR : Hid _ := HREL.out w6 S U6.out.lo hai
          obtain ⟨nh, hnh⟩ : ∃ nh, nh = h'.length := ⟨_, rfl⟩
          rw [List.length_cons, ← hnh] at eh
          subst eh
          have t2 : (((nh + 1 : Nat) : Int) == 0) = false := by rw [beq_eq_false_iff_ne]; omega
          have t3 : 0 < nh + 1 := Nat.succ_pos _
          clear hh hnh hai HREL RH
          cases wt
          · go_upto_region 26 with (go_at_call 12; refine Calls.mono HCR.out ?_; rintro r w5 ⟨x5, S5, rfl, r5, h5, k5, s5⟩; have R5 : Hid (RowAt rpC w5 x5 (⟨a, 2, 0, 0, 0⟩ :: gs)) := r5; have U5 : Hid (OrdU w w5 D S5 c' l' u4 q) := U6.out.got h5 k5; clear r5 h5 k5 s5)
            obtain ⟨bg, og, kg, eg, _, _, hg⟩ := R5.out.cells rpC_len (by simp)
            have z2 : w5.cell? ⟨bg, og + 2, none⟩ = some (.int .i64 0) := hg 0 (by simp) 2 _ (by decide) rfl
            obtain ⟨ng, hng⟩ : ∃ ng, ng = gs.length := ⟨_, rfl⟩
            rw [List.length_cons, ← hng] at eg
            subst eg
            have HNG : Hid (ng = gs.length ∧ ng ≤ 50) := ⟨hng, by rw [hng]; exact HGL.out⟩
            have t4 : decide (((ng + 1 : Nat) : Int) < 1) = false := decide_eq_false (by omega)
            have t5 : 0 < ng + 1 := Nat.succ_pos _
            clear hg hng zh t2 t3
            go_wp2
            go_loopw [4, 14] (fun s4 s14 wr2 => ∃ (k : Nat) (q2 : List Int), s14 = .int .i64 ((k + 1 : Nat) : Int) ∧ k ≤ ng ∧ Hid (OrdU w wr2 D S5 c' l' s4 q2 ∧ RowAt rpC wr2 (.slice (some ⟨bg, og, none⟩) (ng + 1) kg) (⟨a, 2, 0, 0, 0⟩ :: gs) ∧ (gs.drop k).map (·.session) ++ q' = q2)) (fun _ s14 _ => ng + 1 - (intOf s14).toNat)
            case atStart => exact ⟨0, q, rfl, Nat.zero_le _, (show Hid _ from (⟨U5.out, R5.out, HJ.out.2⟩ : _ ∧ _ ∧ _))⟩
            case round =>
              clear z2 t4 t5
              obtain ⟨k, q2, rfl, hk', HK⟩ := hrel
              by_cases hk : k < ng
              · have t6 : decide (((k + 1 : Nat) : Int) < ((ng + 1 : Nat) : Int)) = true := decide_eq_true (by omega)
                have hkg : k < gs.length := by have := HNG.out.1; omega
                have hk50 : k < 50 := by have := HNG.out.2; omega
                have hq2 : gs[k].session :: ((gs.drop (k + 1)).map (·.session) ++ q') = q2 := by
                  rw [← HK.out.2.2, List.drop_eq_getElem_cons hkg]
                  rfl
                subst hq2
                obtain ⟨q3, hq3⟩ : ∃ q3, q3 = (gs.drop (k + 1)).map (·.session) ++ q' := ⟨_, rfl⟩
                obtain ⟨sx, hsx⟩ : ∃ sx, sx = gs[k].session := ⟨_, rfl⟩
                have hU := HK.out.1
                rw [← hq3, ← hsx] at hU
                obtain ⟨bq, oq, kq, eq, _, _, hq⟩ := hU.row.at'.cells intC_len (by simp)
                have cq := hq 0 (by simp) 0 (.int .i64 sx) (by decide) rfl
                obtain ⟨bg', og', kg', eg, _, _, hg⟩ := HK.out.2.1.cells rpC_len (by simp)
                simp only [Value.slice.injEq, Option.some.injEq, Addr.mk.injEq] at eg
                obtain ⟨⟨rfl, rfl, _⟩, _, rfl⟩ := eg
                have cg := hg (k + 1) (by simp; omega) 0 (.int .i64 sx) (by decide) (by rw [hsx]; rfl)
                simp only [Nat.add_zero] at cg
                obtain ⟨u8, hsl, hu8⟩ := hU.row.from 41 3 i0 Try.underlying41 (by kernel_rfl) hi hz1 intC_len 1 (by simp)
                have hu8' := hu8
                rw [show (sx :: q3).drop 1 = q3 from rfl] at hu8'
                obtain ⟨a8, c8, hu9⟩ := hu8'.at'.form
                subst hu9
                obtain ⟨m2, hm2⟩ : ∃ m2, m2 = q3.length := ⟨_, rfl⟩
                rw [List.length_cons, ← hm2] at eq
                rw [← hm2] at hsl
                subst eq
                have hsl' : ∀ w', (Instr.sliceAt 41 (.slice (some ⟨bq, oq, none⟩) (m2 + 1) kq) (some (.int .i64 1)) none none).run Try.prog w' = .ok (.slice a8 m2 c8) w' := hsl
                have UN : Hid (OrdU w _ D S5 c' l' (.slice a8 m2 c8) ((gs.drop (k + 1)).map (·.session) ++ q')) := (show Hid _ from (by rw [hm2, ← hq3]; exact hU.row' hu8'))
                have GN : Hid _ := HK.out.2.1
                have DW : Hid (Below wr.heap.size wr wr.drew) := Below.drew (Below.refl _ _)
                have t7 : (((m2 + 1 : Nat) : Int) == 0) = false := by rw [beq_eq_false_iff_ne]; omega
                have t8 : (sx != sx) = false := by simp
                have t9 : k + 1 < ng + 1 := by omega
                have t10 : 0 < m2 + 1 := Nat.succ_pos _
                clear hsl hu8 hu8' hq hg hU hq3 hsx hm2
                go_upto_region 31 with fail
                refine wp_region_held_drew (S := (fun w' : World => w'.cell? ⟨bg, og + (k + 1) * 5, none⟩ = some (.int .i64 sx) ∧ w'.cell? ⟨bq, oq, none⟩ = some (.int .i64 sx))) (by kernel_rfl) ?_ (fun hHeld0 => ?_)
                · exact ⟨cg, cq⟩
                refine tk0 (.slice (some ⟨bq, oq, none⟩) (m2 + 1) kq) (by kernel_rfl) (by kernel_rfl) (by kernel_rfl) (fun _ _ _ h => h) rfl (fun w hSw => by (try dsimp only at hSw); obtain ⟨hS1, hS2⟩ := hSw; go_simp) (by assumption) ?_
                try simp only [Act.put, List.setIfInBounds_toArray, List.set_cons_zero, List.set_cons_succ]
                refine tk1 (.int .i64 ((m2 + 1 : Nat) : Int)) (by kernel_rfl) (by kernel_rfl) (by kernel_rfl) (fun _ _ _ h => h) rfl (fun w hSw => by (try dsimp only at hSw); obtain ⟨hS1, hS2⟩ := hSw; go_simp) (by assumption) ?_
                try simp only [Act.put, List.setIfInBounds_toArray, List.set_cons_zero, List.set_cons_succ]
                refine tk2 (.bool false) (by kernel_rfl) (by kernel_rfl) (by kernel_rfl) (fun _ _ _ h => h) rfl (fun w hSw => by (try dsimp only at hSw); obtain ⟨hS1, hS2⟩ := hSw; go_simp; omega) (by assumption) ?_
                try simp only [Act.put, List.setIfInBounds_toArray, List.set_cons_zero, List.set_cons_succ]
                refine tk3 (.bool false) (by kernel_rfl) (by kernel_rfl) (by kernel_rfl) (fun _ _ _ h => h) rfl (fun w hSw => by (try dsimp only at hSw); obtain ⟨hS1, hS2⟩ := hSw; go_simp) (by assumption) ?_
                try simp only [Act.put, List.setIfInBounds_toArray, List.set_cons_zero, List.set_cons_succ]
                refine tk4 (.slice (some ⟨bg, og, none⟩) (ng + 1) kg) (by kernel_rfl) (by kernel_rfl) (by kernel_rfl) (fun _ _ _ h => h) rfl (fun w hSw => by (try dsimp only at hSw); obtain ⟨hS1, hS2⟩ := hSw; go_simp) (by assumption) ?_
                try simp only [Act.put, List.setIfInBounds_toArray, List.set_cons_zero, List.set_cons_succ]
                refine tk5 (.int .i64 ((k + 1 : Nat) : Int)) (by kernel_rfl) (by kernel_rfl) (by kernel_rfl) (fun _ _ _ h => h) rfl (fun w hSw => by (try dsimp only at hSw); obtain ⟨hS1, hS2⟩ := hSw; go_simp) (by assumption) ?_
                try simp only [Act.put, List.setIfInBounds_toArray, List.set_cons_zero, List.set_cons_succ]
                refine tk6 (.pointer (some ⟨bg, og + (k + 1) * 5, none⟩)) (by kernel_rfl) (by kernel_rfl) (by kernel_rfl) (fun _ _ _ h => h) rfl (fun w hSw => by (try dsimp only at hSw); obtain ⟨hS1, hS2⟩ := hSw; go_simp; intro h; omega) (by assumption) ?_
                try simp only [Act.put, List.setIfInBounds_toArray, List.set_cons_zero, List.set_cons_succ]
                refine tk7 (.pointer (some ⟨bg, og + (k + 1) * 5, none⟩)) (by kernel_rfl) (by kernel_rfl) (by kernel_rfl) (fun _ _ _ h => h) rfl (fun w hSw => by (try dsimp only at hSw); obtain ⟨hS1, hS2⟩ := hSw; go_simp) (by assumption) ?_
                try simp only [Act.put, List.setIfInBounds_toArray, List.set_cons_zero, List.set_cons_succ]
                refine tk8 (.int .i64 sx) (by kernel_rfl) (by kernel_rfl) (by kernel_rfl) (fun _ _ _ h => h) rfl (fun w hSw => by (try dsimp only at hSw); obtain ⟨hS1, hS2⟩ := hSw; go_simp) (by assumption) ?_
                try simp only [Act.put, List.setIfInBounds_toArray, List.set_cons_zero, List.set_cons_succ]
                refine tk9 (.slice (some ⟨bq, oq, none⟩) (m2 + 1) kq) (by kernel_rfl) (by kernel_rfl) (by kernel_rfl) (fun _ _ _ h => h) rfl (fun w hSw => by (try dsimp only at hSw); obtain ⟨hS1, hS2⟩ := hSw; go_simp) (by assumption) ?_
                try simp only [Act.put, List.setIfInBounds_toArray, List.set_cons_zero, List.set_cons_succ]
                refine tk10 (.pointer (some ⟨bq, oq, none⟩)) (by kernel_rfl) (by kernel_rfl) (by kernel_rfl) (fun _ _ _ h => h) rfl (fun w hSw => by (try dsimp only at hSw); obtain ⟨hS1, hS2⟩ := hSw; go_simp) (by assumption) ?_
                try simp only [Act.put, List.setIfInBounds_toArray, List.set_cons_zero, List.set_cons_succ]
                refine tk11 (.int .i64 sx) (by kernel_rfl) (by kernel_rfl) (by kernel_rfl) (fun _ _ _ h => h) rfl (fun w hSw => by (try dsimp only at hSw); obtain ⟨hS1, hS2⟩ := hSw; go_simp) (by assumption) ?_
                try simp only [Act.put, List.setIfInBounds_toArray, List.set_cons_zero, List.set_cons_succ]
                refine tk12 (.bool false) (by kernel_rfl) (by kernel_rfl) (by kernel_rfl) (fun _ _ _ h => h) rfl (fun w hSw => by (try dsimp only at hSw); obtain ⟨hS1, hS2⟩ := hSw; go_simp) (by assumption) ?_
                try simp only [Act.put, List.setIfInBounds_toArray, List.set_cons_zero, List.set_cons_succ]
                refine tk13 (.bool false) (by kernel_rfl) (by kernel_rfl) (by kernel_rfl) (fun _ _ _ h => h) rfl (fun w hSw => by (try dsimp only at hSw); obtain ⟨hS1, hS2⟩ := hSw; go_simp) (by assumption) ?_
                try simp only [Act.put, List.setIfInBounds_toArray, List.set_cons_zero, List.set_cons_succ]
                refine wpAnyH_done (by kernel_rfl) ?_ _
                go_wp2
                go_roundw
                case rel => exact ⟨k + 1, _, by go_num, hk, (show Hid _ from (⟨UN.out.fresh DW.out, GN.out.fresh DW.out, rfl⟩ : _ ∧ _ ∧ _))⟩
                case measure => simp [intOf]; omega
              · have t6 : decide (((k + 1 : Nat) : Int) < ((ng + 1 : Nat) : Int)) = false := decide_eq_false (by omega)
                have HK2 : Hid (k = gs.length) := (by have := HNG.out.1; omega : k = gs.length)
                have hn2 := HN.out
                clear hk'
                go_wp2
                go_roundw
                case rel =>
                  have hq := HK.out.2.2
                  rw [HK2.out, List.drop_length] at hq
                  obtain rfl : q' = _ := hq
                  exact ⟨n + 1, _, _, _, _, by go_num, by omega, (show Hid _ from (⟨HK.out.1, HJ.out.1⟩ : _ ∧ _))⟩
                case measure => simp [intOf]; omega
          · go_upto_region 26 with (go_at_call 12; refine Calls.mono HCR.out ?_; rintro r w5 ⟨x5, S5, rfl, r5, h5, k5, s5⟩; have R5 : Hid (RowAt rpC w5 x5 (⟨a, 2, 0, 0, 0⟩ :: gs)) := r5; have U5 : Hid (OrdU w w5 D S5 c' l' u4 q) := U6.out.got h5 k5; clear r5 h5 k5 s5)
            obtain ⟨bg, og, kg, eg, _, _, hg⟩ := R5.out.cells rpC_len (by simp)
            have z2 : w5.cell? ⟨bg, og + 2, none⟩ = some (.int .i64 0) := hg 0 (by simp) 2 _ (by decide) rfl
            obtain ⟨ng, hng⟩ : ∃ ng, ng = gs.length := ⟨_, rfl⟩
            rw [List.length_cons, ← hng] at eg
            subst eg
            have HNG : Hid (ng = gs.length ∧ ng ≤ 50) := ⟨hng, by rw [hng]; exact HGL.out⟩
            have t4 : decide (((ng + 1 : Nat) : Int) < 1) = false := decide_eq_false (by omega)
            have t5 : 0 < ng + 1 := Nat.succ_pos _
            clear hg hng zh t2 t3
            go_wp2
            go_loopw [4, 14] (fun s4 s14 wr2 => ∃ (k : Nat) (q2 : List Int), s14 = .int .i64 ((k + 1 : Nat) : Int) ∧ k ≤ ng ∧ Hid (OrdU w wr2 D S5 c' l' s4 q2 ∧ RowAt rpC wr2 (.slice (some ⟨bg, og, none⟩) (ng + 1) kg) (⟨a, 2, 0, 0, 0⟩ :: gs) ∧ (gs.drop k).map (·.session) ++ q' = q2)) (fun _ s14 _ => ng + 1 - (intOf s14).toNat)
            case atStart => exact ⟨0, q, rfl, Nat.zero_le _, (show Hid _ from (⟨U5.out, R5.out, HJ.out.2⟩ : _ ∧ _ ∧ _))⟩
            case round =>
              clear z2 t4 t5
              obtain ⟨k, q2, rfl, hk', HK⟩ := hrel
              by_cases hk : k < ng
              · have t6 : decide (((k + 1 : Nat) : Int) < ((ng + 1 : Nat) : Int)) = true := decide_eq_true (by omega)
                have hkg : k < gs.length := by have := HNG.out.1; omega
                have hk50 : k < 50 := by have := HNG.out.2; omega
                have hq2 : gs[k].session :: ((gs.drop (k + 1)).map (·.session) ++ q') = q2 := by
                  rw [← HK.out.2.2, List.drop_eq_getElem_cons hkg]
                  rfl
                subst hq2
                obtain ⟨q3, hq3⟩ : ∃ q3, q3 = (gs.drop (k + 1)).map (·.session) ++ q' := ⟨_, rfl⟩
                obtain ⟨sx, hsx⟩ : ∃ sx, sx = gs[k].session := ⟨_, rfl⟩
                have hU := HK.out.1
                rw [← hq3, ← hsx] at hU
                obtain ⟨bq, oq, kq, eq, _, _, hq⟩ := hU.row.at'.cells intC_len (by simp)
                have cq := hq 0 (by simp) 0 (.int .i64 sx) (by decide) rfl
                obtain ⟨bg', og', kg', eg, _, _, hg⟩ := HK.out.2.1.cells rpC_len (by simp)
                simp only [Value.slice.injEq, Option.some.injEq, Addr.mk.injEq] at eg
                obtain ⟨⟨rfl, rfl, _⟩, _, rfl⟩ := eg
                have cg := hg (k + 1) (by simp; omega) 0 (.int .i64 sx) (by decide) (by rw [hsx]; rfl)
                simp only [Nat.add_zero] at cg
                obtain ⟨u8, hsl, hu8⟩ := hU.row.from 41 3 i0 Try.underlying41 (by kernel_rfl) hi hz1 intC_len 1 (by simp)
                have hu8' := hu8
                rw [show (sx :: q3).drop 1 = q3 from rfl] at hu8'
                obtain ⟨a8, c8, hu9⟩ := hu8'.at'.form
                subst hu9
                obtain ⟨m2, hm2⟩ : ∃ m2, m2 = q3.length := ⟨_, rfl⟩
                rw [List.length_cons, ← hm2] at eq
                rw [← hm2] at hsl
                subst eq
                have hsl' : ∀ w', (Instr.sliceAt 41 (.slice (some ⟨bq, oq, none⟩) (m2 + 1) kq) (some (.int .i64 1)) none none).run Try.prog w' = .ok (.slice a8 m2 c8) w' := hsl
                have UN : Hid (OrdU w _ D S5 c' l' (.slice a8 m2 c8) ((gs.drop (k + 1)).map (·.session) ++ q')) := (show Hid _ from (by rw [hm2, ← hq3]; exact hU.row' hu8'))
                have GN : Hid _ := HK.out.2.1
                have DW : Hid (Below wr.heap.size wr wr.drew) := Below.drew (Below.refl _ _)
                have t7 : (((m2 + 1 : Nat) : Int) == 0) = false := by rw [beq_eq_false_iff_ne]; omega
                have t8 : (sx != sx) = false := by simp
                have t9 : k + 1 < ng + 1 := by omega
                have t10 : 0 < m2 + 1 := Nat.succ_pos _
                clear hsl hu8 hu8' hq hg hU hq3 hsx hm2
                go_upto_region 31 with fail
                refine wp_region_held_drew (S := (fun w' : World => w'.cell? ⟨bg, og + (k + 1) * 5, none⟩ = some (.int .i64 sx) ∧ w'.cell? ⟨bq, oq, none⟩ = some (.int .i64 sx))) (by kernel_rfl) ?_ (fun hHeld0 => ?_)
                · exact ⟨cg, cq⟩
                refine tk0 (.slice (some ⟨bq, oq, none⟩) (m2 + 1) kq) (by kernel_rfl) (by kernel_rfl) (by kernel_rfl) (fun _ _ _ h => h) rfl (fun w hSw => by (try dsimp only at hSw); obtain ⟨hS1, hS2⟩ := hSw; go_simp) (by assumption) ?_
                try simp only [Act.put, List.setIfInBounds_toArray, List.set_cons_zero, List.set_cons_succ]
                refine tk1 (.int .i64 ((m2 + 1 : Nat) : Int)) (by kernel_rfl) (by kernel_rfl) (by kernel_rfl) (fun _ _ _ h => h) rfl (fun w hSw => by (try dsimp only at hSw); obtain ⟨hS1, hS2⟩ := hSw; go_simp) (by assumption) ?_
                try simp only [Act.put, List.setIfInBounds_toArray, List.set_cons_zero, List.set_cons_succ]
                refine tk2 (.bool false) (by kernel_rfl) (by kernel_rfl) (by kernel_rfl) (fun _ _ _ h => h) rfl (fun w hSw => by (try dsimp only at hSw); obtain ⟨hS1, hS2⟩ := hSw; go_simp; omega) (by assumption) ?_
                try simp only [Act.put, List.setIfInBounds_toArray, List.set_cons_zero, List.set_cons_succ]
                refine tk3 (.bool false) (by kernel_rfl) (by kernel_rfl) (by kernel_rfl) (fun _ _ _ h => h) rfl (fun w hSw => by (try dsimp only at hSw); obtain ⟨hS1, hS2⟩ := hSw; go_simp) (by assumption) ?_
                try simp only [Act.put, List.setIfInBounds_toArray, List.set_cons_zero, List.set_cons_succ]
                refine tk4 (.slice (some ⟨bg, og, none⟩) (ng + 1) kg) (by kernel_rfl) (by kernel_rfl) (by kernel_rfl) (fun _ _ _ h => h) rfl (fun w hSw => by (try dsimp only at hSw); obtain ⟨hS1, hS2⟩ := hSw; go_simp) (by assumption) ?_
                try simp only [Act.put, List.setIfInBounds_toArray, List.set_cons_zero, List.set_cons_succ]
                refine tk5 (.int .i64 ((k + 1 : Nat) : Int)) (by kernel_rfl) (by kernel_rfl) (by kernel_rfl) (fun _ _ _ h => h) rfl (fun w hSw => by (try dsimp only at hSw); obtain ⟨hS1, hS2⟩ := hSw; go_simp) (by assumption) ?_
                try simp only [Act.put, List.setIfInBounds_toArray, List.set_cons_zero, List.set_cons_succ]
                refine tk6 (.pointer (some ⟨bg, og + (k + 1) * 5, none⟩)) (by kernel_rfl) (by kernel_rfl) (by kernel_rfl) (fun _ _ _ h => h) rfl (fun w hSw => by (try dsimp only at hSw); obtain ⟨hS1, hS2⟩ := hSw; go_simp; intro h; omega) (by assumption) ?_
                try simp only [Act.put, List.setIfInBounds_toArray, List.set_cons_zero, List.set_cons_succ]
                refine tk7 (.pointer (some ⟨bg, og + (k + 1) * 5, none⟩)) (by kernel_rfl) (by kernel_rfl) (by kernel_rfl) (fun _ _ _ h => h) rfl (fun w hSw => by (try dsimp only at hSw); obtain ⟨hS1, hS2⟩ := hSw; go_simp) (by assumption) ?_
                try simp only [Act.put, List.setIfInBounds_toArray, List.set_cons_zero, List.set_cons_succ]
                refine tk8 (.int .i64 sx) (by kernel_rfl) (by kernel_rfl) (by kernel_rfl) (fun _ _ _ h => h) rfl (fun w hSw => by (try dsimp only at hSw); obtain ⟨hS1, hS2⟩ := hSw; go_simp) (by assumption) ?_
                try simp only [Act.put, List.setIfInBounds_toArray, List.set_cons_zero, List.set_cons_succ]
                refine tk9 (.slice (some ⟨bq, oq, none⟩) (m2 + 1) kq) (by kernel_rfl) (by kernel_rfl) (by kernel_rfl) (fun _ _ _ h => h) rfl (fun w hSw => by (try dsimp only at hSw); obtain ⟨hS1, hS2⟩ := hSw; go_simp) (by assumption) ?_
                try simp only [Act.put, List.setIfInBounds_toArray, List.set_cons_zero, List.set_cons_succ]
                refine tk10 (.pointer (some ⟨bq, oq, none⟩)) (by kernel_rfl) (by kernel_rfl) (by kernel_rfl) (fun _ _ _ h => h) rfl (fun w hSw => by (try dsimp only at hSw); obtain ⟨hS1, hS2⟩ := hSw; go_simp) (by assumption) ?_
                try simp only [Act.put, List.setIfInBounds_toArray, List.set_cons_zero, List.set_cons_succ]
                refine tk11 (.int .i64 sx) (by kernel_rfl) (by kernel_rfl) (by kernel_rfl) (fun _ _ _ h => h) rfl (fun w hSw => by (try dsimp only at hSw); obtain ⟨hS1, hS2⟩ := hSw; go_simp) (by assumption) ?_
                try simp only [Act.put, List.setIfInBounds_toArray, List.set_cons_zero, List.set_cons_succ]
                refine tk12 (.bool false) (by kernel_rfl) (by kernel_rfl) (by kernel_rfl) (fun _ _ _ h => h) rfl (fun w hSw => by (try dsimp only at hSw); obtain ⟨hS1, hS2⟩ := hSw; go_simp) (by assumption) ?_
                try simp only [Act.put, List.setIfInBounds_toArray, List.set_cons_zero, List.set_cons_succ]
                refine tk13 (.bool false) (by kernel_rfl) (by kernel_rfl) (by kernel_rfl) (fun _ _ _ h => h) rfl (fun w hSw => by (try dsimp only at hSw); obtain ⟨hS1, hS2⟩ := hSw; go_simp) (by assumption) ?_
                try simp only [Act.put, List.setIfInBounds_toArray, List.set_cons_zero, List.set_cons_succ]
                refine wpAnyH_done (by kernel_rfl) ?_ _
                go_wp2
                go_roundw
                case rel => exact ⟨k + 1, _, by go_num, hk, (show Hid _ from (⟨UN.out.fresh DW.out, GN.out.fresh DW.out, rfl⟩ : _ ∧ _ ∧ _))⟩
                case measure => simp [intOf]; omega
              · have t6 : decide (((k + 1 : Nat) : Int) < ((ng + 1 : Nat) : Int)) = false := decide_eq_false (by omega)
                have HK2 : Hid (k = gs.length) := (by have := HNG.out.1; omega : k = gs.length)
                have hn2 := HN.out
                clear hk'
                go_wp2
                go_roundw
                case rel =>
                  have hq := HK.out.2.2
                  rw [HK2.out, List.drop_length] at hq
                  obtain rfl : q' = _ := hq
                  exact ⟨n + 1, _, _, _, _, by go_num, by omega, (show Hid _ from (⟨HK.out.1, HJ.out.1⟩ : _ ∧ _))⟩
                case measure => simp [intOf]; omega
end Go.Proofs.Ytmfadmhbkgemmaa
