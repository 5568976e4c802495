/-
  A deed on both: each answers the same, where both held the same. The conditions: numbers are ints; an answer's numbers are those that commands have.
-/
import Derived.Test.YthokbififjhflaaSdPlain
import Derived.Test.YthokbififjhflaaSeOpen
namespace Go.Proofs.Ythokbififjhflaa
open Go.RowKit

theorem SdOk.rep {v : Sd} (h : SdOk v) (hp : sdP v = true) (hk : v.kind = 3) : v.r.Ok := by
  have e : ((((1 ≤ v.seq ∧ v.seq ≤ 1073741824) ∧ 0 ≤ v.r.err) ∧ v.r.err ≤ 255) ∧ 0 ≤ v.r.n) ∧ v.r.n ≤ 1073741824 := by simpa [sdP, hk] using hp
  exact ⟨by omega, by omega, h.t0, h.t1, by omega, by omega⟩
set_option maxHeartbeats 16000000 in
set_option maxRecDepth 100000 in
theorem do_any {w : World} {base X Y : Nat} {S T : Nat → Prop} {l m : List SeX} (h : SeTw w base X Y S T l m) (v : Sd) (ok : SdOk v) (hpl : sdP v = true) (hl : l.length < 1000000) (hm : m.length < 1000000) :
    Calls Try.prog 11 #[.pointer (some ⟨X, 0, none⟩), .pointer (some ⟨Y, 0, none⟩), .agg (sdA v)] w (DoP w base X Y S T l m v) := by
  obtain ⟨W, hW⟩ : ∃ W, W = w.alloc (.cells (sdA v) 38) := ⟨_, rfl⟩
  have bW : Below w.heap.size w W := by rw [hW]; exact (Below.refl _ w).alloc (Nat.le_refl _) _
  have dW : SdAt W w.heap.size v := by rw [hW]; exact heap_alloc_new w _
  have HW : Hid (w.alloc (.cells (sdA v) 38) = W) := hW.symm
  have HI : Hid (DoI w W base X Y S T l m v) := ⟨⟨S, T, h.fresh bW, Kept.of bW, fun hs => Nat.lt_irrefl _ (h.a.bd _ hs).2, fun hs => Nat.lt_irrefl _ (h.b.bd _ hs).2⟩, dW⟩
  have HK : Hid (SdOk v ∧ sdP v = true ∧ l.length < 1000000 ∧ m.length < 1000000) := (show Hid _ from (⟨ok, hpl, hl, hm⟩ : _ ∧ _ ∧ _ ∧ _))
  have z0 := dW.box 0 _ rfl
  clear hW bW dW h ok hpl hl hm
  cases k0 : (v.kind == 0) with
  | true =>
    have hk : v.kind = 0 := by simpa using k0
    obtain ⟨p, hp⟩ : ∃ p, p = seOpn l v.n v.seq := ⟨_, rfl⟩
    obtain ⟨q, hq⟩ : ∃ q, q = seOpn m v.n v.seq := ⟨_, rfl⟩
    have HPQ : Hid (l = m → p = q) := fun e => by rw [hp, hq, e]
    have HDA : Hid (doL l v = p.1) := by show doL l v = p.1; unfold doL; rw [hp, hk]; rfl
    have HDB : Hid (doL m v = q.1) := by show doL m v = q.1; unfold doL; rw [hq, hk]; rfl
    have HA : Hid (Calls Try.prog 22 #[.pointer (some ⟨X, 0, none⟩), .int .i64 v.n, .int .i64 v.seq] W fun e w' => e = .returned (.tuple #[.int .i64 p.2.1, .bool p.2.2.1, .int .i64 p.2.2.2]) ∧ DoI w w' base X Y S T p.1 m v) := by rw [hp]; exact HI.out.opnA HK.out.2.2.1 _ _
    have HB : Hid (∀ y l', DoI w y base X Y S T l' m v → Calls Try.prog 26 #[.pointer (some ⟨Y, 0, none⟩), .int .i64 v.n, .int .i64 v.seq] y fun e w' => e = .returned (.tuple #[.int .i64 q.2.1, .bool q.2.2.1, .int .i64 q.2.2.2]) ∧ DoI w w' base X Y S T l' q.1 v) := by rw [hq]; exact fun y l' i => i.opnB HK.out.2.2.2 _ _
    have z1 := HI.out.d.box 1 _ rfl
    have z2 := HI.out.d.box 2 _ rfl
    clear hp hq hk
    go_enter Try.func11, Try.ntmps11
    go_upto_region 1 with fail
    rw [HW.out]
    go_upto_region 5 with (first | (go_at_call 26; refine Calls.mono (HB.out _ _ I1.out) ?_; rintro e w2 ⟨rfl, i2⟩; have I2 : Hid (DoI w w2 base X Y S T p.1 q.1 v) := i2; clear i2) | (go_at_call 22; refine Calls.mono HA.out ?_; rintro e w1 ⟨rfl, i1⟩; have y1 := i1.d.box 1 _ rfl; have y2 := i1.d.box 2 _ rfl; have I1 : Hid (DoI w w1 base X Y S T p.1 m v) := i1; clear i1))
    clear z0 z1 z2 y1 y2 HA HB I1
    cases c1 : (p.2.1 == q.2.1) with
    | false =>
      go_wp2
      go_ret
      exact I2.out.fin rfl (fun e => by have e2 := HPQ.out e; rw [e2] at c1; simp at c1) HDA.out HDB.out
    | true =>
      cases c2 : (p.2.2.1 == q.2.2.1) with
      | false =>
        go_wp2
        go_ret
        exact I2.out.fin rfl (fun e => by have e2 := HPQ.out e; rw [e2] at c2; simp at c2) HDA.out HDB.out
      | true =>
        cases c3 : (p.2.2.2 == q.2.2.2) with
        | false =>
          go_wp2
          go_ret
          exact I2.out.fin rfl (fun e => by have e2 := HPQ.out e; rw [e2] at c3; simp at c3) HDA.out HDB.out
        | true =>
          go_wp2
          go_ret
          exact I2.out.fin rfl (fun _ => rfl) HDA.out HDB.out
  | false =>
    cases k1 : (v.kind == 1) with
    | true =>
      have hk : v.kind = 1 := by simpa using k1
      obtain ⟨p, hp⟩ : ∃ p, p = seClo l v.n := ⟨_, rfl⟩
      obtain ⟨q, hq⟩ : ∃ q, q = seClo m v.n := ⟨_, rfl⟩
      have HPQ : Hid (l = m → p = q) := fun e => by rw [hp, hq, e]
      have HDA : Hid (doL l v = p.1) := by show doL l v = p.1; unfold doL; rw [hp, hk]; rfl
      have HDB : Hid (doL m v = q.1) := by show doL m v = q.1; unfold doL; rw [hq, hk]; rfl
      have HI0 : Hid (DoI w W.drew base X Y S T l m v) := HI.out.below (Below.refl _ W).drew
      have HA : Hid (Calls Try.prog 25 #[.pointer (some ⟨X, 0, none⟩), .int .i64 v.n] W.drew fun e w' => e = .returned (.bool p.2) ∧ DoI w w' base X Y S T p.1 m v) := by rw [hp]; exact HI0.out.cloA HK.out.1.n
      have HB : Hid (∀ y l', DoI w y base X Y S T l' m v → Calls Try.prog 27 #[.pointer (some ⟨Y, 0, none⟩), .int .i64 v.n] y fun e w' => e = .returned (.bool q.2) ∧ DoI w w' base X Y S T l' q.1 v) := by rw [hq]; exact fun y l' i => i.cloB HK.out.1.n
      clear hp hq hk
      go_enter Try.func11, Try.ntmps11
      go_upto_region 1 with fail
      rw [HW.out]
      go_upto_region 7 with fail
      refine wp_region_held_drew (S := (fun y : World => SdAt y w.heap.size v)) (by kernel_rfl) ?_ (fun hHeld0 => ?_)
      · exact HI0.out.d
      refine tk0 (.pointer (some ⟨X, 0, none⟩)) (by kernel_rfl) (by kernel_rfl) (by kernel_rfl) (fun _ _ _ h => h) rfl (fun w hSw => by (try dsimp only at hSw); have s1 := SdAt.box hSw 1 _ rfl; go_simp) (by assumption) ?_
      try simp only [Act.put, List.setIfInBounds_toArray, List.set_cons_zero, List.set_cons_succ]
      refine tk1 (.pointer (some ⟨w.heap.size, 1, none⟩)) (by kernel_rfl) (by kernel_rfl) (by kernel_rfl) (fun _ _ _ h => h) rfl (fun w hSw => by (try dsimp only at hSw); have s1 := SdAt.box hSw 1 _ rfl; go_simp) (by assumption) ?_
      try simp only [Act.put, List.setIfInBounds_toArray, List.set_cons_zero, List.set_cons_succ]
      refine tk2 (.int .i64 v.n) (by kernel_rfl) (by kernel_rfl) (by kernel_rfl) (fun _ _ _ h => h) rfl (fun w hSw => by (try dsimp only at hSw); have s1 := SdAt.box hSw 1 _ rfl; go_simp) (by assumption) ?_
      try simp only [Act.put, List.setIfInBounds_toArray, List.set_cons_zero, List.set_cons_succ]
      refine tk4 (.pointer (some ⟨Y, 0, none⟩)) (by kernel_rfl) (by kernel_rfl) (by kernel_rfl) (fun _ _ _ h => h) rfl (fun w hSw => by (try dsimp only at hSw); have s1 := SdAt.box hSw 1 _ rfl; go_simp) (by assumption) ?_
      try simp only [Act.put, List.setIfInBounds_toArray, List.set_cons_zero, List.set_cons_succ]
      refine tk5 (.pointer (some ⟨w.heap.size, 1, none⟩)) (by kernel_rfl) (by kernel_rfl) (by kernel_rfl) (fun _ _ _ h => h) rfl (fun w hSw => by (try dsimp only at hSw); have s1 := SdAt.box hSw 1 _ rfl; go_simp) (by assumption) ?_
      try simp only [Act.put, List.setIfInBounds_toArray, List.set_cons_zero, List.set_cons_succ]
      refine tk6 (.int .i64 v.n) (by kernel_rfl) (by kernel_rfl) (by kernel_rfl) (fun _ _ _ h => h) rfl (fun w hSw => by (try dsimp only at hSw); have s1 := SdAt.box hSw 1 _ rfl; go_simp) (by assumption) ?_
      try simp only [Act.put, List.setIfInBounds_toArray, List.set_cons_zero, List.set_cons_succ]
      refine cl3 (by kernel_rfl) rfl (fun K hK => ?_)
      go_simp
      go_at_call 25
      refine Calls.mono HA.out ?_
      rintro e w1 ⟨rfl, i1⟩
      have I1 : Hid (DoI w w1 base X Y S T p.1 m v) := i1
      clear i1
      refine hK.out _ _ ?_ (fun hHeld => ?_)
      · exact I1.out.d
      clear hK K
      try simp only [Act.put, List.setIfInBounds_toArray, List.set_cons_zero, List.set_cons_succ]
      refine cl7 (by kernel_rfl) rfl (fun K hK => ?_)
      go_simp
      go_at_call 27
      refine Calls.mono (HB.out _ _ I1.out) ?_
      rintro e w2 ⟨rfl, i2⟩
      have I2 : Hid (DoI w w2 base X Y S T p.1 q.1 v) := i2
      clear i2
      refine hK.out _ _ ?_ (fun hHeld => ?_)
      · exact I2.out.d
      clear hK K
      try simp only [Act.put, List.setIfInBounds_toArray, List.set_cons_zero, List.set_cons_succ]
      refine tk8 (.bool (p.2 == q.2)) (by kernel_rfl) (by kernel_rfl) (by kernel_rfl) (fun _ _ _ h => h) rfl (fun w hSw => by (try dsimp only at hSw); have s1 := SdAt.box hSw 1 _ rfl; go_simp) (by assumption) ?_
      try simp only [Act.put, List.setIfInBounds_toArray, List.set_cons_zero, List.set_cons_succ]
      refine tk9 (.bool (p.2 == q.2)) (by kernel_rfl) (by kernel_rfl) (by kernel_rfl) (fun _ _ _ h => h) rfl (fun w hSw => by (try dsimp only at hSw); have s1 := SdAt.box hSw 1 _ rfl; go_simp) (by assumption) ?_
      try simp only [Act.put, List.setIfInBounds_toArray, List.set_cons_zero, List.set_cons_succ]
      refine wpAnyH_done (by kernel_rfl) ?_ _
      go_wp2
      go_ret
      exact I2.out.fin rfl (fun e => by rw [HPQ.out e]; simp) HDA.out HDB.out
    | false =>
      cases k2 : (v.kind == 2) with
      | true =>
        have hk : v.kind = 2 := by simpa using k2
        obtain ⟨p, hp⟩ : ∃ p, p = seBeg l v.n v.seq := ⟨_, rfl⟩
        obtain ⟨q, hq⟩ : ∃ q, q = seBeg m v.n v.seq := ⟨_, rfl⟩
        have HPQ : Hid (l = m → p = q) := fun e => by rw [hp, hq, e]
        have HDA : Hid (doL l v = p.1) := by show doL l v = p.1; unfold doL; rw [hp, hk]; rfl
        have HDB : Hid (doL m v = q.1) := by show doL m v = q.1; unfold doL; rw [hq, hk]; rfl
        have HA : Hid (Calls Try.prog 23 #[.pointer (some ⟨X, 0, none⟩), .int .i64 v.n, .int .i64 v.seq] W fun e w' => e = .returned (.tuple #[.agg (seRA p.2.1), .int .i64 p.2.2]) ∧ DoI w w' base X Y S T p.1 m v) := by rw [hp]; exact HI.out.begA HK.out.1.n HK.out.1.seq
        have HB : Hid (∀ y l', DoI w y base X Y S T l' m v → Calls Try.prog 28 #[.pointer (some ⟨Y, 0, none⟩), .int .i64 v.n, .int .i64 v.seq] y fun e w' => e = .returned (.tuple #[.agg (seRA q.2.1), .int .i64 q.2.2]) ∧ DoI w w' base X Y S T l' q.1 v) := by rw [hq]; exact fun y l' i => i.begB HK.out.1.n HK.out.1.seq
        have z1 := HI.out.d.box 1 _ rfl
        have z2 := HI.out.d.box 2 _ rfl
        have HQ : Hid (q = seBeg m v.n v.seq) := hq
        clear hp hq hk
        go_enter Try.func11, Try.ntmps11
        go_upto_region 1 with fail
        rw [HW.out]
        go_upto_region 10 with (go_at_call 23; refine Calls.mono HA.out ?_; rintro e w1 ⟨rfl, i1⟩; have I1 : Hid (DoI w w1 base X Y S T p.1 m v) := i1; clear i1)
        obtain ⟨y1, hy1⟩ : ∃ y, y = w1.alloc (.cells (seRA p.2.1) 36) := ⟨_, rfl⟩
        have b1 : Below w1.heap.size w1 y1 := by rw [hy1]; exact (Below.refl _ w1).alloc (Nat.le_refl _) _
        have r1 : y1.heap[w1.heap.size]? = some (.cells (seRA p.2.1) 36 (0, 0)) := by rw [hy1]; exact heap_alloc_new w1 _
        have J1 : Hid (DoI w y1 base X Y S T p.1 m v) := I1.out.below b1
        have R1 : Hid _ := r1
        have B1 : Hid _ := b1
        rw [show w1.alloc (.cells (seRA p.2.1) 36) = y1 from hy1.symm]
        clear hy1 b1 r1 z1 z2
        have z1 := J1.out.d.box 1 _ rfl
        have z2 := J1.out.d.box 2 _ rfl
        have HBQ : Hid (Calls Try.prog 28 #[.pointer (some ⟨Y, 0, none⟩), .int .i64 v.n, .int .i64 v.seq] y1 fun e w' => (e = .returned (.tuple #[.agg (seRA q.2.1), .int .i64 q.2.2]) ∧ DoI w w' base X Y S T p.1 q.1 v) ∧ w'.heap[w1.heap.size]? = some (.cells (seRA p.2.1) 36 (0, 0))) := by have e := HQ.out; rw [e]; exact I1.out.begC B1.out HK.out.1.n HK.out.1.seq (Nat.le_refl _) R1.out
        go_upto_region 11 with (go_at_call 28; refine Calls.mono (HBQ.out) ?_; rintro e w2 ⟨⟨rfl, i2⟩, k2⟩; have I2 : Hid (DoI w w2 base X Y S T p.1 q.1 v) := i2; have K1 : Hid (w2.heap[w1.heap.size]? = some (.cells (seRA p.2.1) 36 (0, 0))) := k2; clear i2 k2)
        obtain ⟨y2, hy2⟩ : ∃ y, y = w2.alloc (.cells (seRA q.2.1) 36) := ⟨_, rfl⟩
        have b2 : Below w2.heap.size w2 y2 := by rw [hy2]; exact (Below.refl _ w2).alloc (Nat.le_refl _) _
        have r2 : y2.heap[w2.heap.size]? = some (.cells (seRA q.2.1) 36 (0, 0)) := by rw [hy2]; exact heap_alloc_new w2 _
        have J2 : Hid (DoI w y2 base X Y S T p.1 q.1 v) := I2.out.below b2
        have q1 : y2.heap[w1.heap.size]? = some (.cells (seRA p.2.1) 36 (0, 0)) := (b2.block _ (lt_of_block K1.out)).trans K1.out
        have Q1 : Hid _ := q1
        have R2 : Hid _ := r2
        rw [show w2.alloc (.cells (seRA q.2.1) 36) = y2 from hy2.symm]
        have HE := se_eql p.2.1 q.2.1
        clear hy2 b2 r2 q1 z1 z2
        cases c1 : seRB p.2.1 q.2.1 with
        | false =>
          go_wp2_with (first | (show wpList _ _ _ (⟨_, Op.load 36 _, _, _, _, _⟩ :: _) _ _; refine load_row_g rfl 36 _ rfl w1.heap.size rfl 36 (seRA p.2.1) _ _ Q1.out Try.underlying36 rfl sizeRep ?_) | (show wpList _ _ _ (⟨_, Op.load 36 _, _, _, _, _⟩ :: _) _ _; refine load_row_g rfl 36 _ rfl w2.heap.size rfl 36 (seRA q.2.1) _ _ R2.out Try.underlying36 rfl sizeRep ?_))
          go_ret
          exact J2.out.fin rfl (fun e => by have e2 := HPQ.out e; rw [e2] at c1; simp [seRB_self] at c1) HDA.out HDB.out
        | true =>
          cases c2 : (p.2.2 == q.2.2) with
          | false =>
            go_wp2_with (first | (show wpList _ _ _ (⟨_, Op.load 36 _, _, _, _, _⟩ :: _) _ _; refine load_row_g rfl 36 _ rfl w1.heap.size rfl 36 (seRA p.2.1) _ _ Q1.out Try.underlying36 rfl sizeRep ?_) | (show wpList _ _ _ (⟨_, Op.load 36 _, _, _, _, _⟩ :: _) _ _; refine load_row_g rfl 36 _ rfl w2.heap.size rfl 36 (seRA q.2.1) _ _ R2.out Try.underlying36 rfl sizeRep ?_))
            go_ret
            exact J2.out.fin rfl (fun e => by have e2 := HPQ.out e; rw [e2] at c2; simp at c2) HDA.out HDB.out
          | true =>
            go_wp2_with (first | (show wpList _ _ _ (⟨_, Op.load 36 _, _, _, _, _⟩ :: _) _ _; refine load_row_g rfl 36 _ rfl w1.heap.size rfl 36 (seRA p.2.1) _ _ Q1.out Try.underlying36 rfl sizeRep ?_) | (show wpList _ _ _ (⟨_, Op.load 36 _, _, _, _, _⟩ :: _) _ _; refine load_row_g rfl 36 _ rfl w2.heap.size rfl 36 (seRA q.2.1) _ _ R2.out Try.underlying36 rfl sizeRep ?_))
            go_ret
            exact J2.out.fin rfl (fun _ => rfl) HDA.out HDB.out
      | false =>
        cases k3 : (v.kind == 3) with
        | true =>
          have hk : v.kind = 3 := by simpa using k3
          obtain ⟨p, hp⟩ : ∃ p, p = seEnd l v.r := ⟨_, rfl⟩
          obtain ⟨q, hq⟩ : ∃ q, q = seEnd m v.r := ⟨_, rfl⟩
          have HPQ : Hid (l = m → p = q) := fun e => by rw [hp, hq, e]
          have HDA : Hid (doL l v = p.1) := by show doL l v = p.1; unfold doL; rw [hp, hk]; rfl
          have HDB : Hid (doL m v = q.1) := by show doL m v = q.1; unfold doL; rw [hq, hk]; rfl
          have HR : Hid v.r.Ok := HK.out.1.rep HK.out.2.1 hk
          have HI0 : Hid (DoI w W.drew base X Y S T l m v) := HI.out.below (Below.refl _ W).drew
          have HA : Hid (Calls Try.prog 24 #[.pointer (some ⟨X, 0, none⟩), .agg (seRA v.r)] W.drew fun e w' => e = .returned (.bool p.2) ∧ DoI w w' base X Y S T p.1 m v) := by rw [hp]; exact HI0.out.finA HK.out.1.rs HR.out
          have HB : Hid (∀ y l', DoI w y base X Y S T l' m v → Calls Try.prog 29 #[.pointer (some ⟨Y, 0, none⟩), .agg (seRA v.r)] y fun e w' => e = .returned (.bool q.2) ∧ DoI w w' base X Y S T l' q.1 v) := by rw [hq]; exact fun y l' i => i.finB HK.out.1.rs HR.out
          clear hp hq hk
          go_enter Try.func11, Try.ntmps11
          go_upto_region 1 with fail
          rw [HW.out]
          go_upto_region 13 with fail
          refine wp_region_held_drew (S := (fun y : World => SdAt y w.heap.size v)) (by kernel_rfl) ?_ (fun hHeld0 => ?_)
          · exact HI0.out.d
          refine tk0 (.pointer (some ⟨X, 0, none⟩)) (by kernel_rfl) (by kernel_rfl) (by kernel_rfl) (fun _ _ _ h => h) rfl (fun w hSw => by (try dsimp only at hSw); have s3 := SdAt.box hSw 3 _ rfl; have s4 := SdAt.box hSw 4 _ rfl; have s5 := SdAt.box hSw 5 _ rfl; have s6 := SdAt.box hSw 6 _ rfl; have s7 := SdAt.box hSw 7 _ rfl; go_simp) (by assumption) ?_
          try simp only [Act.put, List.setIfInBounds_toArray, List.set_cons_zero, List.set_cons_succ]
          refine tk1 (.pointer (some ⟨w.heap.size, 3, none⟩)) (by kernel_rfl) (by kernel_rfl) (by kernel_rfl) (fun _ _ _ h => h) rfl (fun w hSw => by (try dsimp only at hSw); have s3 := SdAt.box hSw 3 _ rfl; have s4 := SdAt.box hSw 4 _ rfl; have s5 := SdAt.box hSw 5 _ rfl; have s6 := SdAt.box hSw 6 _ rfl; have s7 := SdAt.box hSw 7 _ rfl; go_simp) (by assumption) ?_
          try simp only [Act.put, List.setIfInBounds_toArray, List.set_cons_zero, List.set_cons_succ]
          refine tk2 (.agg (seRA v.r)) (by kernel_rfl) (by kernel_rfl) (by kernel_rfl) (fun _ _ _ h => h) rfl (fun w hSw => by (try dsimp only at hSw); have s3 := SdAt.box hSw 3 _ rfl; have s4 := SdAt.box hSw 4 _ rfl; have s5 := SdAt.box hSw 5 _ rfl; have s6 := SdAt.box hSw 6 _ rfl; have s7 := SdAt.box hSw 7 _ rfl; go_simp) (by assumption) ?_
          try simp only [Act.put, List.setIfInBounds_toArray, List.set_cons_zero, List.set_cons_succ]
          refine tk4 (.pointer (some ⟨Y, 0, none⟩)) (by kernel_rfl) (by kernel_rfl) (by kernel_rfl) (fun _ _ _ h => h) rfl (fun w hSw => by (try dsimp only at hSw); have s3 := SdAt.box hSw 3 _ rfl; have s4 := SdAt.box hSw 4 _ rfl; have s5 := SdAt.box hSw 5 _ rfl; have s6 := SdAt.box hSw 6 _ rfl; have s7 := SdAt.box hSw 7 _ rfl; go_simp) (by assumption) ?_
          try simp only [Act.put, List.setIfInBounds_toArray, List.set_cons_zero, List.set_cons_succ]
          refine tk5 (.pointer (some ⟨w.heap.size, 3, none⟩)) (by kernel_rfl) (by kernel_rfl) (by kernel_rfl) (fun _ _ _ h => h) rfl (fun w hSw => by (try dsimp only at hSw); have s3 := SdAt.box hSw 3 _ rfl; have s4 := SdAt.box hSw 4 _ rfl; have s5 := SdAt.box hSw 5 _ rfl; have s6 := SdAt.box hSw 6 _ rfl; have s7 := SdAt.box hSw 7 _ rfl; go_simp) (by assumption) ?_
          try simp only [Act.put, List.setIfInBounds_toArray, List.set_cons_zero, List.set_cons_succ]
          refine tk6 (.agg (seRA v.r)) (by kernel_rfl) (by kernel_rfl) (by kernel_rfl) (fun _ _ _ h => h) rfl (fun w hSw => by (try dsimp only at hSw); have s3 := SdAt.box hSw 3 _ rfl; have s4 := SdAt.box hSw 4 _ rfl; have s5 := SdAt.box hSw 5 _ rfl; have s6 := SdAt.box hSw 6 _ rfl; have s7 := SdAt.box hSw 7 _ rfl; go_simp) (by assumption) ?_
          try simp only [Act.put, List.setIfInBounds_toArray, List.set_cons_zero, List.set_cons_succ]
          refine cl3 (by kernel_rfl) rfl (fun K hK => ?_)
          go_simp
          go_at_call 24
          refine Calls.mono HA.out ?_
          rintro e w1 ⟨rfl, i1⟩
          have I1 : Hid (DoI w w1 base X Y S T p.1 m v) := i1
          clear i1
          refine hK.out _ _ ?_ (fun hHeld => ?_)
          · exact I1.out.d
          clear hK K
          try simp only [Act.put, List.setIfInBounds_toArray, List.set_cons_zero, List.set_cons_succ]
          refine cl7 (by kernel_rfl) rfl (fun K hK => ?_)
          go_simp
          go_at_call 29
          refine Calls.mono (HB.out _ _ I1.out) ?_
          rintro e w2 ⟨rfl, i2⟩
          have I2 : Hid (DoI w w2 base X Y S T p.1 q.1 v) := i2
          clear i2
          refine hK.out _ _ ?_ (fun hHeld => ?_)
          · exact I2.out.d
          clear hK K
          try simp only [Act.put, List.setIfInBounds_toArray, List.set_cons_zero, List.set_cons_succ]
          refine tk8 (.bool (p.2 == q.2)) (by kernel_rfl) (by kernel_rfl) (by kernel_rfl) (fun _ _ _ h => h) rfl (fun w hSw => by (try dsimp only at hSw); have s3 := SdAt.box hSw 3 _ rfl; have s4 := SdAt.box hSw 4 _ rfl; have s5 := SdAt.box hSw 5 _ rfl; have s6 := SdAt.box hSw 6 _ rfl; have s7 := SdAt.box hSw 7 _ rfl; go_simp) (by assumption) ?_
          try simp only [Act.put, List.setIfInBounds_toArray, List.set_cons_zero, List.set_cons_succ]
          refine tk9 (.bool (p.2 == q.2)) (by kernel_rfl) (by kernel_rfl) (by kernel_rfl) (fun _ _ _ h => h) rfl (fun w hSw => by (try dsimp only at hSw); have s3 := SdAt.box hSw 3 _ rfl; have s4 := SdAt.box hSw 4 _ rfl; have s5 := SdAt.box hSw 5 _ rfl; have s6 := SdAt.box hSw 6 _ rfl; have s7 := SdAt.box hSw 7 _ rfl; go_simp) (by assumption) ?_
          try simp only [Act.put, List.setIfInBounds_toArray, List.set_cons_zero, List.set_cons_succ]
          refine wpAnyH_done (by kernel_rfl) ?_ _
          go_wp2
          go_ret
          exact I2.out.fin rfl (fun e => by rw [HPQ.out e]; simp) HDA.out HDB.out
        | false =>
          have hd : ∀ l, doL l v = l := fun l => by unfold doL; rw [if_neg (by simpa using k0), if_neg (by simpa using k1), if_neg (by simpa using k2), if_neg (by simpa using k3)]
          have HDA : Hid (doL l v = l) := hd l
          have HDB : Hid (doL m v = m) := hd m
          clear hd
          go_enter Try.func11, Try.ntmps11
          go_upto_region 1 with fail
          rw [HW.out]
          go_wp2
          go_ret
          exact HI.out.fin rfl (fun _ => rfl) HDA.out HDB.out
end Go.Proofs.Ythokbififjhflaa
