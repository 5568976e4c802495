/-
  The document's disk (package latchkeyref05): bytes behind a file's, one by one. The condition: a file has at most 2^40 bytes.
-/
import Derived.Test.YtkdglkaeglhibaaGreatDoorPRkB
import Derived.Deep.RegionHeld3
import Derived.Test.YtkdglkaeglhibaaGreatDoorPRTake
namespace Go.Proofs.YtkdglkaeglhibaaGreatDoor
open Go.RowKit

theorem infoR : (Tryz.prog.info? 70).map (fun i => (i.zero, i.size, i.bytes)) = some (some (.agg #[.int .u8 0, .int .i64 0]), 2, 16) := by kernel_rfl
theorem bsL_snoc (bs : List (UInt8 × Nat)) (b : UInt8 × Nat) : bsL (bs ++ [b]) = bsL bs ++ [.int .u8 (b.1.toNat : Int), .int .i64 (b.2 : Int)] := by
  unfold bsL
  rw [List.flatMap_append]
  simp [bL]
theorem fsL_set {l : List (Fl × Value)} {j : Nat} (hj : j < l.length) (bs : List (UInt8 × Nat)) (u : Value) : (fsL l).set (j * 2 + 1) u = fsL (l.set j (⟨l[j].1.name, bs⟩, u)) := by
  unfold fsL
  induction l generalizing j with
  | nil => simp at hj
  | cons a l ih =>
    cases j with
    | zero => simp [fL]
    | succ j =>
      rw [List.flatMap_cons, List.set_cons_succ, List.flatMap_cons]
      simp only [List.getElem_cons_succ]
      rw [← ih (by simpa using hj)]
      show ([_, _] ++ _ : List Value).set _ _ = [_, _] ++ _
      rw [show (j + 1) * 2 + 1 = (j * 2 + 1) + 1 + 1 by omega]
      rfl
/-- One byte more behind a file's. -/
theorem DkAt.appended {w w4 : World} {base D : Nat} {l : List (Fl × Value)} {clock : Nat} {g cap : Nat} {u : Value} {o : Obj} {j : Nat} {b : UInt8 × Nat} (h : DkAt w base D l clock (.slice (some ⟨g, 0, none⟩) l.length cap)) (hj : j < l.length) {c2 : Nat} {x : Value} (hx : x = .int .i64 (c2 : Int))
    (hg : ((w.setCell ⟨D, 1, none⟩ x).alloc o).drew.grownBy w4 l[j].2.ownBlock) (hr : w4.ownsRow base 70 2 u (l[j].1.bs ++ [b]).length (bsL (l[j].1.bs ++ [b]))) (hat : l[j].2.ownBlock = u.ownBlock ∨ ∀ q, u.ownBlock = some q → w.heap.size ≤ q) :
    DkAt (w4.setCell ⟨g, j * 2 + 1, none⟩ u) base D (l.set j (⟨l[j].1.name, l[j].1.bs ++ [b]⟩, u)) c2 (.slice (some ⟨g, 0, none⟩) l.length cap) := by
  subst hx
  have hm : l[j] ∈ l := List.getElem_mem hj
  have hD := lt_of_block h.bl
  have hs : w.heap.size + 1 ≤ w4.heap.size := by simpa using hg.size
  have hgl : g < w.heap.size := ((h.row.lt g rfl)).2
  have gD : g ≠ D := fun e => h.nD (by rw [← e]; rfl)
  have nV : l[j].2.ownBlock ≠ some g := fun e => (h.eD _ hm).2 g e rfl
  have nD := (h.eD _ hm).1
  have old : ∀ q, q < w.heap.size → q ≠ D → some q ≠ l[j].2.ownBlock → w4.heap[q]? = w.heap[q]? := fun q hq hqD hqn => by
    rw [hg.block q (by simp; omega) hqn]
    show ((w.setCell ⟨D, 1, none⟩ _).alloc o).heap[q]? = _
    rw [heap_alloc_old _ _ (by simpa using hq), heap_setCell_other _ _ _ _ (by simpa using hqD)]
  have d4 : w4.heap[D]? = some (.cells #[.slice (some ⟨g, 0, none⟩) l.length cap, .int .i64 (c2 : Int)] 28 (0, 0)) := by
    rw [hg.block D (by simp; omega) nD.symm]
    show ((w.setCell ⟨D, 1, none⟩ _).alloc o).heap[D]? = _
    rw [heap_alloc_old _ _ (by simpa using hD), heap_setCell_same w D 1 _ _ _ h.bl]
    rfl
  have ug : u.ownBlock ≠ some g := fun e => by
    rcases hat with e2 | e2
    · exact nV (by rw [e2]; exact e)
    · have := e2 g e
      omega
  have uD : u.ownBlock ≠ some D := fun e => by
    rcases hat with e2 | e2
    · exact nD (by rw [e2]; exact e)
    · have := e2 D e
      omega
  have row4 : w4.ownsRow base 68 2 (.slice (some ⟨g, 0, none⟩) l.length cap) l.length (fsL l) := own_keep h.row (fun q e => by
    simp only [Value.ownBlock, Option.some.injEq] at e
    subst e
    exact old g hgl gD nV.symm)
  have hst := row4.stored (j * 2 + 1) u
  rw [fsL_set hj (l[j].1.bs ++ [b]) u] at hst
  have bo : ∀ q, q ≠ g → (w4.setCell ⟨g, j * 2 + 1, none⟩ u).heap[q]? = w4.heap[q]? := fun q hq => heap_setCell_other _ _ _ _ (by simpa using hq)
  refine ⟨(bo D gD.symm).trans d4, ?_, fun q hq => ?_, h.lo, by simpa [Value.ownBlock] using gD, fun q hq => ?_, ?_⟩
  · rw [List.length_set]
    exact hst.1
  · rcases set_mem hq with rfl | ⟨i, hi, hne2, rfl⟩
    · exact own_keep hr (fun q e => bo q (fun e2 => ug (by rw [← e2]; exact e)))
    · refine own_keep (h.each _ (List.getElem_mem hi)) (fun q e => ?_)
      have hql := ((h.each _ (List.getElem_mem hi)).lt q e).2
      rw [bo q (fun e2 => (h.eD _ (List.getElem_mem hi)).2 g (by rw [← e2]; exact e) rfl), old q hql (fun e2 => (h.eD _ (List.getElem_mem hi)).1 (by rw [← e2]; exact e)) (fun e2 => sep_at h.sep hi hj hne2 q e e2.symm)]
  · rcases set_mem hq with rfl | ⟨i, hi, hne2, rfl⟩
    · exact ⟨uD, fun q e e2 => ug (by rw [e]; exact e2.symm)⟩
    · exact h.eD _ (List.getElem_mem hi)
  · rw [List.pairwise_iff_getElem]
    intro i k hi hk hik q e1 e2
    have hi2 : i < l.length := by simpa using hi
    have hk2 : k < l.length := by simpa using hk
    have un : ∀ m (hm2 : m < l.length), m ≠ j → ∀ q, u.ownBlock = some q → l[m].2.ownBlock ≠ some q := fun m hm2 hmj q e3 e4 => by
      rcases hat with e5 | e5
      · exact sep_at h.sep hm2 hj hmj q e4 (by rw [e5]; exact e3)
      · have h6 := e5 q e3
        have h7 := ((h.each _ (List.getElem_mem hm2)).lt q e4).2
        omega
    rw [List.getElem_set] at e1 e2
    by_cases c1 : j = i
    · rw [if_pos c1] at e1
      rw [if_neg (by omega)] at e2
      exact un k hk2 (by omega) q e1 e2
    · rw [if_neg c1] at e1
      by_cases c2 : j = k
      · rw [if_pos c2] at e2
        exact un i hi2 (by omega) q e2 e1
      · rw [if_neg c2] at e2
        exact sep_at h.sep hi2 hk2 (by omega) q e1 e2
section
variable {P : Program} {md : Region.Mode} {Q : Exit → Act → World → Prop} {S : World → Prop} {fuel : Nat} {listed : Array Bool} {a : Act} {w : World} {l : List Oper}
/-- Two operations may come up: either first. -/
theorem rd12_21 {o0 o1 o2 o3 o4 o5 o6 o7 o8 o9 o10 o11 o12 o13 o14 o15 o16 o17 o18 o19 o20 o21 : Oper} (hr : Region.ready md (o0 :: o1 :: o2 :: o3 :: o4 :: o5 :: o6 :: o7 :: o8 :: o9 :: o10 :: o11 :: o12 :: o13 :: o14 :: o15 :: o16 :: o17 :: o18 :: o19 :: o20 :: o21 :: l).toArray listed = [12, 21]) (hw1 : Region.wanted o12 (yielded (o0 :: o1 :: o2 :: o3 :: o4 :: o5 :: o6 :: o7 :: o8 :: o9 :: o10 :: o11 :: o12 :: o13 :: o14 :: o15 :: o16 :: o17 :: o18 :: o19 :: o20 :: o21 :: l).toArray a.tmps) = true) (hw2 : Region.wanted o21 (yielded (o0 :: o1 :: o2 :: o3 :: o4 :: o5 :: o6 :: o7 :: o8 :: o9 :: o10 :: o11 :: o12 :: o13 :: o14 :: o15 :: o16 :: o17 :: o18 :: o19 :: o20 :: o21 :: l).toArray a.tmps) = true)
    (h1 : ∀ K' : Act → World → Prop, Shut (∀ a w, S w → (S w → wpAnyH P md (o0 :: o1 :: o2 :: o3 :: o4 :: o5 :: o6 :: o7 :: o8 :: o9 :: o10 :: o11 :: o12 :: o13 :: o14 :: o15 :: o16 :: o17 :: o18 :: o19 :: o20 :: o21 :: l).toArray Q S fuel (listed.setIfInBounds 12 true) a w) → K' a w) → Oper.wp P o12 a w K' Q)
    (h2 : ∀ K' : Act → World → Prop, Shut (∀ a w, S w → (S w → wpAnyH P md (o0 :: o1 :: o2 :: o3 :: o4 :: o5 :: o6 :: o7 :: o8 :: o9 :: o10 :: o11 :: o12 :: o13 :: o14 :: o15 :: o16 :: o17 :: o18 :: o19 :: o20 :: o21 :: l).toArray Q S fuel (listed.setIfInBounds 21 true) a w) → K' a w) → Oper.wp P o21 a w K' Q) : wpAnyH P md (o0 :: o1 :: o2 :: o3 :: o4 :: o5 :: o6 :: o7 :: o8 :: o9 :: o10 :: o11 :: o12 :: o13 :: o14 :: o15 :: o16 :: o17 :: o18 :: o19 :: o20 :: o21 :: l).toArray Q S (fuel + 1) listed a w :=
  wpAnyH_ready hr (by simp) (AllReadyH.cons (o := o12) rfl (fun K hK => by rw [if_pos hw1]; exact h1 K hK) (AllReadyH.cons (o := o21) rfl (fun K hK => by rw [if_pos hw2]; exact h2 K hK) AllReadyH.nil))
end
/-- Bytes with when they were appended. -/
def stR : List UInt8 → Nat → List (UInt8 × Nat)
  | [], _ => []
  | b :: r, c => (b, c + 1) :: stR r (c + 1)
theorem stR_snoc (b : UInt8) : ∀ (l : List UInt8) (c : Nat), stR (l ++ [b]) c = stR l c ++ [(b, c + l.length + 1)]
  | [], c => rfl
  | a :: l, c => by
    rw [List.cons_append]
    simp only [stR, List.length_cons]
    rw [stR_snoc b l (c + 1), List.cons_append, show c + 1 + l.length + 1 = c + (l.length + 1) + 1 by omega]
theorem stR_length : ∀ (l : List UInt8) (c : Nat), (stR l c).length = l.length
  | [], _ => rfl
  | _ :: l, c => by
    simp only [stR, List.length_cons]
    rw [stR_length l (c + 1)]
/-- While bytes are appended: k of them are. -/
structure RInv (w wr : World) (base D : Nat) (l : List (Fl × Value)) (clock g cap j k : Nat) (hj : j < l.length) (s : ByteArray) (u : Value) : Prop where
  le : k ≤ s.size
  at_ : DkAt wr base D (l.set j (⟨l[j].1.name, l[j].1.bs ++ stR (s.data.toList.take k) clock⟩, u)) (clock + k) (.slice (some ⟨g, 0, none⟩) l.length cap)
  kept : ∀ b, b < w.heap.size → b ≠ D → b ≠ g → some b ≠ l[j].2.ownBlock → wr.heap[b]? = w.heap[b]?
  ub : u.ownBlock = l[j].2.ownBlock ∨ ∀ q, u.ownBlock = some q → w.heap.size ≤ q
  os : wr.os = w.os
  tape : wr.tape = w.tape
  output : wr.output = w.output
  size : w.heap.size ≤ wr.heap.size
theorem RInv.step {w wr w3 w4 : World} {base D : Nat} {l : List (Fl × Value)} {clock g cap j k : Nat} {hj : j < l.length} {s : ByteArray} {u : Value} {BS : List (UInt8 × Nat)} {pu : Option Addr} {cu gg cp : Nat} {o : Obj} (I : RInv w wr base D l clock g cap j k hj s u) (hk : k < s.size)
    (h3 : w3 = wr.setCell ⟨D, 1, none⟩ (.int .i64 ((clock : Int) + (k : Int) + 1))) (hu : u = .slice pu BS.length cu) (hBS : BS = l[j].1.bs ++ stR (s.data.toList.take k) clock) (hg : (w3.alloc o).drew.grownBy w4 (Value.slice pu BS.length cu).ownBlock) (hat : (Value.slice pu BS.length cu).ownBlock = some gg ∨ gg = w3.heap.size + 1)
    (hr : w4.ownsRow base 70 2 (.slice (some ⟨gg, 0, none⟩) (BS.length + 1) cp) (BS.length + 1) (bsL BS ++ [.int .u8 (s[k].toNat : Int), .int .i64 ((clock : Int) + (k : Int) + 1)])) :
    RInv w (w4.setCell ⟨g, j * 2 + 1, none⟩ (.slice (some ⟨gg, 0, none⟩) (BS.length + 1) cp)) base D l clock g cap j (k + 1) hj s (.slice (some ⟨gg, 0, none⟩) (BS.length + 1) cp) := by
  have hkl : k < s.data.toList.length := by rw [← Lib.size_eq]; exact hk
  have hb : s.data.toList[k] = s[k] := rfl
  have A := I.at_
  rw [← hBS] at A
  obtain ⟨L, hL⟩ : ∃ L, L = l.set j (⟨l[j].1.name, BS⟩, u) := ⟨_, rfl⟩
  have hLl : L.length = l.length := by rw [hL, List.length_set]
  have hjL : j < L.length := by rw [hLl]; exact hj
  have hLj : L[j] = (⟨l[j].1.name, BS⟩, u) := by simp [hL]
  rw [← hL, ← hLl] at A
  have hwr := I.size
  have hat2 : L[j].2.ownBlock = (Value.slice (some ⟨gg, 0, none⟩) (BS.length + 1) cp).ownBlock ∨ ∀ q, (Value.slice (some ⟨gg, 0, none⟩) (BS.length + 1) cp).ownBlock = some q → wr.heap.size ≤ q := by
    rcases hat with e | e
    · left
      rw [hLj, hu, e]
      rfl
    · right
      intro q hq
      simp only [Value.ownBlock, Option.some.injEq] at hq
      have : w3.heap.size = wr.heap.size := by rw [h3]; simp
      omega
  have R := A.appended (u := .slice (some ⟨gg, 0, none⟩) (BS.length + 1) cp) (o := o) (b := (s[k], clock + (k + 1))) (c2 := clock + (k + 1)) hjL (x := .int .i64 ((clock : Int) + (k : Int) + 1)) (by congr 1) (by
      rw [hLj, ← h3, hu]
      exact hg) (by
      rw [hLj, bsL_snoc, List.length_append]
      have e : ((clock + (k + 1) : Nat) : Int) = (clock : Int) + (k : Int) + 1 := by omega
      simp only [e]
      exact hr) hat2
  have e1 : L.set j (⟨L[j].1.name, L[j].1.bs ++ [(s[k], clock + (k + 1))]⟩, .slice (some ⟨gg, 0, none⟩) (BS.length + 1) cp) = l.set j (⟨l[j].1.name, l[j].1.bs ++ stR (s.data.toList.take (k + 1)) clock⟩, .slice (some ⟨gg, 0, none⟩) (BS.length + 1) cp) := by
    rw [hLj, hL, List.set_set, List.take_succ_eq_append_getElem hkl, stR_snoc, List.length_take, hb, hBS]
    simp only [List.append_assoc]
    rw [show clock + min k s.data.toList.length + 1 = clock + (k + 1) by omega]
  rw [e1, hLl] at R
  have hD : D < wr.heap.size := lt_of_block A.bl
  have hs4 : wr.heap.size + 1 ≤ w4.heap.size := by
    have := hg.size
    rw [h3] at this
    simpa using this
  refine ⟨hk, R, fun b hb1 hb2 hb3 hb4 => ?_, ?_, ?_, ?_, ?_, by simp; omega⟩
  · have hne : some b ≠ (Value.slice pu BS.length cu).ownBlock := by
      rw [← hu]
      intro e
      rcases I.ub with e2 | e2
      · exact hb4 (by rw [e, e2])
      · have := e2 b e.symm
        omega
    rw [heap_setCell_other _ _ _ _ (by simpa using hb3), hg.block b (by rw [h3]; simp; omega) hne]
    show (w3.alloc o).heap[b]? = _
    rw [heap_alloc_old _ _ (by rw [h3]; simp; omega), h3, heap_setCell_other _ _ _ _ (by simpa using hb2)]
    exact I.kept b hb1 hb2 hb3 hb4
  · rcases hat with e | e
    · rw [← hu] at e
      rcases I.ub with e2 | e2
      · left
        rw [← e2, e]
        rfl
      · right
        intro q hq
        simp only [Value.ownBlock, Option.some.injEq] at hq
        rw [← hq]
        exact e2 gg e
    · right
      intro q hq
      simp only [Value.ownBlock, Option.some.injEq] at hq
      have : w3.heap.size = wr.heap.size := by rw [h3]; simp
      omega
  · exact hg.os.trans (by rw [h3]; exact I.os)
  · exact hg.tape.trans (by rw [h3]; exact I.tape)
  · exact hg.output.trans (by rw [h3]; exact I.output)
theorem rappend_bad (w : World) (D : Nat) (n s : ByteArray) (hn : nameB n = false) :
    Calls Tryz.prog 10 #[.pointer (some ⟨D, 0, none⟩), .string n, .string s] w fun e w' => e = .returned (.int .i64 1) ∧ w = w' := by
  go_enter Tryz.func10, Tryz.ntmps10
  go_wp2_with (go_at_call 30; refine (name_any n _).mono ?_; rintro e w1 ⟨rfl, rfl⟩; rw [hn])
  go_ret
  exact ⟨rfl, rfl⟩
set_option maxRecDepth 100000 in
theorem rappend_long (w : World) (base D : Nat) (l : List (Fl × Value)) (clock : Nat) (v : Value) (n s : ByteArray) (hn : nameB n = true) (hl : l.length ≤ 100000) (h : DkAt w base D l clock v) (j : Nat) (hj : j < l.length) (hf : findI l n = (j : Int)) (hb : l[j].1.bs.length ≤ 4194304) (hs : 4194304 < l[j].1.bs.length + s.size) :
    Calls Tryz.prog 10 #[.pointer (some ⟨D, 0, none⟩), .string n, .string s] w fun e w' => e = .returned (.int .i64 15) ∧ w = w' := by
  have hc := find_any w base D l clock v n (by omega) h
  rw [hf] at hc
  obtain ⟨g, cap, pv, cv, rfl, _, F⟩ := h.fileAt hj
  have c0 := F.c0
  have c1 := F.c1
  have hj0 : (0 : Int) ≤ (j : Int) := by omega
  have hj1 : (j : Int) < (l.length : Int) := by omega
  have ht : decide ((4194304 : Int) - (l[j].1.bs.length : Int) < (s.size : Int)) = true := by simp; omega
  generalize l[j].1.bs = bs at *
  clear h F hf
  go_enter Tryz.func10, Tryz.ntmps10
  go_wp2_with (first | (go_at_call 31; refine hc.mono ?_; rintro e w1 ⟨rfl, rfl⟩) | (go_at_call 30; refine (name_any n _).mono ?_; rintro e w1 ⟨rfl, rfl⟩; rw [hn]))
  go_ret
  exact ⟨rfl, rfl⟩
set_option maxHeartbeats 3200000 in
set_option maxRecDepth 100000 in
theorem rappend_yes (w : World) (base D : Nat) (l : List (Fl × Value)) (clock : Nat) (v : Value) (n s : ByteArray) (hn : nameB n = true) (hl : l.length ≤ 100000) (h : DkAt w base D l clock v) (j : Nat) (hj : j < l.length) (hf : findI l n = (j : Int)) (hb : l[j].1.bs.length + s.size ≤ 4194304) (hck : clock + s.size < 4611686018427387904) :
    Calls Tryz.prog 10 #[.pointer (some ⟨D, 0, none⟩), .string n, .string s] w fun e w' => e = .returned (.int .i64 0) ∧ ∃ g cap u, v = .slice (some ⟨g, 0, none⟩) l.length cap ∧ RInv w w' base D l clock g cap j s.size hj s u := by
  have hc := find_any w base D l clock v n (by omega) h
  rw [hf] at hc
  obtain ⟨g, cap, pv, cv, rfl, ev, F⟩ := h.fileAt hj
  have HI : Hid (RInv w w base D l clock g cap j 0 hj s l[j].2) := ⟨Nat.zero_le _, by
    have e : l.set j (⟨l[j].1.name, l[j].1.bs ++ stR (s.data.toList.take 0) clock⟩, l[j].2) = l := by
      have e2 : ((⟨l[j].1.name, l[j].1.bs ++ stR (s.data.toList.take 0) clock⟩, l[j].2) : Fl × Value) = l[j] := by simp [stR]
      rw [e2]
      exact List.set_getElem_self hj
    rw [e]
    exact h, fun _ _ _ _ _ => rfl, Or.inl rfl, rfl, rfl, rfl, Nat.le_refl _⟩
  have c0 := F.c0
  have c1 := F.c1
  have hj0 : (0 : Int) ≤ (j : Int) := by omega
  have hj1 : (j : Int) < (l.length : Int) := by omega
  have hj2 : decide ((j : Int) < 0) = false := by simp
  have ht : decide ((4194304 : Int) - (l[j].1.bs.length : Int) < (s.size : Int)) = false := by simp; omega
  obtain ⟨i0, hi, hz0, hz1, hz2⟩ := info_parts infoR
  have HB : Hid (l[j].1.bs.length + s.size ≤ 4194304) := hb
  have hbl : l[j].1.bs.length ≤ 4194304 := by omega
  clear h F hf hb
  go_enter Tryz.func10, Tryz.ntmps10
  go_wp2_with (first | (go_at_call 31; refine hc.mono ?_; rintro e w1 ⟨rfl, rfl⟩) | (go_at_call 30; refine (name_any n _).mono ?_; rintro e w1 ⟨rfl, rfl⟩; rw [hn]))
  go_loopw [9] (fun i wr => ∃ k u, i = .int .i64 (k : Nat) ∧ RInv w wr base D l clock g cap j k hj s u) (fun i _ => s.size - (intOf i).toNat)
  case atStart => exact ⟨0, _, rfl, HI.out⟩
  case round =>
    obtain ⟨k, u, rfl, I⟩ := hrel
    have hkle := I.le
    by_cases hk : k < s.size
    · have A := I.at_
      have hj3 : j < (l.set j (⟨l[j].1.name, l[j].1.bs ++ stR (s.data.toList.take k) clock⟩, u)).length := by simpa using hj
      have d0 := A.cell0
      have d1 := A.cell1
      have hk0 : (0 : Int) ≤ (k : Int) := by omega
      have hk1 : (k : Int) < (s.size : Int) := by omega
      have z1 : wr.frozen? ⟨D, 1, none⟩ = false := by simp [World.frozen?, A.bl]
      obtain ⟨g2, cap2, pu, cu, ev2, eu, F2⟩ := A.fileAt hj3
      simp only [List.length_set, Value.slice.injEq, Option.some.injEq, Addr.mk.injEq, and_true, true_and] at ev2
      obtain ⟨rfl, rfl⟩ := ev2
      simp only [List.getElem_set_self, List.length_set] at eu F2
      have nD : u.ownBlock ≠ some D := by
        have h1 := (A.eD _ (List.getElem_mem hj3)).1
        simpa only [List.getElem_set_self] using h1
      have nG : u.ownBlock ≠ some g := by
        intro e
        have h1 := (A.eD _ (List.getElem_mem hj3)).2 g
        simp only [List.getElem_set_self] at h1
        exact h1 e rfl
      have gD : g ≠ D := fun e => A.nD (by rw [← e]; rfl)
      have hLb : (l[j].1.bs ++ stR (s.data.toList.take k) clock).length ≤ 4194304 := by
        have h1 := stR_length (s.data.toList.take k) clock
        have h2 := Lib.size_eq s
        rw [List.length_append, h1, List.length_take]
        have := HB.out
        omega
      have hrw := A.row
      rw [List.length_set] at hrw
      have fz := hrw.frozenAt (j * 2 + 1)
      clear hrw
      go_wp2
      obtain ⟨w3, hw3⟩ : ∃ w3, w3 = wr.setCell ⟨D, 1, none⟩ (.int .i64 ((clock : Int) + (k : Int) + 1)) := ⟨_, rfl⟩
      have H3 : Hid (w3 = wr.setCell ⟨D, 1, none⟩ (.int .i64 ((clock : Int) + (k : Int) + 1))) := hw3
      have e0 : w3.cell? ⟨D, 0, none⟩ = some (.slice (some ⟨g, 0, none⟩) l.length cap) := by
        rw [hw3]
        simp [World.cell?, heap_setCell_same wr D 1 _ _ _ A.bl]
      have e1 : w3.cell? ⟨D, 1, none⟩ = some (.int .i64 ((clock : Int) + (k : Int) + 1)) := by
        rw [hw3]
        simp [World.cell?, heap_setCell_same wr D 1 _ _ _ A.bl]
      have hgb : w3.heap[g]? = wr.heap[g]? := by rw [hw3]; exact heap_setCell_other _ _ _ _ (by simpa using gD)
      have e2 : w3.cell? ⟨g, j * 2 + 1, none⟩ = some (.slice pu (l[j].1.bs ++ stR (s.data.toList.take k) clock).length cu) := (World.cell?_of_block (a := ⟨g, j * 2 + 1, none⟩) hgb).trans F2.c1
      have e3 : w3.frozen? ⟨g, j * 2 + 1, none⟩ = false := (World.frozen?_of_block (a := ⟨g, j * 2 + 1, none⟩) hgb).trans fz
      have ho3 : w3.ownsRow base 70 2 (.slice pu (l[j].1.bs ++ stR (s.data.toList.take k) clock).length cu) (l[j].1.bs ++ stR (s.data.toList.take k) clock).length (bsL (l[j].1.bs ++ stR (s.data.toList.take k) clock)) := own_keep F2.row (fun q e => by
        rw [hw3]
        exact heap_setCell_other _ _ _ _ (by
          show q ≠ D
          rintro rfl
          exact nD (by rw [eu]; exact e)))
      have s3 : w3.heap.size = wr.heap.size := by rw [hw3]; simp
      rw [← hw3]
      have l3D : D < w3.heap.size := by rw [s3]; exact F2.lD
      have l3g : g < w3.heap.size := by rw [s3]; exact F2.lg
      have hb3 : base ≤ w3.heap.size := by have := A.lo; omega
      have HEU : Hid (u = .slice pu (l[j].1.bs ++ stR (s.data.toList.take k) clock).length cu) := eu
      have HI2 : Hid (RInv w wr base D l clock g cap j k hj s u) := I
      rw [eu] at nD nG
      have S3 : Hid (w3.heap.size = wr.heap.size) := s3
      have eD : w3.heap.size ≠ D := by omega
      have eg : w3.heap.size ≠ g := by omega
      clear hw3 s3 hgb fz d0 d1 z1 I A F2 eu
      obtain ⟨BS, hBS⟩ : ∃ BS, BS = l[j].1.bs ++ stR (s.data.toList.take k) clock := ⟨_, rfl⟩
      rw [← hBS] at e2 ho3 nD nG hLb
      have HBS : Hid (BS = l[j].1.bs ++ stR (s.data.toList.take k) clock) := hBS
      clear hBS
      have ra : ∀ o, (w3.alloc o).cell? ⟨D, 0, none⟩ = some (.slice (some ⟨g, 0, none⟩) l.length cap) := fun o => by rw [World.cell?_of_block (heap_alloc_old w3 o l3D)]; exact e0
      have rb : ∀ o, (w3.alloc o).cell? ⟨D, 1, none⟩ = some (.int .i64 ((clock : Int) + (k : Int) + 1)) := fun o => by rw [World.cell?_of_block (heap_alloc_old w3 o l3D)]; exact e1
      have rc : ∀ o, (w3.alloc o).cell? ⟨g, j * 2 + 1, none⟩ = some (.slice pu BS.length cu) := fun o => by rw [World.cell?_of_block (heap_alloc_old w3 o l3g)]; exact e2
      have rf : ∀ o, (w3.alloc o).frozen? ⟨g, j * 2 + 1, none⟩ = false := fun o => by rw [World.frozen?_of_block (heap_alloc_old w3 o l3g)]; exact e3
      refine wp_region_held_drew (S := (fun w' : World => w'.cell? ⟨D, 0, none⟩ = some (.slice (some ⟨g, 0, none⟩) l.length cap) ∧ w'.cell? ⟨D, 1, none⟩ = some (.int .i64 ((clock : Int) + (k : Int) + 1)))) (by kernel_rfl) ?_ (fun hHeld0 => ?_)
      · try dsimp only
        go_keep
      refine tk0 (.pointer (some ⟨D, 0, none⟩)) (by kernel_rfl) (by kernel_rfl) (by kernel_rfl) (fun _ _ _ h => h) rfl (fun w hSw => by (try dsimp only at hSw); obtain ⟨q0, q1⟩ := hSw; go_simp) (by assumption) ?_
      try simp only [Act.put, List.setIfInBounds_toArray, List.set_cons_zero, List.set_cons_succ]
      refine tk1 (.pointer (some ⟨D, 0, none⟩)) (by kernel_rfl) (by kernel_rfl) (by kernel_rfl) (fun _ _ _ h => h) rfl (fun w hSw => by (try dsimp only at hSw); obtain ⟨q0, q1⟩ := hSw; go_simp) (by assumption) ?_
      try simp only [Act.put, List.setIfInBounds_toArray, List.set_cons_zero, List.set_cons_succ]
      refine tk2 (.pointer (some ⟨D, 0, none⟩)) (by kernel_rfl) (by kernel_rfl) (by kernel_rfl) (fun _ _ _ h => h) rfl (fun w hSw => by (try dsimp only at hSw); obtain ⟨q0, q1⟩ := hSw; go_simp) (by assumption) ?_
      try simp only [Act.put, List.setIfInBounds_toArray, List.set_cons_zero, List.set_cons_succ]
      refine tk3 (.slice (some ⟨g, 0, none⟩) l.length cap) (by kernel_rfl) (by kernel_rfl) (by kernel_rfl) (fun _ _ _ h => h) rfl (fun w hSw => by (try dsimp only at hSw); obtain ⟨q0, q1⟩ := hSw; go_simp) (by assumption) ?_
      try simp only [Act.put, List.setIfInBounds_toArray, List.set_cons_zero, List.set_cons_succ]
      refine tk4 (.int .i64 (j : Int)) (by kernel_rfl) (by kernel_rfl) (by kernel_rfl) (fun _ _ _ h => h) rfl (fun w hSw => by (try dsimp only at hSw); obtain ⟨q0, q1⟩ := hSw; go_simp) (by assumption) ?_
      try simp only [Act.put, List.setIfInBounds_toArray, List.set_cons_zero, List.set_cons_succ]
      refine tk5 (.pointer (some ⟨D, 0, none⟩)) (by kernel_rfl) (by kernel_rfl) (by kernel_rfl) (fun _ _ _ h => h) rfl (fun w hSw => by (try dsimp only at hSw); obtain ⟨q0, q1⟩ := hSw; go_simp) (by assumption) ?_
      try simp only [Act.put, List.setIfInBounds_toArray, List.set_cons_zero, List.set_cons_succ]
      refine tk6 (.pointer (some ⟨D, 0, none⟩)) (by kernel_rfl) (by kernel_rfl) (by kernel_rfl) (fun _ _ _ h => h) rfl (fun w hSw => by (try dsimp only at hSw); obtain ⟨q0, q1⟩ := hSw; go_simp) (by assumption) ?_
      try simp only [Act.put, List.setIfInBounds_toArray, List.set_cons_zero, List.set_cons_succ]
      refine tk7 (.pointer (some ⟨D, 0, none⟩)) (by kernel_rfl) (by kernel_rfl) (by kernel_rfl) (fun _ _ _ h => h) rfl (fun w hSw => by (try dsimp only at hSw); obtain ⟨q0, q1⟩ := hSw; go_simp) (by assumption) ?_
      try simp only [Act.put, List.setIfInBounds_toArray, List.set_cons_zero, List.set_cons_succ]
      refine tk8 (.slice (some ⟨g, 0, none⟩) l.length cap) (by kernel_rfl) (by kernel_rfl) (by kernel_rfl) (fun _ _ _ h => h) rfl (fun w hSw => by (try dsimp only at hSw); obtain ⟨q0, q1⟩ := hSw; go_simp) (by assumption) ?_
      try simp only [Act.put, List.setIfInBounds_toArray, List.set_cons_zero, List.set_cons_succ]
      refine tk9 (.int .i64 (j : Int)) (by kernel_rfl) (by kernel_rfl) (by kernel_rfl) (fun _ _ _ h => h) rfl (fun w hSw => by (try dsimp only at hSw); obtain ⟨q0, q1⟩ := hSw; go_simp) (by assumption) ?_
      try simp only [Act.put, List.setIfInBounds_toArray, List.set_cons_zero, List.set_cons_succ]
      refine tk10 (.pointer (some ⟨g, j * 2, none⟩)) (by kernel_rfl) (by kernel_rfl) (by kernel_rfl) (fun _ _ _ h => h) rfl (fun w hSw => by (try dsimp only at hSw); obtain ⟨q0, q1⟩ := hSw; go_simp) (by assumption) ?_
      try simp only [Act.put, List.setIfInBounds_toArray, List.set_cons_zero, List.set_cons_succ]
      refine tk11 (.pointer (some ⟨g, j * 2 + 1, none⟩)) (by kernel_rfl) (by kernel_rfl) (by kernel_rfl) (fun _ _ _ h => h) rfl (fun w hSw => by (try dsimp only at hSw); obtain ⟨q0, q1⟩ := hSw; go_simp) (by assumption) ?_
      try simp only [Act.put, List.setIfInBounds_toArray, List.set_cons_zero, List.set_cons_succ]
      refine tk13 (.string s) (by kernel_rfl) (by kernel_rfl) (by kernel_rfl) (fun _ _ _ h => h) rfl (fun w hSw => by (try dsimp only at hSw); obtain ⟨q0, q1⟩ := hSw; go_simp) (by assumption) ?_
      try simp only [Act.put, List.setIfInBounds_toArray, List.set_cons_zero, List.set_cons_succ]
      refine tk14 (.int .i64 (k : Int)) (by kernel_rfl) (by kernel_rfl) (by kernel_rfl) (fun _ _ _ h => h) rfl (fun w hSw => by (try dsimp only at hSw); obtain ⟨q0, q1⟩ := hSw; go_simp) (by assumption) ?_
      try simp only [Act.put, List.setIfInBounds_toArray, List.set_cons_zero, List.set_cons_succ]
      refine tk15 (.int .u8 (s[k].toNat : Int)) (by kernel_rfl) (by kernel_rfl) (by kernel_rfl) (fun _ _ _ h => h) rfl (fun w hSw => by (try dsimp only at hSw); obtain ⟨q0, q1⟩ := hSw; go_simp) (by assumption) ?_
      try simp only [Act.put, List.setIfInBounds_toArray, List.set_cons_zero, List.set_cons_succ]
      refine tk16 (.pointer (some ⟨D, 0, none⟩)) (by kernel_rfl) (by kernel_rfl) (by kernel_rfl) (fun _ _ _ h => h) rfl (fun w hSw => by (try dsimp only at hSw); obtain ⟨q0, q1⟩ := hSw; go_simp) (by assumption) ?_
      try simp only [Act.put, List.setIfInBounds_toArray, List.set_cons_zero, List.set_cons_succ]
      refine tk17 (.pointer (some ⟨D, 0, none⟩)) (by kernel_rfl) (by kernel_rfl) (by kernel_rfl) (fun _ _ _ h => h) rfl (fun w hSw => by (try dsimp only at hSw); obtain ⟨q0, q1⟩ := hSw; go_simp) (by assumption) ?_
      try simp only [Act.put, List.setIfInBounds_toArray, List.set_cons_zero, List.set_cons_succ]
      refine tk18 (.pointer (some ⟨D, 1, none⟩)) (by kernel_rfl) (by kernel_rfl) (by kernel_rfl) (fun _ _ _ h => h) rfl (fun w hSw => by (try dsimp only at hSw); obtain ⟨q0, q1⟩ := hSw; go_simp) (by assumption) ?_
      try simp only [Act.put, List.setIfInBounds_toArray, List.set_cons_zero, List.set_cons_succ]
      refine tk19 (.int .i64 ((clock : Int) + (k : Int) + 1)) (by kernel_rfl) (by kernel_rfl) (by kernel_rfl) (fun _ _ _ h => h) rfl (fun w hSw => by (try dsimp only at hSw); obtain ⟨q0, q1⟩ := hSw; go_simp) (by assumption) ?_
      try simp only [Act.put, List.setIfInBounds_toArray, List.set_cons_zero, List.set_cons_succ]
      refine tk20 (.agg #[.int .u8 (s[k].toNat : Int), .int .i64 ((clock : Int) + (k : Int) + 1)]) (by kernel_rfl) (by kernel_rfl) (by kernel_rfl) (fun _ _ _ h => h) rfl (fun w hSw => by (try dsimp only at hSw); obtain ⟨q0, q1⟩ := hSw; go_simp) (by assumption) ?_
      try simp only [Act.put, List.setIfInBounds_toArray, List.set_cons_zero, List.set_cons_succ]
      refine rd12_21 (by kernel_rfl) rfl rfl (fun K hK => ?_) (fun K hK => ?_)
      · go_simp
        refine hK.out _ _ ?_ (fun hHeld => ?_)
        · try dsimp only
          go_keep
        clear hK K
        try simp only [Act.put, List.setIfInBounds_toArray, List.set_cons_zero, List.set_cons_succ]
        refine cl21 (by kernel_rfl) rfl (fun K hK => ?_)
        go_simp
        refine hK.out _ _ ?_ (fun hHeld => ?_)
        · try dsimp only
          go_keep
        clear hK K
        try simp only [Act.put, List.setIfInBounds_toArray, List.set_cons_zero, List.set_cons_succ]
        refine cl22 (by kernel_rfl) rfl (fun K hK => ?_)
        refine (wp_append_lies _ (.tmp 65) (.tmp 74) 66 rfl base 70 i0 _ 2 16 Tryz.underlying66 hi hz0 hz1 hz2 rfl (by omega) (.slice pu BS.length cu) BS.length (bsL BS) rfl ((ho3.alloc _).drew) ⟨w3.heap.size, 0, none⟩ 1 1 [.int .u8 (s[k].toNat : Int), .int .i64 ((clock : Int) + (k : Int) + 1)] rfl rfl (World.news_of_block (cs := #[.int .u8 (s[k].toNat : Int), .int .i64 ((clock : Int) + (k : Int) + 1)]) (t := 70) (fr := (0, 0)) (heap_alloc_new w3 _)) (by simp [Value.oneCell']) (by omega) (by unfold maxLen; omega) (by omega) (by simp; omega) (w3.heap.size + 1) (by simp) ?_)
        intro gg cp w4 hown4 hgrow hat hlt
        have rf4 := (hgrow.frozen_far ⟨g, j * 2 + 1, none⟩ (by simp; omega) (Ne.symm nG)).trans (rf _)
        have rc4 := (hgrow.cell_far ⟨g, j * 2 + 1, none⟩ (by simp; omega) (Ne.symm nG)).trans (rc _)
        have ra4 := (hgrow.cell_far ⟨D, 0, none⟩ (by simp; omega) (Ne.symm nD)).trans (ra _)
        have rb4 := (hgrow.cell_far ⟨D, 1, none⟩ (by simp; omega) (Ne.symm nD)).trans (rb _)
        refine hK.out _ _ ?_ (fun hHeld => ?_)
        · try dsimp only
          go_keep
        clear hK K
        try simp only [Act.put, List.setIfInBounds_toArray, List.set_cons_zero, List.set_cons_succ]
        refine tk23 (.pointer (some ⟨g, j * 2, none⟩)) (by kernel_rfl) (by kernel_rfl) (by kernel_rfl) (fun _ _ _ h => h) rfl (fun w hSw => by (try dsimp only at hSw); obtain ⟨q0, q1⟩ := hSw; go_simp) (by assumption) ?_
        try simp only [Act.put, List.setIfInBounds_toArray, List.set_cons_zero, List.set_cons_succ]
        refine tk24 (.pointer (some ⟨g, j * 2 + 1, none⟩)) (by kernel_rfl) (by kernel_rfl) (by kernel_rfl) (fun _ _ _ h => h) rfl (fun w hSw => by (try dsimp only at hSw); obtain ⟨q0, q1⟩ := hSw; go_simp) (by assumption) ?_
        try simp only [Act.put, List.setIfInBounds_toArray, List.set_cons_zero, List.set_cons_succ]
        refine cl25 (by kernel_rfl) rfl (fun K hK => ?_)
        go_simp
        refine hK.out _ _ ?_ (fun hHeld => ?_)
        · try dsimp only
          go_keep
        clear hK K
        try simp only [Act.put, List.setIfInBounds_toArray, List.set_cons_zero, List.set_cons_succ]
        refine wpAnyH_done (by kernel_rfl) ?_ _
        go_wp2
        exact ⟨⟨k + 1, _, by simp, HI2.out.step hk H3.out (by rw [HBS.out]; exact HEU.out) HBS.out hgrow hat hown4⟩, by simp [intOf]; omega⟩
      · go_simp
        refine hK.out _ _ ?_ (fun hHeld => ?_)
        · try dsimp only
          go_keep
        clear hK K
        try simp only [Act.put, List.setIfInBounds_toArray, List.set_cons_zero, List.set_cons_succ]
        refine cl12 (by kernel_rfl) rfl (fun K hK => ?_)
        go_simp
        refine hK.out _ _ ?_ (fun hHeld => ?_)
        · try dsimp only
          go_keep
        clear hK K
        try simp only [Act.put, List.setIfInBounds_toArray, List.set_cons_zero, List.set_cons_succ]
        refine cl22 (by kernel_rfl) rfl (fun K hK => ?_)
        refine (wp_append_lies _ (.tmp 65) (.tmp 74) 66 rfl base 70 i0 _ 2 16 Tryz.underlying66 hi hz0 hz1 hz2 rfl (by omega) (.slice pu BS.length cu) BS.length (bsL BS) rfl ((ho3.alloc _).drew) ⟨w3.heap.size, 0, none⟩ 1 1 [.int .u8 (s[k].toNat : Int), .int .i64 ((clock : Int) + (k : Int) + 1)] rfl rfl (World.news_of_block (cs := #[.int .u8 (s[k].toNat : Int), .int .i64 ((clock : Int) + (k : Int) + 1)]) (t := 70) (fr := (0, 0)) (heap_alloc_new w3 _)) (by simp [Value.oneCell']) (by omega) (by unfold maxLen; omega) (by omega) (by simp; omega) (w3.heap.size + 1) (by simp) ?_)
        intro gg cp w4 hown4 hgrow hat hlt
        have rf4 := (hgrow.frozen_far ⟨g, j * 2 + 1, none⟩ (by simp; omega) (Ne.symm nG)).trans (rf _)
        have rc4 := (hgrow.cell_far ⟨g, j * 2 + 1, none⟩ (by simp; omega) (Ne.symm nG)).trans (rc _)
        have ra4 := (hgrow.cell_far ⟨D, 0, none⟩ (by simp; omega) (Ne.symm nD)).trans (ra _)
        have rb4 := (hgrow.cell_far ⟨D, 1, none⟩ (by simp; omega) (Ne.symm nD)).trans (rb _)
        refine hK.out _ _ ?_ (fun hHeld => ?_)
        · try dsimp only
          go_keep
        clear hK K
        try simp only [Act.put, List.setIfInBounds_toArray, List.set_cons_zero, List.set_cons_succ]
        refine tk23 (.pointer (some ⟨g, j * 2, none⟩)) (by kernel_rfl) (by kernel_rfl) (by kernel_rfl) (fun _ _ _ h => h) rfl (fun w hSw => by (try dsimp only at hSw); obtain ⟨q0, q1⟩ := hSw; go_simp) (by assumption) ?_
        try simp only [Act.put, List.setIfInBounds_toArray, List.set_cons_zero, List.set_cons_succ]
        refine tk24 (.pointer (some ⟨g, j * 2 + 1, none⟩)) (by kernel_rfl) (by kernel_rfl) (by kernel_rfl) (fun _ _ _ h => h) rfl (fun w hSw => by (try dsimp only at hSw); obtain ⟨q0, q1⟩ := hSw; go_simp) (by assumption) ?_
        try simp only [Act.put, List.setIfInBounds_toArray, List.set_cons_zero, List.set_cons_succ]
        refine cl25 (by kernel_rfl) rfl (fun K hK => ?_)
        go_simp
        refine hK.out _ _ ?_ (fun hHeld => ?_)
        · try dsimp only
          go_keep
        clear hK K
        try simp only [Act.put, List.setIfInBounds_toArray, List.set_cons_zero, List.set_cons_succ]
        refine wpAnyH_done (by kernel_rfl) ?_ _
        go_wp2
        exact ⟨⟨k + 1, _, by simp, HI2.out.step hk H3.out (by rw [HBS.out]; exact HEU.out) HBS.out hgrow hat hown4⟩, by simp [intOf]; omega⟩
    · have hke : k = s.size := by omega
      subst hke
      have HI2 : Hid (RInv w wr base D l clock g cap j s.size hj s u) := I
      have hq : decide ((s.size : Int) < (s.size : Int)) = false := by simp
      clear I
      go_wp2
      go_ret
      exact ⟨rfl, g, cap, u, rfl, HI2.out⟩
end Go.Proofs.YtkdglkaeglhibaaGreatDoor
