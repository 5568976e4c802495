/-
  Package locks: the names of all, rising; a session gone, as plain data. The conditions: a session is an int; fewer than 32767 deeds.
-/
import Derived.Test.YtmfadmhbkgemmaaQLcRel
namespace Go.Proofs.Ytmfadmhbkgemmaa
open Go.RowKit Go.Maps Go.Sort

def nmC (x : Lk) : List Value := [.string x.name]
theorem nmC_len (x : Lk) : (nmC x).length = 1 := rfl
theorem rowL_nm (l : List Lk) : rowL nmC l = l.map fun x => .string x.name := by
  unfold rowL nmC
  induction l with
  | nil => rfl
  | cons x l ih => simp only [List.flatMap_cons, List.map_cons, List.singleton_append, ih]
theorem sorted_names {T : List (ByteArray × Nat)} {l : List Lk} (hp : (T.map (·.1)).Perm (l.map (·.name))) (hs : l.Pairwise fun x y => befK x.name y.name = true) : (T.map fun p => p.1.data.toList).mergeSort leB = l.map fun x => x.name.data.toList := by
  have h1 : (T.map fun p => p.1.data.toList).Perm (l.map fun x => x.name.data.toList) := by
    have := hp.map fun n : ByteArray => n.data.toList
    rw [List.map_map, List.map_map] at this
    exact this
  rw [mergeSort_of_perm h1]
  refine List.mergeSort_of_pairwise ?_
  rw [List.pairwise_map]
  refine hs.imp fun {a b} hab => ?_
  rw [befK_lt, decide_eq_true_eq] at hab
  simp only [leB, decide_eq_true_eq]
  exact List.le_of_lt hab
section
variable {w : World} {base D M N : Nat} {c : Int} {l : List Lk} {T : List (ByteArray × Nat)} {own : ByteArray → Nat → Prop}
theorem LcL.permT (I : LcL w base D M c (lookK l) T own) (hn : (l.map (·.name)).Nodup) : (T.map (·.1)).Perm (l.map (·.name)) := keysM_perm I.map.nodup hn fun a => by
  rw [I.some']
  constructor
  · intro h
    obtain ⟨x, hx⟩ := Option.isSome_iff_exists.1 h
    obtain ⟨h1, h2⟩ := lookK_name hx
    exact List.mem_map.2 ⟨x, h2, h1⟩
  · intro h
    obtain ⟨x, hx, rfl⟩ := List.mem_map.1 h
    rw [lookK_of hn hx]
    rfl
set_option maxRecDepth 100000 in
set_option maxHeartbeats 2000000 in
theorem names_any (I : LcL w base D M c (lookK l) T own) (ok : LcOk l) (hl : l.length ≤ 256) : Calls Try.prog 43 #[.pointer (some ⟨D, 0, none⟩)] w fun e w' => ∃ v, e = .returned v ∧ w'.ownsRow w.heap.size 9 1 v l.length (rowL nmC l) ∧ Below w.heap.size w w' := by
  have c0 := I.cellM
  have hlen := I.len (srt_nodup ok.srt)
  have hc := sortedS_call I.map (by omega)
  rw [sorted_names (I.permT (srt_nodup ok.srt)) ok.srt, hlen] at hc
  have e : (l.map fun x => x.name.data.toList).map Go.Proofs.encStr = rowL nmC l := by
    rw [List.map_map, rowL_nm]
    refine List.map_congr_left fun x _ => ?_
    show Value.string ⟨x.name.data.toList.toArray⟩ = _
    rw [Lib.mk_data]
  rw [e] at hc
  clear I ok hl hlen e
  go_enter Try.func43, Try.ntmps43
  go_wp2_with (first
    | (go_at_call 59; refine hc.mono ?_; rintro e w6 ⟨v, rfl, hv, b6⟩)
    | (go_at_call 60; refine (keysS_call _ _).mono ?_; rintro e w5 ⟨rfl, rfl⟩))
  go_ret
  exact ⟨_, rfl, hv, b6⟩
end
/-- The first k locks. -/
def gonK (l : List Lk) (c s : Int) (k : Nat) : List Lk := tidyL (outL (l.take k) c s).2.1 ++ l.drop k
theorem tidyL_app (a b : List Lk) : tidyL (a ++ b) = tidyL a ++ tidyL b := List.filter_append a b
section
variable {l : List Lk} {c s : Int} {k N : Nat}
theorem gonK_end : gonK l c s l.length = (gonL c l s).2.1 := by
  unfold gonK gonL
  rw [List.take_length, List.drop_length, List.append_nil]
theorem outL_next (hk : k < l.length) (hi : LkInv l[k]) : outL (l.take (k + 1)) c s = ((pdK l[k] (outL (l.take k) c s).1 s).1, (outL (l.take k) c s).2.1 ++ [(pdK l[k] (outL (l.take k) c s).1 s).2.1], (outL (l.take k) c s).2.2 ++ (pdK l[k] (outL (l.take k) c s).1 s).2.2) := by
  rw [List.take_add_one, List.getElem?_eq_getElem hk, Option.toList_some, outL_app, outK_eq hi]
theorem gonK_split (hk : k < l.length) : gonK l c s k = tidyL (outL (l.take k) c s).2.1 ++ l[k] :: l.drop (k + 1) := by
  unfold gonK
  rw [List.getElem_cons_drop]
theorem gonK_next (hk : k < l.length) (hi : LkInv l[k]) : gonK l c s (k + 1) = tidyL (outL (l.take k) c s).2.1 ++ (tidyL [(pdK l[k] (outL (l.take k) c s).1 s).2.1] ++ l.drop (k + 1)) := by
  unfold gonK
  rw [outL_next hk hi, tidyL_app, List.append_assoc]
theorem gonK_step (hk : k < l.length) (hi : LkInv l[k]) (h : LcOk (gonK l c s k)) : LcOk (gonK l c s (k + 1)) ∧ lookK (gonK l c s (k + 1)) = updK (lookK (gonK l c s k)) l[k].name (liveO (pdK l[k] (outL (l.take k) c s).1 s).2.1) := by
  rw [gonK_next hk hi, gonK_split hk]
  rw [gonK_split hk] at h
  exact LcOk.step h (pdK_pre hi _ _).1 (pdK_pre hi _ _).2
theorem outL_few (hN : ∀ x ∈ l, x.h.length + x.q.length ≤ N) (hi : ∀ x ∈ l, LkInv x) : ∀ k, k ≤ l.length → (outL (l.take k) c s).2.2.length ≤ k * N
  | 0, _ => by simp [outL]
  | k + 1, h => by
    have hk : k < l.length := h
    rw [outL_next hk (hi _ (List.getElem_mem hk)), List.length_append]
    have h1 := outL_few hN hi k (by omega)
    have h2 := pdK_few (c := (outL (l.take k) c s).1) (s := s) (hN _ (List.getElem_mem hk))
    rw [Nat.add_mul]
    omega
end
/-- While a session goes. -/
structure GnI (w wr : World) (base D M : Nat) (own0 : ByteArray → Nat → Prop) (l : List Lk) (c s : Int) (v u : Value) (k : Nat) (T : List (ByteArray × Nat)) (own : ByteArray → Nat → Prop) : Prop where
  I : LcL wr base D M (outL (l.take k) c s).1 (lookK (gonK l c s k)) T own
  ok : LcOk (gonK l c s k)
  out : wr.ownsRow w.heap.size rpT 5 u (outL (l.take k) c s).2.2.length (rowL rpC (outL (l.take k) c s).2.2)
  row : RowAt nmC wr v l
  nr : ∀ bk off n cap, 0 < n → v = .slice (some ⟨bk, off, none⟩) n cap → w.heap.size ≤ bk ∧ bk < wr.heap.size ∧ ¬ setL D M own bk ∧ u.ownBlock ≠ some bk
  sep : ∀ g, u.ownBlock = some g → ¬ setL D M own g
  k : Kept w wr (setL D M own0) (setL D M own)
section
variable {w wr w1 w2 : World} {base D M k : Nat} {own0 own own2 : ByteArray → Nat → Prop} {l : List Lk} {c s : Int} {v u u2 : Value} {T T2 : List (ByteArray × Nat)}
theorem GnI.next (h : GnI w wr base D M own0 l c s v u k T own) (hk : k < l.length) (hi : LkInv l[k])
    (L : LcL w1 base D M (pdK l[k] (outL (l.take k) c s).1 s).1 (updK (lookK (gonK l c s k)) l[k].name (liveO (pdK l[k] (outL (l.take k) c s).1 s).2.1)) T2 own2) (k1 : Kept wr w1 (setL D M own) (setL D M own2))
    (o : w2.ownsRow w.heap.size rpT 5 u2 (outL (l.take (k + 1)) c s).2.2.length (rowL rpC (outL (l.take (k + 1)) c s).2.2)) (a : Appended w.heap.size w1 w2 u u2) : GnI w w2 base D M own0 l c s v u2 (k + 1) T2 own2 := by
  obtain ⟨ok2, e2⟩ := gonK_step hk hi h.ok
  have hub : ∀ g, u.ownBlock = some g → w.heap.size ≤ g ∧ g < wr.heap.size := fun g e => ⟨(h.out.lt g e).1, (h.out.lt g e).2⟩
  have hn2 : ∀ g, u.ownBlock = some g → ¬ setL D M own2 g := fun g e e2 => by
    rcases k1.old g e2 with e3 | e3
    · exact h.sep g e e3
    · have := (hub g e).2
      omega
  have hk2 : ∀ g, g < w1.heap.size → u.ownBlock ≠ some g → w2.heap[g]? = w1.heap[g]? := fun g h1 h2 => a.rest g h1 (fun e => h2 e.symm)
  have hs1 := k1.size
  refine ⟨?_, ok2, o, ?_, fun bk off n cap h0 e => ?_, fun g e => ?_, ⟨a.below.os.trans (k1.os.trans h.k.os), a.below.tape.trans (k1.tape.trans h.k.tape), a.below.output.trans (k1.output.trans h.k.output), Nat.le_trans h.k.size (Nat.le_trans hs1 a.below.size), (h.k.trans k1).old, fun g hg hn => (hk2 g (by have := h.k.size; omega) (fun e => by have := (hub g e).1; omega)).trans ((h.k.trans k1).kept g hg hn)⟩⟩
  · rw [e2, outL_next hk hi]
    exact L.keep fun g hg => hk2 g (L.bd g hg).2 (fun e => hn2 g e hg)
  · refine h.row.keep (Nat.le_trans hs1 a.below.size) fun bk off n cap h0 e => ?_
    obtain ⟨h1, h2, h3, h4⟩ := h.nr bk off n cap h0 e
    rw [hk2 bk (by omega) h4]
    exact k1.kept bk h2 h3
  · obtain ⟨h1, h2, h3, h4⟩ := h.nr bk off n cap h0 e
    have hs2 := a.below.size
    refine ⟨h1, by omega, fun e2 => ?_, fun e2 => ?_⟩
    · rcases k1.old bk e2 with e3 | e3
      · exact h3 e3
      · omega
    · rcases a.lies with h5 | h5
      · exact h4 (h5.symm.trans e2)
      · rw [h5] at e2
        have : w1.heap.size = bk := Option.some.inj e2
        omega
  · rcases a.lies with h5 | h5
    · exact hn2 g (h5.symm.trans e)
    · rw [h5] at e
      have e : w1.heap.size = g := Option.some.inj e
      intro e2
      have := (L.bd g e2).2
      omega
end
set_option maxRecDepth 100000 in
set_option maxHeartbeats 8000000 in
theorem LcW.gone {w : World} {base D N : Nat} {S : Nat → Prop} {c : Int} {l : List Lk} (h : LcW w base D S N c l) (hN : N < 32767) {s : Int} (hs : okI s) :
    Calls Try.prog 14 #[.pointer (some ⟨D, 0, none⟩), .int .i64 s] w (RepP w base D S N (gonL c l s)) := by
  obtain ⟨M, T, own, I, rfl⟩ := h.ex
  have hn := names_any I h.ok h.fit.len
  have HI : Hid _ := I
  have HH : Hid (LcOk l ∧ LoFit N c l ∧ N < 32767 ∧ okI s ∧ ∀ x ∈ l, LkInv x) := (show Hid _ from (⟨h.ok, h.fit, hN, hs, h.ok.each⟩ : _ ∧ _ ∧ _ ∧ _ ∧ _))
  have hll : l.length ≤ 256 := h.fit.len
  clear I h hN hs
  go_enter Try.func14, Try.ntmps14
  go_wp2_with (go_at_call 43; refine hn.mono ?_; rintro e w1 ⟨v, rfl, hv, b1⟩; obtain ⟨av, cv, rfl⟩ := (RowAt.own nmC_len hv).form)
  have J0 : Hid (GnI w w1 base D M own l c s (.slice av l.length cv) (.slice none 0 0) 0 T own) := (show GnI w w1 base D M own l c s (.slice av l.length cv) (.slice none 0 0) 0 T own from ⟨HI.out.fresh b1, HH.out.1, World.ownsRow_nil _ _ _ _, RowAt.own nmC_len hv, fun bk off n cap h0 e => by
    have := hv.lt bk (by rw [e]; rfl)
    exact ⟨this.1, this.2, fun e2 => by have := (HI.out.bd bk e2).2; omega, fun e2 => by cases e2⟩, fun g e => (by cases e), Kept.of b1⟩)
  clear hv b1 hn
  go_loopw [5, 13] (fun ou i wr => ∃ (k : Nat) (T' : List (ByteArray × Nat)) (own' : ByteArray → Nat → Prop), k ≤ l.length ∧ i = .int .i64 (k : Int) ∧ Hid (GnI w wr base D M own l c s (.slice av l.length cv) ou k T' own')) (fun _ i _ => l.length - (intOf i).toNat)
  case atStart => exact ⟨0, T, own, Nat.zero_le _, rfl, J0⟩
  case round =>
    clear J0
    obtain ⟨k, T', own', hk, rfl, J⟩ := hrel
    obtain ⟨pu, nu, cu, rfl⟩ := own_form J.out.out
    by_cases hkl : k < l.length
    · have t0 : decide ((k : Int) < (l.length : Int)) = true := decide_eq_true (by omega)
      have t0' : decide (k < l.length) = true := decide_eq_true hkl
      have j1 : (k : Int) < (l.length : Int) := by omega
      obtain ⟨bk, off, cap', hvv, _, _, hc⟩ := J.out.row.cells nmC_len (by omega)
      injection hvv with e1 e2 e3
      subst e1 e3
      clear e2
      have z0 : wr.cell? ⟨bk, off + k, none⟩ = some (.string l[k].name) := by simpa using hc k hkl 0 (.string l[k].name) (by decide) rfl
      obtain ⟨nm, hnm⟩ : ∃ nm, nm = l[k].name := ⟨_, rfl⟩
      rw [← hnm] at z0
      have hil : LkInv l[k] := HH.out.2.2.2.2 _ (List.getElem_mem hkl)
      have hfl := HH.out.2.1.each _ (List.getElem_mem hkl)
      have hlk : lookK (gonK l c s k) nm = some l[k] := by
        rw [hnm]
        refine lookK_of (srt_nodup J.out.ok.srt) ?_
        rw [gonK_split hkl]
        exact List.mem_append.2 (Or.inr List.mem_cons_self)
      have hd := pdrop_any J.out.I hlk (show nm.size ≤ maxLen from by rw [hnm]; have := hfl.nm; unfold maxLen; omega) (s := s) HH.out.2.2.2.1 hil.pre.ap hfl.sum (by have := HH.out.2.2.1; omega)
      have HK : Hid (k < l.length ∧ LkInv l[k] ∧ nm = l[k].name) := (show Hid _ from (⟨hkl, hil, hnm⟩ : _ ∧ _ ∧ _))
      have hfw : (outL (l.take k) c s).2.2.length + (pdK l[k] (outL (l.take k) c s).1 s).2.2.length ≤ 100000000 := by
        have h1 := outL_few (c := c) (s := s) (N := N) (fun x hx => (HH.out.2.1.each x hx).sum) HH.out.2.2.2.2 k hk
        have h2 := pdK_few (c := (outL (l.take k) c s).1) (s := s) hfl.sum
        have h3 : k * N ≤ 256 * 32767 := Nat.mul_le_mul (by omega) (by have := HH.out.2.2.1; omega)
        have := HH.out.2.2.1
        omega
      have HFW : Hid _ := hfw
      have HNX : Hid ((outL (l.take (k + 1)) c s).2.2 = (outL (l.take k) c s).2.2 ++ (pdK l[k] (outL (l.take k) c s).1 s).2.2) := (show (outL (l.take (k + 1)) c s).2.2 = _ from by rw [outL_next hkl hil])
      clear hc hnm hil hfl hlk hfw
      go_wp2_with (first
        | (go_at_call 25; refine (behind_any (own_keep J.out.out (fun g e => k2.kept g (J.out.out.lt g e).2 (J.out.sep g e))) (RowAt.own rpC_len o2) (Nat.le_trans J.out.k.size k2.size) HFW.out).mono ?_; rintro e w3 ⟨u3, rfl, o3, a3⟩; obtain ⟨p3, n3, c3, rfl⟩ := own_form o3)
        | (go_at_call 38; refine hd.mono ?_; rintro e w2 ⟨u2, T2, own2, rfl, o2, L2, k2, s2⟩; obtain ⟨p2, n2, c2, rfl⟩ := own_form o2))
      go_roundw
      case rel =>
        rw [← HNX.out] at o3
        rw [HK.out.2.2] at L2
        exact ⟨k + 1, T2, own2, HK.out.1, by go_num, J.out.next HK.out.1 HK.out.2.1 L2 k2 o3 a3⟩
      case measure =>
        have := HK.out.1
        simp [intOf]
        omega
    · obtain rfl : k = l.length := by omega
      have t0 : decide ((l.length : Int) < (l.length : Int)) = false := decide_eq_false (by omega)
      go_wp2
      go_ret
      have I9 := J.out.I
      have o9 := J.out.out
      have ok9 := J.out.ok
      rw [gonK_end] at I9 ok9
      rw [List.take_length] at I9 o9
      exact ⟨_, _, rfl, RowAt.own rpC_len o9, ⟨⟨M, T', own', I9, rfl⟩, ok9, HH.out.2.1.gone s⟩, J.out.k, sep_own o9 J.out.sep⟩
end Go.Proofs.Ytmfadmhbkgemmaa
