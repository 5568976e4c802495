/-
  Package session: Decode of what was written. The condition: at most 100000 sessions.
-/
import Derived.Test.YthokbififjhflaaSeRead
import Derived.Test.YthokbififjhflaaSeEnc
namespace Go.Proofs.Ythokbififjhflaa
open Go.RowKit

/-- The rows of sessions from a place on. -/
def seRowsF : Nat → List SeX → List UInt8
  | _, [] => []
  | i, x :: r => seRow ((i : Int) + 1) x ++ seRowsF (i + 1) r
theorem seRowsF_app (x : SeX) : ∀ (a : List SeX) (i : Nat), seRowsF i (a ++ [x]) = seRowsF i a ++ seRow (((i + a.length : Nat) : Int) + 1) x
  | [], i => by simp [seRowsF]
  | y :: a, i => by
    rw [List.cons_append, seRowsF, seRowsF_app x a (i + 1), seRowsF, List.append_assoc]
    congr 3
    rw [List.length_cons]
    omega
theorem seRows_F (l : List SeX) : ∀ n, n ≤ l.length → seRows l n = seRowsF 0 (l.take n)
  | 0, _ => rfl
  | n + 1, hn => by
    have hx : l[n]? = some l[n] := List.getElem?_eq_getElem (by omega)
    rw [seRows_one hx, seRows_F l n (by omega), List.take_add_one, hx]
    show _ = seRowsF 0 (l.take n ++ [l[n]])
    rw [seRowsF_app, List.length_take, Nat.zero_add, Nat.min_eq_left (by omega)]
/-- What is left to be read behind the count and k sessions. -/
def seTail (l : List SeX) (k : Nat) : List UInt8 := seRowsF k (l.drop k) ++ (seI (seCnt l 8) ++ seEnds l 8)
theorem seEnc_tail (l : List SeX) : seEnc l = seI (l.length : Int) ++ seTail l 0 := by
  unfold seEnc seTail
  rw [seRows_F l l.length (Nat.le_refl _), List.take_length, List.drop_zero]
  simp
theorem seTail_next {l : List SeX} {k : Nat} {x : SeX} (hx : l[k]? = some x) : seTail l k = seRow ((k : Int) + 1) x ++ seTail l (k + 1) := by
  obtain ⟨hk, hv⟩ := List.getElem?_eq_some_iff.1 hx
  unfold seTail
  rw [List.drop_eq_getElem_cons hk, hv, seRowsF, List.append_assoc]
theorem take_next {l : List SeX} {k : Nat} {x : SeX} (hx : l[k]? = some x) : l.take k ++ [x] = l.take (k + 1) := by
  rw [List.take_add_one, hx]
  rfl
/-- The next session may be put behind those so far. -/
theorem SeOk.next {l : List SeX} (h : SeOk l) {k : Nat} {x : SeX} (hx : l[k]? = some x) : seLif (l.take k) x.client < x.life ∧ (x.op = true → (seAll (l.take k)).length < 256) := by
  have hk := (List.getElem?_eq_some_iff.1 hx).1
  refine ⟨?_, fun ho => ?_⟩
  · rcases seLat_at (l.take k) x.client with ⟨h1, _⟩ | ⟨j, y, h1, h2, h3, _⟩
    · rw [seLif_zero h1]
      have := (h.each k x hx).l0
      omega
    · rw [seLif_eq h1 h2]
      have hj := (List.getElem?_eq_some_iff.1 h2).1
      rw [List.length_take] at hj
      rw [List.getElem?_take, if_pos (by omega)] at h2
      exact h.rise j k y x (by omega) h2 hx h3
  · have h1 := (h.take (k + 1)).few
    rw [← take_next hx, seAll_app, if_pos ho, List.length_append, List.length_singleton] at h1
    omega
structure DecP (w : World) (l : List SeX) (e : Ending) (w' : World) : Prop where
  ex : ∃ X S, e = .returned (.tuple #[.pointer (some ⟨X, 0, none⟩), .int .i64 0]) ∧ SeAt w' w.heap.size X S l ∧ Below w.heap.size w w'
theorem list_bytes (l : List UInt8) : (⟨l.toArray⟩ : ByteArray).data.toList = l := rfl
set_option maxRecDepth 100000 in
set_option maxHeartbeats 8000000 in
theorem sdecode_any {l : List SeX} (h : SeOk l) (hl : l.length ≤ 100000) (w : World) :
    Calls Try.prog 20 #[.string ⟨(seEnc l).toArray⟩] w (DecP w l) := by
  have hlen := h.enc_len hl
  obtain ⟨T, hT⟩ : ∃ T : ByteArray, T = ⟨(seEnc l).toArray⟩ := ⟨_, rfl⟩
  have HT : Hid (T = ⟨(seEnc l).toArray⟩ ∧ (seEnc l).length ≤ 9000260) := (show Hid _ from (⟨hT, by omega⟩ : _ ∧ _))
  have HO : Hid (SeOk l ∧ l.length ≤ 100000) := (show Hid _ from (⟨h, hl⟩ : _ ∧ _))
  have HN : Hid (Calls Try.prog 9 #[] w (SeNew w)) := snew_any w
  rw [← hT]
  clear hT hlen h hl
  go_enter Try.func20, Try.ntmps20
  go_upto_region 2 with (first
    | (go_at_call 40; refine Calls.mono (of_any _ _) ?_; rintro r w2 ⟨rfl, hw2⟩; have H2 : Hid _ := hw2; clear hw2)
    | (go_at_call 9; refine Calls.mono HN.out ?_; rintro r w1 ⟨⟨X, S, rfl, h1, b1⟩⟩; have H1 : Hid (SeAt w1 w.heap.size X S []) := h1; have B1 : Hid (Below w.heap.size w w1) := b1; clear h1 b1))
  obtain ⟨R, hR⟩ : ∃ R, R = w1.heap.size := ⟨_, rfl⟩
  obtain ⟨base, hbase⟩ : ∃ base, base = w.heap.size := ⟨_, rfl⟩
  rw [← hR]
  have HB : Hid (base = w.heap.size) := hbase
  have b2 : Below w1.heap.size w1 w2 := by rw [← H2.out]; exact (Below.refl _ w1).alloc (Nat.le_refl _) _
  have I2 : Hid (RdI w2 base X R S [] (seI (l.length : Int) ++ seTail l 0)) := by
    refine ⟨by rw [hbase]; exact H1.out.fresh b2, ?_, fun hs => ?_, by rw [hR, hbase]; exact B1.out.size, by rw [← seEnc_tail]; have := HT.out.2; omega⟩
    · rw [← seEnc_tail, ← HT.out.1, hR, ← H2.out]
      exact heap_alloc_new w1 _
    · have := (H1.out.bd R hs).2
      omega
  have B2 : Hid (Below base w w2) := by rw [hbase]; exact bmm B1.out B1.out.size b2
  have hl := HO.out.2
  have D0 : Hid (Calls Try.prog 41 #[.pointer (some ⟨R, 0, none⟩)] w2 (RdP w2 base X R S [] (seTail l 0) (.int .i64 (l.length : Int)))) := I2.out.int (okI_mk (by omega) (by omega))
  have HLow : Hid (∀ (y z : World) (S S' : Nat → Prop) (L : List SeX) (bs : List UInt8), Below base w y → RdI y base X R S L bs → Kept y z (fun g => S g ∨ g = R) (fun g => S' g ∨ g = R) → Below base w z) := fun y z S S' L bs b hy k => b.trans (k.low (by have := b.size; have := HB.out; omega) (fun g hg => by
    rcases hg with hg | hg
    · exact (hy.at'.bd g hg).1
    · rw [hg]; exact hy.lo))
  clear hR hbase b2 H1 H2 hl
  go_wp2_with (go_at_call 41; refine Calls.mono D0.out ?_; rintro r w3 ⟨⟨rfl, i3, g3⟩⟩; have I3 : Hid (RdI w3 base X R S [] (seTail l 0)) := i3; have B3 : Hid (Below base w w3) := HLow.out _ _ S S _ _ B2.out I2.out (kept_grown g3 (Or.inr rfl)); clear i3 g3)
  go_loopw [11] (fun i wr => ∃ (k : Nat) (S' : Nat → Prop), k ≤ l.length ∧ i = .int .i64 k ∧ Hid (RdI wr base X R S' (l.take k) (seTail l k)) ∧ Hid (Below base w wr)) (fun i _ => l.length - (intOf i).toNat)
  case atStart => exact ⟨0, S, Nat.zero_le _, rfl, by rw [List.take_zero]; exact I3, B3⟩
  case round =>
    obtain ⟨k, S', hk, rfl, I4, B4⟩ := hrel
    have hl := HO.out.2
    by_cases hkl : k < l.length
    · have t1 : decide ((k : Int) < (l.length : Int)) = true := decide_eq_true (by omega)
      have t1' : decide (k < l.length) = true := decide_eq_true hkl
      obtain ⟨x, hx⟩ : ∃ x, l[k]? = some x := ⟨l[k], List.getElem?_eq_getElem hkl⟩
      have HRd : Hid (Calls Try.prog 42 #[.pointer (some ⟨X, 0, none⟩), .pointer (some ⟨R, 0, none⟩)] wr (RedP wr base X R S' (l.take (k + 1)) (seTail l (k + 1)))) := by
        have hi := I4.out
        have hlk : (l.take k).length = k := by rw [List.length_take]; omega
        rw [seTail_next hx] at hi
        have hn := HO.out.1.next hx
        have := read_any (x := x) (rest := seTail l (k + 1)) (by rw [hlk]; exact hi) (by rw [hlk]; exact HO.out.1.each k x hx) hn.1 hn.2 (by omega)
        rw [take_next hx] at this
        exact this
      have HK : Hid (k < l.length) := hkl
      clear hx
      go_wp2_with (go_at_call 42; refine Calls.mono HRd.out ?_; rintro r w5 ⟨⟨S5, rfl, i5, k5⟩⟩; have I5 : Hid (RdI w5 base X R S5 (l.take (k + 1)) (seTail l (k + 1))) := i5; have B5 : Hid (Below base w w5) := HLow.out _ _ _ _ _ _ B4.out I4.out k5; clear i5 k5)
      have hkl := HK.out
      exact ⟨⟨k + 1, S5, by omega, by simp, I5, B5⟩, by simp [intOf]; omega⟩
    · obtain rfl : k = l.length := by omega
      have t1 : decide ((l.length : Int) < (l.length : Int)) = false := decide_eq_false (by omega)
      have hi := I4.out.at'
      rw [List.take_length] at hi
      have HI : Hid (SeAt wr base X S' l) := hi
      have HE : Hid (Calls Try.prog 15 #[.pointer (some ⟨X, 0, none⟩)] wr fun e w' => e = .returned (.string T) ∧ Below wr.heap.size wr w') := by
        rw [HT.out.1]
        exact sencode_any hi hl
      obtain ⟨ma, mo, la, lo, ps, L, hM⟩ := hi.ex
      have c1 : wr.cell? ⟨X, 1, none⟩ = some (.map (some mo)) := hM.cell 1 _ rfl
      have hlen : ∀ ty, (Builtin.len_ #[62] ty #[.map (some mo)]).run Try.prog wr = .ok (.int .i64 ((seAll l).length : Int)) wr := fun ty => by
        have := MapOf.len mSe_is hM.opn ty
        rw [hM.lenO] at this
        exact this
      have hfew := hi.ok.few
      obtain ⟨n, hn⟩ : ∃ n, n = (seAll l).length := ⟨_, rfl⟩
      rw [← hn] at hlen hfew
      have t2 : decide ((256 : Int) < (n : Int)) = false := decide_eq_false (by omega)
      have t3 : decide (256 < n) = false := decide_eq_false (by omega)
      clear hM hi hl hn hfew hkl
      go_wp2_with (go_at_call 15; refine Calls.mono HE.out ?_; rintro r w5 ⟨rfl, b5⟩; have B5 : Hid _ := b5; clear b5)
      go_ret2
      refine ⟨X, S', rfl, ?_, ?_⟩
      · rw [← HB.out]
        exact HI.out.fresh B5.out
      · rw [← HB.out]
        exact bmm B4.out (by have := B4.out.size; have := HB.out; omega) B5.out
end Go.Proofs.Ythokbififjhflaa
