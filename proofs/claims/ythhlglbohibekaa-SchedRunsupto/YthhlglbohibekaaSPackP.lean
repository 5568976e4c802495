/-
  Parts of the proof, laid together: ScTask, ScObj, ScFind. The conditions stand at each part.
-/
import Derived.Test.YthhlglbohibekaaSPackA
import Derived.Test.YthhlglbohibekaaSPackO
namespace Go.Proofs.Ythhlglbohibekaa
open Go.RowKit

theorem zip_set_right {α β : Type} : ∀ (a : List α) (b : List β) (i : Nat) (x : β) (hi : i < a.length), a.zip (b.set i x) = (a.zip b).set i (a[i], x)
  | [], _, _, _, hi => absurd hi (Nat.not_lt_zero _)
  | _ :: _, [], _, _, _ => by simp
  | y :: a, z :: b, 0, x, _ => by simp
  | y :: a, z :: b, i + 1, x, hi => by
    have ih := zip_set_right a b i x (by simpa using hi)
    rw [List.set_cons_succ, List.zip_cons_cons, List.zip_cons_cons, List.set_cons_succ, ih]
    rfl
theorem rowL_set {α : Type} {k : Nat} {enc : α → List Value} (hk : ∀ x, (enc x).length = k) : ∀ (l : List α) (i : Nat) (hi : i < l.length) (c : Nat) (x : α) (u : Value), c < k → enc x = (enc l[i]).set c u → rowL enc (l.set i x) = (rowL enc l).set (i * k + c) u
  | [], i, hi, _, _, _, _, _ => absurd hi (Nat.not_lt_zero _)
  | y :: l, 0, _, c, x, u, hc, e => by
    unfold rowL
    rw [List.set_cons_zero, List.flatMap_cons, List.flatMap_cons, e, Nat.zero_mul, Nat.zero_add, List.set_append_left _ _ (by rw [hk]; exact hc)]
    rfl
  | y :: l, i + 1, hi, c, x, u, hc, e => by
    have ih := rowL_set hk l i (by simpa using hi) c x u hc e
    unfold rowL at ih ⊢
    rw [List.set_cons_succ, List.flatMap_cons, List.flatMap_cons, ih, List.set_append_right _ _ (by rw [hk, Nat.add_mul]; omega), hk]
    have e2 : (i + 1) * k + c - k = i * k + c := by rw [Nat.add_mul]; omega
    rw [e2]
theorem Slid.set {α : Type} {k : Nat} {enc : α → List Value} {E : TypeId} {w : World} {l : List α} {g off n cap : Nat} (hk : ∀ x, (enc x).length = k) (h : Slid enc k E w (.slice (some ⟨g, off, none⟩) n cap) l) (i : Nat) (hi : i < l.length) (c : Nat) (hc : c < k) (x : α) (u : Value) (e : enc x = (enc l[i]).set c u) : Slid enc k E (w.setCell ⟨g, off + i * k + c, none⟩ u) (.slice (some ⟨g, off, none⟩) n cap) (l.set i x) := by
  rcases h.ex with ⟨h1, _⟩ | ⟨g', off', cap', cur, h1, h2, h3, h4, h5, h6⟩
  · cases h1
  · simp only [Value.slice.injEq, Option.some.injEq, Addr.mk.injEq] at h1
    obtain ⟨⟨rfl, rfl, _⟩, rfl, rfl⟩ := h1
    refine ⟨Or.inr ⟨g, off, cap, cur.setIfInBounds (off + i * k + c) u, by rw [List.length_set], heap_setCell_same w g (off + i * k + c) _ _ _ h2, by rw [List.length_set]; exact h3, h4, by simpa using h5, ?_⟩⟩
    rw [List.length_set, rowL_set hk l i hi c x u hc e, Array.toList_setIfInBounds, List.drop_set, if_neg (by omega), List.take_set, h6]
    have e2 : off + i * k + c - off = i * k + c := by omega
    rw [e2]
theorem Slid.free {α : Type} {k : Nat} {enc : α → List Value} {E : TypeId} {w : World} {l : List α} {g off n cap : Nat} (h : Slid enc k E w (.slice (some ⟨g, off, none⟩) n cap) l) (j : Nat) : w.frozen? ⟨g, j, none⟩ = false := by
  rcases h.ex with ⟨h1, _⟩ | ⟨g', off', cap', cur, h1, h2, h3, h4, h5, h6⟩
  · cases h1
  · simp only [Value.slice.injEq, Option.some.injEq, Addr.mk.injEq] at h1
    obtain ⟨⟨rfl, rfl, _⟩, rfl, rfl⟩ := h1
    simp [World.frozen?, h2]
theorem Slid.slot {α : Type} {k : Nat} {enc : α → List Value} {E : TypeId} {w : World} {l : List α} {g off n cap : Nat} (h : Slid enc k E w (.slice (some ⟨g, off, none⟩) n cap) l) : ∃ cur, w.heap[g]? = some (.cells cur E (0, 0)) := h.block rfl
section
variable {w w' : World} {base D : Nat} {ro : Nat → Option Nat} {vT vL : Value} {tv : List Tv} {od : List Nat} {T : List Tk} {L : List (Int × Ob)}
theorem SkAt.setTask (h : SkAt w base D ro vT vL tv od T L) {bT off n cap : Nat} (e : vT = .slice (some ⟨bT, off, none⟩) n cap) (i : Nat) (hi : i < T.length) (c : Nat) (t : Tk) (u : Value) (hc : c = 1 ∧ u = .int .i64 (t.pos : Int) ∧ t.bl = T[i].bl ∨ c = 2 ∧ u = .bool t.bl ∧ t.pos = T[i].pos) (ho : t.ops = T[i].ops) (hr : t.runs = T[i].runs) :
    SkAt (w.setCell ⟨bT, off + i * 4 + c, none⟩ u) base D ro vT vL tv od (T.set i t) L ∧ Kept w (w.setCell ⟨bT, off + i * 4 + c, none⟩ u) (fun b => ro b ≠ none) (fun b => ro b ≠ none) := by
  subst e
  have hit : i < tv.length := by rw [h.tl]; exact hi
  have hz : i < (tv.zip T).length := by rw [List.length_zip, h.tl, Nat.min_self]; exact hi
  have ez : (tv.zip T)[i] = (tv[i], T[i]) := List.getElem_zip
  obtain ⟨cur, hb⟩ := h.ts.at'.slot
  have hoT : ro bT = some 0 := h.ts.own bT rfl
  have hot : ∀ x, x ≠ bT → (w.setCell ⟨bT, off + i * 4 + c, none⟩ u).heap[x]? = w.heap[x]? := fun x hx => heap_setCell_other _ _ _ _ (by simpa using hx)
  have hm : ∀ {α : Type} {enc : α → List Value} {k : Nat} {E : TypeId} {v : Value} {l : List α}, E ≠ TkT → Mine enc k E w ro v l → Mine enc k E (w.setCell ⟨bT, off + i * 4 + c, none⟩ u) ro v l := fun hE h => h.keep (fun g cs fr hg hr => ⟨hot g (fun e => by
    rw [e, hb] at hg
    simp only [Option.some.injEq, Obj.cells.injEq] at hg
    exact hE hg.2.1.symm), hr⟩)
  have hzs : tv.zip (T.set i t) = (tv.zip T).set i (tv[i], t) := zip_set_right tv T i t hit
  refine ⟨⟨?_, by rw [List.length_set]; exact h.tl, h.ol, ⟨?_, h.ts.own⟩, hm (by decide) h.os, fun j h1 h2 => ?_, fun j h1 h2 => ?_, fun j h1 h2 => (h.ob j h1 h2).keep (by simp) (fun b hb2 => hot b (fun e => by rw [e, hoT] at hb2; simp at hb2)), h.sD, fun b hb2 => by simpa using h.bd b hb2, h.rb⟩, ⟨rfl, rfl, rfl, by simp, fun b hb2 => Or.inl hb2, fun b _ hn => hot b (fun e => hn (by rw [e, hoT]; simp))⟩⟩
  · rw [hot D (fun e => by
      have := h.hd
      rw [e, hb] at this
      simp only [Option.some.injEq, Obj.cells.injEq] at this
      exact absurd this.2.1 (by decide))]
    exact h.hd
  · rw [hzs]
    refine h.ts.at'.set tkC_len i hz c ?_ (tv[i], t) u ?_
    · rcases hc with hc | hc <;> omega
    · rw [ez]
      rcases hc with ⟨rfl, rfl, e⟩ | ⟨rfl, rfl, e⟩
      · simp [tkC, e]
      · simp [tkC, e]
  · have h2' : j < T.length := by rw [List.length_set] at h2; exact h2
    have := hm (E := 45) (by decide) (h.op j h1 h2')
    rw [List.getElem_set]
    split
    · rename_i ej
      subst ej
      rw [ho]
      exact this
    · exact this
  · have h2' : j < T.length := by rw [List.length_set] at h2; exact h2
    have := hm (E := 3) (by decide) (h.ru j h1 h2')
    rw [List.getElem_set]
    split
    · rename_i ej
      subst ej
      rw [hr]
      exact this
    · exact this
end
def pastL : List Opx → Nat → Int → Nat
  | [], a, _ => a
  | o :: r, a, d => if (if o.1 = 7 then d + 1 else if o.1 = 8 then d - 1 else d) = 0 then a + 1 else pastL r (a + 1) (if o.1 = 7 then d + 1 else if o.1 = 8 then d - 1 else d)
set_option maxHeartbeats 3200000 in
set_option maxRecDepth 100000 in
theorem past_any {w : World} {v : Value} {ops : List Opx} (hv : RowAt opC w v ops) (a : Nat) (ha : a ≤ 65536) (hl : ops.length ≤ 65536) : Calls Try.prog 54 #[v, .int .i64 (a : Int)] w fun e w' => e = .returned (.int .i64 (pastL (ops.drop a) a 1 : Nat)) ∧ w = w' := by
  obtain ⟨av, cap, rfl⟩ := hv.form
  have HV : Hid _ := hv
  clear hv
  go_enter Try.func54, Try.ntmps54
  go_wp2
  go_loop [1, 5] (fun i d => ∃ (k : Nat) (z : Int), k ≤ 65536 + 1 ∧ a ≤ k ∧ i = .int .i64 k ∧ d = .int .i64 z ∧ 0 < z ∧ z ≤ (k : Int) + 1 ∧ Hid (pastL (ops.drop a) a 1 = pastL (ops.drop k) k z)) (fun i _ => ops.length - (RowKit.intOf i).toNat)
  case atStart => exact ⟨a, 1, by omega, Nat.le_refl _, rfl, rfl, by omega, by omega, by show _ = _; rfl⟩
  case round =>
    obtain ⟨k, z, hk, hka, rfl, rfl, hz, hz2, HP⟩ := hrel
    by_cases hkl : k < ops.length
    · have q0 : decide ((k : Int) < (ops.length : Int)) = true := decide_eq_true (by omega)
      obtain ⟨bk, off, cp, e, _, hbk, hx⟩ := HV.out.cells opC_len (by omega)
      simp only [Value.slice.injEq] at e
      obtain ⟨rfl, _, rfl⟩ := e
      have z0 : w.cell? ⟨bk, off + k * 3, none⟩ = some (.int .i64 ops[k].1) := hx k hkl 0 _ (by decide) rfl
      have HP2 : Hid (pastL (ops.drop k) k z = if (if ops[k].1 = 7 then z + 1 else if ops[k].1 = 8 then z - 1 else z) = 0 then k + 1 else pastL (ops.drop (k + 1)) (k + 1) (if ops[k].1 = 7 then z + 1 else if ops[k].1 = 8 then z - 1 else z)) := by
        show _ = _
        rw [List.drop_eq_getElem_cons hkl, pastL]
      clear hx
      generalize ops[k].1 = K at *
      by_cases h7 : K = 7
      · have q7 : (K == 7) = true := beq_iff_eq.2 h7
        have q9 : (z + 1 == 0) = false := beq_eq_false_iff_ne.2 (by omega)
        have HP3 : Hid (pastL (ops.drop a) a 1 = pastL (ops.drop (k + 1)) (k + 1) (z + 1)) := by
          show _ = _
          rw [HP.out, HP2.out, if_pos h7, if_neg (by omega)]
        clear HP HP2 h7
        go_wp2
        go_round
        case rel => exact ⟨k + 1, z + 1, by omega, by omega, by go_num, by go_num, by omega, by omega, HP3⟩
        case measure => simp [RowKit.intOf]; omega
      · have q7 : (K == 7) = false := beq_eq_false_iff_ne.2 h7
        by_cases h8 : K = 8
        · have q8 : (K == 8) = true := beq_iff_eq.2 h8
          by_cases h9 : z = 1
          · have HP3 : Hid (pastL (ops.drop a) a 1 = k + 1) := by
              show _ = _
              rw [HP.out, HP2.out, if_neg h7, if_pos h8, if_pos (by omega)]
            subst h9
            clear HP HP2 h7 h8
            go_wp2
            go_ret
            exact ⟨by rw [HP3.out]; go_num, rfl⟩
          · have q9 : (z - 1 == 0) = false := beq_eq_false_iff_ne.2 (by omega)
            have HP3 : Hid (pastL (ops.drop a) a 1 = pastL (ops.drop (k + 1)) (k + 1) (z - 1)) := by
              show _ = _
              rw [HP.out, HP2.out, if_neg h7, if_pos h8, if_neg (by omega)]
            clear HP HP2 h7 h8
            go_wp2
            go_round
            case rel => exact ⟨k + 1, z - 1, by omega, by omega, by go_num, by go_num, by omega, by omega, HP3⟩
            case measure => simp [RowKit.intOf]; omega
        · have q8 : (K == 8) = false := beq_eq_false_iff_ne.2 h8
          have q9 : (z == 0) = false := beq_eq_false_iff_ne.2 (by omega)
          have HP3 : Hid (pastL (ops.drop a) a 1 = pastL (ops.drop (k + 1)) (k + 1) z) := by
            show _ = _
            rw [HP.out, HP2.out, if_neg h7, if_neg h8, if_neg (by omega)]
          clear HP HP2 h7 h8
          go_wp2
          go_round
          case rel => exact ⟨k + 1, z, by omega, by omega, by go_num, rfl, by omega, by omega, HP3⟩
          case measure => simp [RowKit.intOf]; omega
    · have q0 : decide ((k : Int) < (ops.length : Int)) = false := decide_eq_false (by omega)
      have hge : ops.length ≤ k := by omega
      have HP3 : Hid (pastL (ops.drop a) a 1 = k) := by
        show _ = _
        rw [HP.out, List.drop_of_length_le (by omega), pastL]
      clear HP
      go_wp2
      go_ret
      exact ⟨by rw [HP3.out]; rfl, rfl⟩
def wake1 (T : List Tk) (x : Nat) : List Tk := match T[x]? with | some t => T.set x { t with bl := false } | none => T
def wakeT : List Tk → List Int → List Tk
  | T, [] => T
  | T, x :: l => wakeT (wake1 T x.toNat) l
theorem wake1_length (T : List Tk) (x : Nat) : (wake1 T x).length = T.length := by
  unfold wake1
  split
  · rw [List.length_set]
  · rfl
theorem wakeT_length : ∀ (l : List Int) (T : List Tk), (wakeT T l).length = T.length
  | [], T => rfl
  | x :: l, T => by rw [wakeT, wakeT_length l, wake1_length]
section
variable {w w' : World} {base D : Nat} {ro : Nat → Option Nat} {vT vL : Value} {tv : List Tv} {od : List Nat} {T : List Tk} {L : List (Int × Ob)}
set_option maxHeartbeats 6400000 in
set_option maxRecDepth 100000 in
theorem sk_wake (h : SkAt w base D ro vT vL tv od T L) {v : Value} {l : List Int} (hv : RowAt intC w v l) (hl : l.length ≤ 65536) (hr : ∀ x ∈ l, 0 ≤ x ∧ x < (T.length : Int)) (hn : ∀ bk off n cap, 0 < n → v = .slice (some ⟨bk, off, none⟩) n cap → ro bk ≠ some 0) :
    Calls Try.prog 36 #[.pointer (some ⟨D, 0, none⟩), v] w fun e w' => e = .returned (.tuple #[]) ∧ SkAt w' base D ro vT vL tv od (wakeT T l) L ∧ Kept w w' (fun b => ro b ≠ none) (fun b => ro b ≠ none) := by
  obtain ⟨av, cpl, rfl⟩ := hv.form
  have HV : Hid _ := hv
  have HR : Hid _ := hr
  have HN : Hid _ := hn
  have HS : Hid (SkAt w base D ro vT vL tv od T L) := h
  clear hv hr hn h
  go_enter Try.func36, Try.ntmps36
  go_wp2
  go_loopw [4] (fun i wr => ∃ (k : Nat) (T1 : List Tk), k ≤ l.length ∧ i = .int .i64 k ∧ SkAt wr base D ro vT vL tv od T1 L ∧ Hid (wakeT T l = wakeT T1 (l.drop k)) ∧ T1.length = T.length ∧ Hid (∀ bk off n cap, 0 < n → Value.slice av l.length cpl = .slice (some ⟨bk, off, none⟩) n cap → wr.heap[bk]? = w.heap[bk]?) ∧ Kept w wr (fun b => ro b ≠ none) (fun b => ro b ≠ none)) (fun i _ => l.length - (RowKit.intOf i).toNat)
  case atStart => exact ⟨0, T, Nat.zero_le _, rfl, HS.out, by show _ = _; rfl, rfl, fun _ _ _ _ _ _ => rfl, Kept.refl _ _⟩
  case round =>
    obtain ⟨k, T1, hk, rfl, hS, HT, hT1, HBK, hKe⟩ := hrel
    by_cases hkl : k < l.length
    · have q0 : decide ((k : Int) < (l.length : Int)) = true := decide_eq_true (by omega)
      obtain ⟨bk, ofl, cp, e, _, hbk, hx⟩ := HV.out.cells intC_len (by omega)
      simp only [Value.slice.injEq] at e
      obtain ⟨rfl, _, rfl⟩ := e
      have hxr := HR.out l[k] (List.getElem_mem hkl)
      obtain ⟨x, hxe⟩ : ∃ x : Nat, l[k] = (x : Int) := ⟨l[k].toNat, by omega⟩
      have z7' : w.cell? ⟨bk, ofl + k, none⟩ = some (.int .i64 (x : Int)) := by
        have := hx k hkl 0 _ (by decide) rfl
        rw [Nat.mul_one, hxe] at this
        exact this
      have hbo : ro bk ≠ some 0 := HN.out bk ofl l.length cpl (by omega) rfl
      have hxT : x < T1.length := by
        rw [hxe] at hxr
        omega
      have hHT : Hid (wakeT T l = wakeT (T1.set x { T1[x] with bl := false }) (l.drop (k + 1))) := by
        show _ = _
        rw [HT.out, List.drop_eq_getElem_cons hkl, wakeT, hxe, Int.toNat_natCast]
        unfold wake1
        rw [List.getElem?_eq_getElem hxT]
      obtain ⟨bT, off, cap, ao, co, ar, cr, e, hb, _, _, z2, _⟩ := hS.task x hxT
      have hS' : SkAt wr.drew base D ro vT vL tv od T1 L := hS.keep (Nat.le_refl _) (fun _ _ => rfl)
      have FIN : Hid (SkAt (wr.drew.setCell ⟨bT, off + x * 4 + 2, none⟩ (.bool false)) base D ro vT vL tv od (T1.set x { T1[x] with bl := false }) L ∧ Kept wr.drew (wr.drew.setCell ⟨bT, off + x * 4 + 2, none⟩ (.bool false)) (fun b => ro b ≠ none) (fun b => ro b ≠ none)) := hS'.setTask e x hxT 2 { T1[x] with bl := false } (.bool false) (Or.inr ⟨rfl, rfl, rfl⟩) rfl rfl
      have c0 := hS.cells.2.2.1
      have y6 := FIN.out.1.cells.2.2.1
      have hbT : ro bT = some 0 := hS.ts.own bT (by rw [e]; rfl)
      have hne : bk ≠ bT := fun e2 => hbo (by rw [e2]; exact hbT)
      have zf : wr.frozen? ⟨bT, off + x * 4 + 2, none⟩ = false := by
        have h9 := hS.ts.at'
        rw [e] at h9
        exact h9.free _
      have hBk := HBK.out bk ofl l.length cpl (by omega) rfl
      have z7 : wr.cell? ⟨bk, ofl + k, none⟩ = some (.int .i64 (x : Int)) := (World.cell?_of_block hBk).trans z7'
      have hot : (wr.drew.setCell ⟨bT, off + x * 4 + 2, none⟩ (.bool false)).heap[bk]? = wr.heap[bk]? := heap_setCell_other _ _ _ _ (by simpa using hne)
      have y7 : (wr.drew.setCell ⟨bT, off + x * 4 + 2, none⟩ (.bool false)).cell? ⟨bk, ofl + k, none⟩ = some (.int .i64 (x : Int)) := (World.cell?_of_block (a := ⟨bk, ofl + k, none⟩) hot).trans z7
      have HBK2 : Hid (∀ b2 o2 n2 c2, 0 < n2 → Value.slice (some ⟨bk, ofl, none⟩) l.length cpl = .slice (some ⟨b2, o2, none⟩) n2 c2 → (wr.drew.setCell ⟨bT, off + x * 4 + 2, none⟩ (.bool false)).heap[b2]? = w.heap[b2]?) := fun b2 o2 n2 c2 h0 e2 => by
        simp only [Value.slice.injEq, Option.some.injEq, Addr.mk.injEq] at e2
        obtain ⟨⟨e3, _, _⟩, _, _⟩ := e2
        rw [← e3, hot, hBk]
      have hKK : Hid (Kept w (wr.drew.setCell ⟨bT, off + x * 4 + 2, none⟩ (.bool false)) (fun b => ro b ≠ none) (fun b => ro b ≠ none)) := by
        have k1 : Kept wr wr.drew (fun b => ro b ≠ none) (fun b => ro b ≠ none) := Kept.of (undrB2 (Below.refl _ _))
        exact hKe.trans (k1.trans FIN.out.2)
      rw [e] at c0 y6
      rw [e]
      rw [e] at FIN
      have HT2 : Hid _ := hHT.out
      have HT1 : Hid (T1.length = T.length) := hT1
      clear hT1 HT hS hS' hHT hbo hbT hne hBk hot HBK hKe hx hxr hxe z7' e hb
      go_wp2
      refine wp_region_held_drew (S := (fun w' : World => w'.cell? ⟨D, 0, none⟩ = some (.slice (some ⟨bT, off, none⟩) T1.length cap) ∧ w'.cell? ⟨bk, ofl + k, none⟩ = some (.int .i64 (x : Int)))) (by kernel_rfl) ?_ (fun hHeld0 => ?_)
      · try dsimp only
        go_keep
      refine tk0 (.pointer (some ⟨D, 0, none⟩)) ?_ (fun w hSw => by (try dsimp only at hSw); obtain ⟨q0, q1⟩ := hSw; go_simp)
      try simp only [Act.put, pu1, pu2, pu3]
      refine tk1 (.pointer (some ⟨D, 0, none⟩)) ?_ (fun w hSw => by (try dsimp only at hSw); obtain ⟨q0, q1⟩ := hSw; go_simp)
      try simp only [Act.put, pu1, pu2, pu3]
      refine tk2 (.pointer (some ⟨D, 0, none⟩)) ?_ (fun w hSw => by (try dsimp only at hSw); obtain ⟨q0, q1⟩ := hSw; go_simp)
      try simp only [Act.put, pu1, pu2, pu3]
      refine tk3 (.slice (some ⟨bT, off, none⟩) T1.length cap) ?_ (fun w hSw => by (try dsimp only at hSw); obtain ⟨q0, q1⟩ := hSw; go_simp)
      try simp only [Act.put, pu1, pu2, pu3]
      refine tk4 (.slice (some ⟨bk, ofl, none⟩) l.length cpl) ?_ (fun w hSw => by (try dsimp only at hSw); obtain ⟨q0, q1⟩ := hSw; go_simp)
      try simp only [Act.put, pu1, pu2, pu3]
      refine tk5 (.int .i64 (k : Int)) ?_ (fun w hSw => by (try dsimp only at hSw); obtain ⟨q0, q1⟩ := hSw; go_simp)
      try simp only [Act.put, pu1, pu2, pu3]
      refine tk6 (.pointer (some ⟨bk, ofl + k, none⟩)) ?_ (fun w hSw => by (try dsimp only at hSw); obtain ⟨q0, q1⟩ := hSw; go_simp)
      try simp only [Act.put, pu1, pu2, pu3]
      refine tk7 (.int .i64 (x : Int)) ?_ (fun w hSw => by (try dsimp only at hSw); obtain ⟨q0, q1⟩ := hSw; go_simp)
      try simp only [Act.put, pu1, pu2, pu3]
      refine tk8 (.pointer (some ⟨bT, off + x * 4, none⟩)) ?_ (fun w hSw => by (try dsimp only at hSw); obtain ⟨q0, q1⟩ := hSw; go_simp)
      try simp only [Act.put, pu1, pu2, pu3]
      refine tk9 (.pointer (some ⟨bT, off + x * 4 + 2, none⟩)) ?_ (fun w hSw => by (try dsimp only at hSw); obtain ⟨q0, q1⟩ := hSw; go_simp)
      try simp only [Act.put, pu1, pu2, pu3]
      refine cl10 (by kernel_rfl) rfl (fun K hK => ?_)
      go_simp
      refine hK.out _ _ ?_ (fun hHeld => ?_)
      · exact ⟨y6, y7⟩
      clear hK K
      try simp only [Act.put, pu1, pu2, pu3]
      refine wpAnyH_done (by kernel_rfl) ?_ _
      go_wp2
      go_roundw
      case rel => exact ⟨k + 1, _, hkl, by go_num, FIN.out.1, HT2, by rw [List.length_set]; exact HT1.out, HBK2, hKK.out⟩
      case measure => simp [RowKit.intOf]; omega
    · have q0 : decide ((k : Int) < (l.length : Int)) = false := decide_eq_false (by omega)
      have hke : k = l.length := by omega
      have HF : Hid (SkAt wr base D ro vT vL tv od (wakeT T l) L) := by
        rw [hke, List.drop_length] at HT
        have := HT.out
        rw [this]
        exact hS
      clear hS HT
      go_wp2
      go_returns
      exact ⟨rfl, HF.out, hKe⟩
end
end Go.Proofs.Ythhlglbohibekaa
namespace Go.Proofs.Ythhlglbohibekaa
open Go.RowKit

def obFind (L : List (Int × Ob)) (k num : Int) : Nat := L.findIdx fun p => p.2.k == k && p.1 == num
def obAdd (L : List (Int × Ob)) (k num : Int) : List (Int × Ob) := if obFind L k num < L.length then L else L ++ [(num, obNew k)]
theorem ObAt.low {w : World} {base base' D : Nat} {S : Nat → Prop} {o : Ob} (h : ObAt w base D S o) (hb : base' ≤ base) : ObAt w base' D S o :=
  ⟨fun e => (h.mx e).low hb, fun e => (h.rw e).low hb, fun e => ⟨(h.gr e).1.low hb, (h.gr e).2⟩, fun e => (h.on e).low hb, fun b hs => ⟨Nat.le_trans hb (h.bd b hs).1, (h.bd b hs).2⟩, h.kk⟩
theorem ObAt.mk0 {w : World} {base D : Nat} {S : Nat → Prop} (h : MxAt w base D S (-1) []) : ObAt w base D S (obNew 0) := ⟨fun _ => h, fun e => (by cases e), fun e => (by cases e), fun e => (by cases e), h.bd, by decide⟩
theorem ObAt.mk1 {w : World} {base D : Nat} {S : Nat → Prop} (h : RwAt w base D S [] false []) : ObAt w base D S (obNew 1) := ⟨fun e => (by cases e), fun _ => h, fun e => (by cases e), fun e => (by cases e), h.bd, by decide⟩
theorem ObAt.mk2 {w : World} {base D : Nat} {S : Nat → Prop} (h : GrAt w base D S 0 []) : ObAt w base D S (obNew 2) := ⟨fun e => (by cases e), fun e => (by cases e), fun _ => ⟨h, by decide, by decide⟩, fun e => (by cases e), h.bd, by decide⟩
theorem ObAt.mk3 {w : World} {base D : Nat} {S : Nat → Prop} (h : OnAt w base D S (-1) false []) : ObAt w base D S (obNew 3) := ⟨fun e => (by cases e), fun e => (by cases e), fun e => (by cases e), fun _ => h, h.bd, by decide⟩
section
variable {w w1 w3 : World} {base D Dn : Nat} {ro : Nat → Option Nat} {vT vL u : Value} {tv : List Tv} {od : List Nat} {T : List Tk} {L : List (Int × Ob)} {num : Int} {o : Ob}
theorem SkAt.addOb (h : SkAt w base D ro vT vL tv od T L) (b1 : Below w.heap.size w w1) (hob : ObAt w1 w.heap.size Dn (fun b => b = Dn) o) (hDn : w.heap.size ≤ Dn ∧ Dn < w1.heap.size) (x : Obj) (h3 : Slid obC 6 ObT w3 u (od.zip L ++ [(Dn, num, o)])) (g3 : (w1.alloc x).grownBy w3 vL.ownBlock) (l3 : u.ownBlock = vL.ownBlock ∨ u.ownBlock = some (w1.alloc x).heap.size) :
    SkAt (w3.setCell ⟨D, 1, none⟩ u) base D (fun b => if b = Dn then some (L.length + 1) else if u.ownBlock = some b then some 0 else ro b) vT u tv (od ++ [Dn]) T (L ++ [(num, o)]) ∧ Kept w (w3.setCell ⟨D, 1, none⟩ u) (fun b => ro b ≠ none) (fun b => (if b = Dn then some (L.length + 1) else if u.ownBlock = some b then some 0 else ro b) ≠ none) := by
  have hDl := lt_of_block h.hd
  have hs1 := b1.size
  have hs3 : w1.heap.size + 1 ≤ w3.heap.size := by have := g3.size; simpa using this
  have hvD : vL.ownBlock ≠ some D := h.os.at'.ne h.hd (by decide)
  have hvl : ∀ g, vL.ownBlock = some g → g < w.heap.size := fun g hg => h.os.at'.lt hg
  have hot : ∀ c, c ≠ D → (w3.setCell ⟨D, 1, none⟩ u).heap[c]? = w3.heap[c]? := fun c hc => heap_setCell_other _ _ _ _ (by simpa using hc)
  have hb3 : ∀ c, c < w.heap.size → vL.ownBlock ≠ some c → w3.heap[c]? = w.heap[c]? := fun c hc hn => by
    rw [g3.block c (by simp; omega) (fun e => hn e.symm), Below.heap_alloc w1 x c (by omega), b1.block c hc]
  have hD3 : w3.heap[D]? = some (.cells #[vT, vL] SkT (0, 0)) := (hb3 D hDl hvD).trans h.hd
  have hD4 : (w3.setCell ⟨D, 1, none⟩ u).heap[D]? = some (.cells #[vT, u] SkT (0, 0)) := by
    rw [heap_setCell_same w3 D 1 _ _ _ hD3]
    rfl
  have huD : u.ownBlock ≠ some D := h3.ne hD3 (by decide)
  have huDn : u.ownBlock ≠ some Dn := fun e => by
    rcases l3 with l3 | l3
    · rw [e] at l3
      have := hvl Dn l3.symm
      omega
    · rw [e] at l3
      have := Option.some.inj l3
      simp at this
      omega
  have hnew : ∀ g, u.ownBlock = some g → vL.ownBlock = some g ∨ w.heap.size ≤ g := fun g hg => by
    rcases l3 with l3 | l3
    · left
      rw [← l3]
      exact hg
    · right
      rw [hg] at l3
      have := Option.some.inj l3
      simp at this
      omega
  have hro : ∀ c, c < w.heap.size → ro c = some 0 → (if c = Dn then some (L.length + 1) else if u.ownBlock = some c then some 0 else ro c) = some 0 := fun c hc hr => by
    rw [if_neg (by omega)]
    split
    · rfl
    · exact hr
  have hm : ∀ {α : Type} {enc : α → List Value} {k : Nat} {E : TypeId} {v : Value} {l : List α}, E ≠ ObT → E ≠ SkT → Mine enc k E w ro v l → Mine enc k E (w3.setCell ⟨D, 1, none⟩ u) (fun b => if b = Dn then some (L.length + 1) else if u.ownBlock = some b then some 0 else ro b) v l := fun hE hE2 hM => hM.keep (fun g cs fr hg hr => by
    have hgl := lt_of_block hg
    refine ⟨?_, hro g hgl hr⟩
    rw [hot g (fun e => by
      rw [e, h.hd] at hg
      simp only [Option.some.injEq, Obj.cells.injEq] at hg
      exact hE2 hg.2.1.symm)]
    exact hb3 g hgl (fun e => by
      obtain ⟨cur, hc⟩ := h.os.at'.block e
      rw [hg] at hc
      simp only [Option.some.injEq, Obj.cells.injEq] at hc
      exact hE hc.2.1))
  have hol := h.ol
  have hzip : (od ++ [Dn]).zip (L ++ [(num, o)]) = od.zip L ++ [(Dn, num, o)] := by
    rw [List.zip_append hol]
    rfl
  refine ⟨⟨hD4, h.tl, by simp [hol], hm (by decide) (by decide) h.ts, ⟨?_, fun g hg => ?_⟩, fun i h1 h2 => hm (by decide) (by decide) (h.op i h1 h2), fun i h1 h2 => hm (by decide) (by decide) (h.ru i h1 h2), fun i h1 h2 => ?_, hro D hDl h.sD, fun b hb => ?_, fun b j hj => ?_⟩, ⟨g3.os.trans b1.os, g3.tape.trans b1.tape, g3.output.trans b1.output, by simp; omega, fun b hb => ?_, fun b hb hn => ?_⟩⟩
  · rw [hzip]
    exact h3.keep (fun g hg => hot g (fun e => huD (by rw [hg, e])))
  · show (if g = Dn then _ else if u.ownBlock = some g then some 0 else ro g) = some 0
    rw [if_neg (fun e => huDn (by rw [hg, e])), if_pos hg]
  · have hI : ∀ (hL : i < L.length) (hO : i < od.length), ObAt (w3.setCell ⟨D, 1, none⟩ u) base od[i] (fun b => (if b = Dn then some (L.length + 1) else if u.ownBlock = some b then some 0 else ro b) = some (i + 1)) L[i].2 := fun hL hO => by
      have e1 : (fun b => (if b = Dn then some (L.length + 1) else if u.ownBlock = some b then some 0 else ro b) = some (i + 1)) = fun b => ro b = some (i + 1) := by
        funext b
        apply propext
        by_cases hbD : b = Dn
        · rw [if_pos hbD]
          constructor
          · intro e
            simp at e
            omega
          · intro e
            have := (h.bd b (by rw [e]; simp)).2
            omega
        · rw [if_neg hbD]
          by_cases hbu : u.ownBlock = some b
          · rw [if_pos hbu]
            constructor
            · intro e
              simp at e
            · intro e
              rcases hnew b hbu with h9 | h9
              · rw [h.os.own b h9] at e
                simp at e
              · have := (h.bd b (by rw [e]; simp)).2
                omega
          · rw [if_neg hbu]
      rw [e1]
      refine (h.ob i hO hL).keep (by simp; omega) (fun b hb => ?_)
      have hbl := (h.bd b (by rw [hb]; simp)).2
      rw [hot b (fun e => by rw [e, h.sD] at hb; simp at hb)]
      exact hb3 b hbl (fun e => by rw [h.os.own b e] at hb; simp at hb)
    by_cases hiL : i < L.length
    · have hiO : i < od.length := by omega
      rw [List.getElem_append_left hiO, List.getElem_append_left hiL]
      exact hI hiL hiO
    · have hie : i = L.length := by
        rw [List.length_append] at h2
        simp at h2
        omega
      subst hie
      rw [List.getElem_append_right (by omega), List.getElem_append_right (by omega)]
      simp only [hol, Nat.sub_self, List.getElem_singleton]
      have e1 : (fun b => (if b = Dn then some (L.length + 1) else if u.ownBlock = some b then some 0 else ro b) = some (L.length + 1)) = fun b => b = Dn := by
        funext b
        apply propext
        by_cases hbD : b = Dn
        · rw [if_pos hbD]
          exact ⟨fun _ => hbD, fun _ => rfl⟩
        · rw [if_neg hbD]
          constructor
          · intro e
            exfalso
            split at e
            · simp at e
            · have := h.rb b _ e
              omega
          · intro e
            exact absurd e hbD
      rw [e1]
      refine (hob.low (by have := h.bd D (by rw [h.sD]; simp); omega)).keep (by simp; omega) (fun b hb => ?_)
      subst hb
      rw [hot b (by omega), g3.block b (by simp; omega) (fun e => by have := hvl b e.symm; omega), Below.heap_alloc w1 x b (by omega)]
  · have hbase := (h.bd D (by rw [h.sD]; simp)).1
    have hsz : (w3.setCell ⟨D, 1, none⟩ u).heap.size = w3.heap.size := by simp
    rw [hsz]
    by_cases hbD : b = Dn
    · omega
    · rw [if_neg hbD] at hb
      by_cases hbu : u.ownBlock = some b
      · have h8 := h3.lt hbu
        rcases hnew b hbu with h9 | h9
        · have := (h.bd b (by rw [h.os.own b h9]; simp)).1
          omega
        · omega
      · rw [if_neg hbu] at hb
        have := h.bd b hb
        omega
  · rw [List.length_append]
    show j ≤ L.length + 1
    by_cases hbD : b = Dn
    · rw [if_pos hbD] at hj
      have := Option.some.inj hj
      omega
    · rw [if_neg hbD] at hj
      split at hj
      · have := Option.some.inj hj
        omega
      · have := h.rb b j hj
        omega
  · by_cases hbD : b = Dn
    · right
      omega
    · rw [if_neg hbD] at hb
      by_cases hbu : u.ownBlock = some b
      · rcases hnew b hbu with h9 | h9
        · left
          rw [h.os.own b h9]
          simp
        · right
          exact h9
      · rw [if_neg hbu] at hb
        left
        exact hb
  · rw [hot b (fun e => hn (by rw [e, h.sD]; simp))]
    exact hb3 b hb (fun e => hn (by rw [h.os.own b e]; simp))
end
end Go.Proofs.Ythhlglbohibekaa
namespace Go.Proofs.Ythhlglbohibekaa
open Go.RowKit

theorem obFind_not {L : List (Int × Ob)} {k num : Int} {f : Nat} (hf : obFind L k num = f) {j : Nat} (hj : j < f) (hL : j < L.length) : (L[j].2.k == k && L[j].1 == num) = false := by
  have := List.not_of_lt_findIdx (p := fun p : Int × Ob => p.2.k == k && p.1 == num) (xs := L) (i := j) (by unfold obFind at hf; omega)
  simpa using this
theorem obFind_is {L : List (Int × Ob)} {k num : Int} {f : Nat} (hf : obFind L k num = f) (hL : f < L.length) : L[f].2.k = k ∧ L[f].1 = num := by
  subst hf
  have := List.findIdx_getElem (p := fun p : Int × Ob => p.2.k == k && p.1 == num) (xs := L) (w := hL)
  simp only [Bool.and_eq_true, beq_iff_eq] at this
  exact this
theorem infoO6 : (Try.prog.info? 76).map (·.size) = some 6 := by kernel_rfl
section
variable {w w' : World} {base D : Nat} {ro : Nat → Option Nat} {vT vL : Value} {tv : List Tv} {od : List Nat} {T : List Tk} {L : List (Int × Ob)}
set_option maxHeartbeats 3200000 in
set_option maxRecDepth 100000 in
theorem sk_object_old (h : SkAt w base D ro vT vL tv od T L) (k num : Int) (hL : L.length ≤ 65536) (f d : Nat) (x : Int × Ob) (hf : obFind L k num = f) (hd : od[f]? = some d) (hx : L[f]? = some x) : Calls Try.prog 34 #[.pointer (some ⟨D, 0, none⟩), .int .i64 k, .int .i64 num] w fun e w' => e = .returned (.agg (obC (d, x)).toArray) ∧ Below w.heap.size w w' := by
  obtain ⟨hfo, hd⟩ := List.getElem?_eq_some_iff.1 hd
  obtain ⟨hfl, hx⟩ := List.getElem?_eq_some_iff.1 hx
  have HF : Hid (obFind L k num = f ∧ od[f] = d ∧ L[f] = x) := ⟨hf, hd, hx⟩
  have B1 : Hid _ := (Below.refl _ w).alloc (Nat.le_refl _) (.cells #[.int .i64 0, .int .i64 0, .pointer none, .pointer none, .pointer none, .pointer none] ObT)
  have R1 : Hid _ := heap_alloc_new w (.cells #[.int .i64 0, .int .i64 0, .pointer none, .pointer none, .pointer none, .pointer none] ObT)
  have HS : Hid (SkAt _ base D ro vT vL tv od T L) := h.fresh B1.out
  have hol := h.ol
  clear h hf hd hx
  go_enter Try.func34, Try.ntmps34
  go_wp2
  generalize w.alloc (.cells #[.int .i64 0, .int .i64 0, .pointer none, .pointer none, .pointer none, .pointer none] ObT) = w1 at *
  obtain ⟨_, ⟨aL, cL, eL⟩, c0, c1, f0, f1, hD⟩ := HS.out.cells
  rw [eL] at c1
  go_loop [7] (fun i => ∃ j : Nat, j ≤ f ∧ i = .int .i64 j) (fun i => f - (RowKit.intOf i).toNat)
  case atStart => exact ⟨0, Nat.zero_le _, rfl⟩
  case round =>
    obtain ⟨j, hj, rfl⟩ := hrel
    have hjl : j < L.length := by omega
    have q0 : decide ((j : Int) < (L.length : Int)) = true := decide_eq_true (by omega)
    obtain ⟨bL, off, cap, e, hb, hcc⟩ := HS.out.objc j hjl (by omega)
    rw [e] at eL
    simp only [Value.slice.injEq] at eL
    obtain ⟨rfl, _, rfl⟩ := eL
    have z0 : w1.cell? ⟨bL, off + j * 6, none⟩ = some (.int .i64 L[j].2.k) := hcc 0 _ (by decide) rfl
    have z1 : w1.cell? ⟨bL, off + j * 6 + 1, none⟩ = some (.int .i64 L[j].1) := hcc 1 _ (by decide) rfl
    have HC : Hid _ := hcc
    clear hcc e
    by_cases hjf : j = f
    · subst hjf
      obtain ⟨hy1, hy2⟩ := obFind_is HF.out.1 hfl
      obtain ⟨_, hd, hx⟩ := HF.out
      rw [hy1] at z0
      rw [hy2] at z1
      have q1 : (k == k) = true := beq_self_eq_true k
      have q2 : (num == num) = true := beq_self_eq_true num
      have hp : ∀ i, ∃ p, ptrK k d i = .pointer p := fun i => by
        unfold ptrK
        split
        · exact ⟨_, rfl⟩
        · exact ⟨_, rfl⟩
      obtain ⟨p0, e0⟩ := hp 0
      obtain ⟨p1, e1⟩ := hp 1
      obtain ⟨p2, e2⟩ := hp 2
      obtain ⟨p3, e3⟩ := hp 3
      have eC : obC (d, x) = [.int .i64 k, .int .i64 num, .pointer p0, .pointer p1, .pointer p2, .pointer p3] := by
        rw [← e0, ← e1, ← e2, ← e3, ← hx, ← hy1, ← hy2]
        rfl
      have HC2 : Hid _ := HC
      clear HC
      have hcc := HC2.out
      rw [hd, hx, eC] at hcc
      have z2 : w1.cell? ⟨bL, off + j * 6 + 2, none⟩ = some (.pointer p0) := hcc 2 _ (by decide) rfl
      have z3 : w1.cell? ⟨bL, off + j * 6 + 3, none⟩ = some (.pointer p1) := hcc 3 _ (by decide) rfl
      have z4 : w1.cell? ⟨bL, off + j * 6 + 4, none⟩ = some (.pointer p2) := hcc 4 _ (by decide) rfl
      have z5 : w1.cell? ⟨bL, off + j * 6 + 5, none⟩ = some (.pointer p3) := hcc 5 _ (by decide) rfl
      have HE : Hid _ := eC
      clear hcc HC2 e0 e1 e2 e3 eC hd hx hy1 hy2 hp
      go_wp2_with (show wpList _ _ _ (⟨_, Op.store 76 _ _, _, _, _, _⟩ :: _) _ _; refine store_row_g rfl 76 _ _ rfl w.heap.size #[.int .i64 k, .int .i64 num, .pointer p0, .pointer p1, .pointer p2, .pointer p3] rfl rfl 76 #[.int .i64 0, .int .i64 0, .pointer none, .pointer none, .pointer none, .pointer none] R1.out infoO6 rfl (by simp [Value.oneCell']) ?_; intro wE hE gE)
      refine bodyPost_ret (results_cell_row Try.results34 _ _ w.heap.size 76 _ (0, 0) _ rfl hE Try.underlying76 rfl infoO6) rfl ?_
      exact ⟨by rw [HE.out], B1.out.grown gE B1.out.size (fun q hq => by rw [← Option.some.inj hq]; exact Nat.le_refl _)⟩
    · have hn := obFind_not HF.out.1 (show j < f by omega) hjl
      clear HC
      generalize L[j].2.k = K at *
      generalize L[j].1 = N at *
      by_cases hK : K = k
      · have q1 : (K == k) = true := beq_iff_eq.2 hK
        have q2 : (N == num) = false := by simpa [q1] using hn
        clear hn hK
        go_wp2
        go_round
        case rel => exact ⟨j + 1, by omega, by go_num⟩
        case measure => simp [RowKit.intOf]; omega
      · have q1 : (K == k) = false := beq_eq_false_iff_ne.2 hK
        clear hn hK
        go_wp2
        go_round
        case rel => exact ⟨j + 1, by omega, by go_num⟩
        case measure => simp [RowKit.intOf]; omega
end
end Go.Proofs.Ythhlglbohibekaa
