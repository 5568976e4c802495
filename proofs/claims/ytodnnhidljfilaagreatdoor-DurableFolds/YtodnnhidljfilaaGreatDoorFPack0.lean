/-
  Parts of the proof, laid together: WvFrames, WvPlain, WvDec, WvRead. The conditions stand at each part.
-/
import Derived.WalkMore
import Derived.ScopeJumps
import Derived.Test.YtodnnhidljfilaaGreatDoorFPackA
import Derived.Test.YtodnnhidljfilaaGreatDoorFPackD
import Derived.Test.YtodnnhidljfilaaGreatDoorFPackH
import Derived.Test.YtodnnhidljfilaaGreatDoorFPackI
import Derived.Test.YtodnnhidljfilaaGreatDoorFPackX
import Derived.Test.YtodnnhidljfilaaGreatDoorFPackZ
/-
  The frames of records (package wal). The conditions: the records lie in memory as their reading says, are not more than 351843720000, and package frame's table lies in memory.
-/
namespace Go.Proofs.YtodnnhidljfilaaGreatDoor
open Go.RowKit

abbrev rcV0 (r : Rc) : Array Value := rcA r.kind r.n r.en.slot r.en.ballot r.en.cmd.kind r.en.cmd.session r.en.cmd.seq r.en.cmd.n r.en.cmd.name
set_option maxHeartbeats 6400000 in
set_option maxRecDepth 100000 in
theorem wframes_any (w : World) (v : Value) (l : List Rc) (hv : RowAt rcC w v l) (hl : l.length ≤ 351843720000) (hT : Tab w) :
    Calls Tryz.prog 75 #[v] w fun e w' => e = .returned (.tuple #[.string (framesT l).1, .int .i64 (framesT l).2]) ∧ Below w.heap.size w w' := by
  obtain ⟨a, cap, rfl⟩ := hv.form
  have hB0 := Bd.new w
  have ba : Below w.heap.size w (w.alloc (.cells #[.pointer none, .slice none 0 0] 175)) := (Below.refl _ w).alloc (Nat.le_refl _) _
  go_enter Tryz.func75, Tryz.ntmps75
  go_wp2
  go_loopw [12] (fun i wr => ∃ (k : Nat), k ≤ l.length ∧ i = .int .i64 (k : Int) ∧ Hid ((l.take k).all mayR = true) ∧ Hid (Bd wr w.heap.size w.heap.size (framesOf (l.take k))) ∧ Below w.heap.size w wr) (fun i _ => l.length - (intOf i).toNat)
  case atStart => exact ⟨0, Nat.zero_le _, rfl, rfl, hB0, ba⟩
  case round =>
    obtain ⟨k, hk, rfl, HM, HB, hb⟩ := hrel
    clear hB0 ba
    by_cases hkl : k < l.length
    · have hd : decide ((k : Int) < (l.length : Int)) = true := decide_eq_true (by omega)
      obtain ⟨bk, off, cap', hvv, hcap, hbk, hc⟩ := (hv.fresh hb).cells rcC_len (by omega)
      injection hvv with e1 e2 e3
      subst e1 e3
      obtain ⟨r, hr⟩ : ∃ r, r = l[k] := ⟨_, rfl⟩
      have z0 := hc k hkl 0 (.int .i64 r.kind) (by decide) (by rw [hr]; rfl)
      have z1 := hc k hkl 1 (.int .i64 r.n) (by decide) (by rw [hr]; rfl)
      have z2 := hc k hkl 2 (.int .i64 r.en.slot) (by decide) (by rw [hr]; rfl)
      have z3 := hc k hkl 3 (.int .i64 r.en.ballot) (by decide) (by rw [hr]; rfl)
      have z4 := hc k hkl 4 (.int .i64 r.en.cmd.kind) (by decide) (by rw [hr]; rfl)
      have z5 := hc k hkl 5 (.int .i64 r.en.cmd.session) (by decide) (by rw [hr]; rfl)
      have z6 := hc k hkl 6 (.int .i64 r.en.cmd.seq) (by decide) (by rw [hr]; rfl)
      have z7 := hc k hkl 7 (.string r.en.cmd.name) (by decide) (by rw [hr]; rfl)
      have z8 := hc k hkl 8 (.int .i64 r.en.cmd.n) (by decide) (by rw [hr]; rfl)
      rw [Nat.add_zero] at z0
      have qe := wencR_any r.kind r.n r.en.slot r.en.ballot r.en.cmd.kind r.en.cmd.session r.en.cmd.seq r.en.cmd.n r.en.cmd.name
      rw [show (⟨r.kind, r.n, ⟨r.en.slot, r.en.ballot, ⟨r.en.cmd.kind, r.en.cmd.session, r.en.cmd.seq, r.en.cmd.name, r.en.cmd.n⟩⟩⟩ : Rc) = r from rfl] at qe
      have htk : l.take (k + 1) = l.take k ++ [r] := by
        rw [List.take_add_one, List.getElem?_eq_getElem hkl, ← hr]
        rfl
      have hal : Below w.heap.size w (wr.alloc (.cells (rcV0 r) 69)) := hb.alloc hb.size _
      have HBA : Hid (Bd (wr.alloc (.cells (rcV0 r) 69)) w.heap.size w.heap.size (framesOf (l.take k))) := HB.out.keep ((Below.refl _ wr).alloc (Nat.le_refl _) _)
      by_cases hm : mayR r = true
      · rw [encRT_yes hm] at qe
        have qw := fun w hT => wrap_any ⟨(encR r).toArray⟩ w hT
        rw [wrapOf_rec hm] at qw
        have HM' : Hid ((l.take (k + 1)).all mayR = true) := by
          show _ = true
          rw [htk, List.all_append, HM.out]
          simp [hm]
        have hfew := framesOf_few _ HM'.out
        have hfr : framesOf (l.take (k + 1)) = framesOf (l.take k) ++ frameOf (encR r) := by rw [htk, framesOf_snoc]
        rw [hfr, List.length_append, List.length_take] at hfew
        have hmin : min (k + 1) l.length * 400 ≤ 140737488000000 := by
          have : min (k + 1) l.length * 400 ≤ 351843720000 * 400 := Nat.mul_le_mul_right _ (by omega)
          omega
        obtain ⟨E, hE⟩ : ∃ E : ByteArray, E = ⟨(encR r).toArray⟩ := ⟨_, rfl⟩
        obtain ⟨F, hF⟩ : ∃ F : ByteArray, F = ⟨(frameOf (encR r)).toArray⟩ := ⟨_, rfl⟩
        have HF : Hid (F.data.toList = frameOf (encR r)) := by rw [hF]; rfl
        have HL : Hid ((framesOf (l.take k)).length + F.size ≤ 140737488355328) := by
          show _ ≤ _
          rw [Lib.size_eq, HF.out]
          omega
        have HR : Hid (framesOf (l.take (k + 1)) = framesOf (l.take k) ++ F.data.toList) := by rw [HF.out]; exact hfr
        rw [← hE] at qe qw
        rw [← hF] at qw
        clear htk hm hE hF hr hc hfew hfr hmin HF
        go_wp2_with (first
          | (go_at_call 117; refine (wstr_any w.heap.size w.heap.size (framesOf (l.take k)) F _ HB4.out HL.out f4.size).mono ?_; rintro e' w5 ⟨rfl, d5, b5⟩; have HB5 : Hid _ := d5; clear d5; have f5 := f4.trans b5)
          | (go_at_call 116; refine (qw _ (hT.below f3)).mono ?_; rintro e' w4 ⟨rfl, b4⟩; have HB4 : Hid (Bd w4 w.heap.size w.heap.size (framesOf (l.take k))) := HB3.out.keep b4; have f4 := bmm f3 f3.size b4)
          | (go_at_call 80; refine (qe _).mono ?_; rintro e' w3 ⟨rfl, b3⟩; have HB3 : Hid (Bd w3 w.heap.size w.heap.size (framesOf (l.take k))) := HBA.out.keep b3; have f3 := bmm hal hal.size b3))
        go_roundw
        case rel => exact ⟨k + 1, hkl, by go_num, HM', by rw [HR.out]; exact HB5, f5⟩
        case measure => simp [intOf]; omega
      · rw [encRT_no (by simpa using hm)] at qe
        have HN : Hid (framesT l = (⟨#[]⟩, 1)) := by
          show framesT l = _
          unfold framesT
          rw [if_neg]
          intro hall
          exact hm (by rw [hr]; exact List.all_eq_true.mp hall _ (List.getElem_mem hkl))
        clear htk hm hr hc HB HBA HM
        go_wp2_with (go_at_call 80; refine (qe _).mono ?_; rintro e' w3 ⟨rfl, b3⟩; have f3 := bmm hal hal.size b3)
        go_ret2
        exact ⟨by rw [HN.out]; rfl, f3⟩
    · have hd : decide ((k : Int) < (l.length : Int)) = false := decide_eq_false (by omega)
      have htk : l.take k = l := List.take_of_length_le (by omega)
      have HN : Hid (framesT l = (⟨(framesOf l).toArray⟩, 0)) := by
        show framesT l = _
        have h1 := HM.out
        rw [htk] at h1
        unfold framesT
        rw [if_pos h1]
      have qs := Tryz.Builder_String_any w.heap.size w.heap.size (framesOf (l.take k)) wr HB.out hb.size
      rw [htk] at qs
      clear HB HM htk
      go_wp2_with (go_at_call 118; refine qs.mono ?_; rintro e' w3 ⟨rfl, b3⟩)
      go_ret2
      exact ⟨by rw [HN.out]; rfl, hb.trans b3⟩
end Go.Proofs.YtodnnhidljfilaaGreatDoor
/-
  Bytes as a record, by their first byte (plain data). No condition.
-/
namespace Go.Proofs.YtodnnhidljfilaaGreatDoor

theorem entry_only {s : ByteArray} {e : En} (h : decE s = some e) : mayE e = true ∧ s = ⟨(encE e).toArray⟩ := by
  unfold decE at h
  cases hc : decC (readE s).2.2.1 with
  | none => rw [hc] at h; cases h
  | some c =>
    rw [hc] at h
    simp only at h
    by_cases hz : (readE s).2.2.2 = 0 ∧ mayE ⟨(readE s).1, (readE s).2.1, c⟩ = true
    · rw [if_pos hz] at h
      obtain rfl := Option.some.inj h
      refine ⟨hz.2, ?_⟩
      have h1 := readE_only hz.1
      rw [(decC_only hc).2] at h1
      exact h1
    · rw [if_neg hz] at h
      cases h
theorem decET_only {s : ByteArray} (h : (decET s).2 = 0) : mayE (decET s).1 = true ∧ s = ⟨(encE (decET s).1).toArray⟩ := by
  unfold decET at h ⊢
  cases hd : decE s with
  | none => rw [hd] at h; cases h
  | some e => exact entry_only hd
theorem eight_num8 {l : List UInt8} (h : l.length = 8) : eight (num8 l) = l := by
  have l1 : (l.take 4).length = 4 := by rw [List.length_take]; omega
  have a := four_num4 (l := l) (by omega)
  have b := four_num4 (l := l.drop 4) (by rw [List.length_drop]; omega)
  have c : (l.drop 4).take 4 = l.drop 4 := List.take_of_length_le (by rw [List.length_drop]; omega)
  have n1 := num4_lt l
  have n2 := num4_lt (l.drop 4)
  have e1 : four (num8 l) = four (num4 l) := by
    unfold four num8
    have h1 : (num4 l + num4 (l.drop 4) * 4294967296) % 256 = num4 l % 256 := by omega
    have h2 : (num4 l + num4 (l.drop 4) * 4294967296) / 256 % 256 = num4 l / 256 % 256 := by omega
    have h3 : (num4 l + num4 (l.drop 4) * 4294967296) / 65536 % 256 = num4 l / 65536 % 256 := by omega
    have h4 : (num4 l + num4 (l.drop 4) * 4294967296) / 16777216 % 256 = num4 l / 16777216 % 256 := by omega
    rw [h1, h2, h3, h4]
  have e2 : num8 l / 4294967296 = num4 (l.drop 4) := by unfold num8; omega
  unfold eight
  rw [e1, e2, a, b, c, List.take_append_drop]
theorem encR_head {r : Rc} (h : mayR r = true) : (r.kind = 1 ∧ encR r = 1 :: eight r.n.toNat) ∨ (r.kind = 2 ∧ encR r = 2 :: encE r.en) := by
  rcases mayR_kind h with ⟨h1, _⟩ | ⟨h1, _⟩
  · exact Or.inl ⟨h1, by unfold encR; rw [if_pos h1]⟩
  · exact Or.inr ⟨h1, by unfold encR; rw [if_neg (by omega)]⟩
theorem decR_nil : decR [] = none := by
  cases h : decR [] with
  | none => rfl
  | some r =>
    obtain ⟨m, e⟩ := decR_only h
    rcases encR_head m with ⟨_, e1⟩ | ⟨_, e1⟩ <;> rw [e1] at e <;> cases e
theorem decR_other {c : UInt8} {t : List UInt8} (h1 : c ≠ 1) (h2 : c ≠ 2) : decR (c :: t) = none := by
  cases h : decR (c :: t) with
  | none => rfl
  | some r =>
    obtain ⟨m, e⟩ := decR_only h
    rcases encR_head m with ⟨_, e1⟩ | ⟨_, e1⟩
    · rw [e1] at e
      exact absurd (List.cons.inj e).1.symm h1
    · rw [e1] at e
      exact absurd (List.cons.inj e).1.symm h2
theorem decR_one (t : List UInt8) : decR (1 :: t) = if t.length = 8 ∧ 1 ≤ num8 t ∧ num8 t ≤ 1099511627776 then some ⟨1, (num8 t : Int), En.zero⟩ else none := by
  by_cases h : t.length = 8 ∧ 1 ≤ num8 t ∧ num8 t ≤ 1099511627776
  · rw [if_pos h]
    have m : mayR ⟨1, (num8 t : Int), En.zero⟩ = true := mayR_one (by omega) (by omega)
    have e : encR ⟨1, (num8 t : Int), En.zero⟩ = 1 :: t := by
      show 1 :: eight (num8 t : Int).toNat = 1 :: t
      rw [Int.toNat_natCast, eight_num8 h.1]
    have := decR_enc m
    rw [e] at this
    exact this
  · rw [if_neg h]
    cases hd : decR (1 :: t) with
    | none => rfl
    | some r =>
      exfalso
      obtain ⟨m, e⟩ := decR_only hd
      rcases encR_head m with ⟨k1, e1⟩ | ⟨k1, e1⟩
      · rw [e1] at e
        have et := (List.cons.inj e).2
        rcases mayR_kind m with ⟨_, h2, h3, _⟩ | ⟨h2, _⟩
        · apply h
          have n8 := num8_eight (n := r.n.toNat) (by omega) []
          rw [List.append_nil] at n8
          rw [← et, eight_len, n8]
          omega
        · omega
      · rw [e1] at e
        have := (List.cons.inj e).1
        cases this
theorem decR_two (t : List UInt8) : decR (2 :: t) = if (decET ⟨t.toArray⟩).2 = 0 ∧ 1 ≤ (decET ⟨t.toArray⟩).1.ballot then some ⟨2, 0, (decET ⟨t.toArray⟩).1⟩ else none := by
  have only := @decET_only ⟨t.toArray⟩
  have back : ∀ e : En, mayE e = true → t = encE e → decET ⟨t.toArray⟩ = (e, 0) := fun e h1 h2 => by rw [h2]; exact decET_enc h1
  generalize decET ⟨t.toArray⟩ = D at only back ⊢
  by_cases h : D.2 = 0 ∧ 1 ≤ D.1.ballot
  · rw [if_pos h]
    obtain ⟨m, e⟩ := only h.1
    have hm : mayR ⟨2, 0, D.1⟩ = true := by
      unfold mayR
      simp [m, h.2]
    have et : t = encE D.1 := by
      have : t.toArray.toList = (encE D.1).toArray.toList := congrArg (fun s : ByteArray => s.data.toList) e
      rw [List.toList_toArray, List.toList_toArray] at this
      exact this
    have e2 : encR ⟨2, 0, D.1⟩ = 2 :: t := by
      show 2 :: encE D.1 = 2 :: t
      rw [← et]
    have := decR_enc hm
    rw [e2] at this
    exact this
  · rw [if_neg h]
    cases hd : decR (2 :: t) with
    | none => rfl
    | some r =>
      exfalso
      obtain ⟨m, e⟩ := decR_only hd
      rcases encR_head m with ⟨k1, e1⟩ | ⟨k1, e1⟩
      · rw [e1] at e
        have := (List.cons.inj e).1
        cases this
      · rw [e1] at e
        have et := (List.cons.inj e).2
        rcases mayR_kind m with ⟨h2, _⟩ | ⟨_, h2, _, h4⟩
        · omega
        · apply h
          rw [back r.en h2 et.symm]
          exact ⟨rfl, h4⟩
end Go.Proofs.YtodnnhidljfilaaGreatDoor
/-
  Bytes as a record (package wal). The condition: the text is no longer than a text may be.
-/
namespace Go.Proofs.YtodnnhidljfilaaGreatDoor
open Go.RowKit

theorem infoR9 : (Tryz.prog.info? 69).map (·.size) = some 9 := by kernel_rfl
/-- A record and a number as results. -/
theorem results_rec {fn : Func} (h : fn.results = #[.cell 2 69, .tmp 3]) (tmps : Array Value) (w : World) {g : Nat} {K N A B k S Q n : Int} {T : ByteArray} (hp : tmps.getD 2 undef = .pointer (some ⟨g, 0, none⟩)) (hg : w.heap[g]? = some (.cells (rcA K N A B k S Q n T) 69 (0, 0))) :
    (results fn tmps).run Tryz.prog w = .ok (.tuple #[.agg (rcA K N A B k S Q n T), tmps.getD 3 undef]) w := by
  have hp' : tmps[2]?.getD undef = .pointer (some ⟨g, 0, none⟩) := by simpa using hp
  simp [results, h, hp', asAddr, run_loadVar_row w g 69 69 _ (0, 0) _ hg Tryz.underlying69 rfl infoR9]
abbrev rz : Array Value := #[.int .i64 0, .int .i64 0, .int .i64 0, .int .i64 0, .int .i64 0, .int .i64 0, .int .i64 0, .string ⟨#[]⟩, .int .i64 0]
abbrev rcV (r : Rc) : Array Value := rcA r.kind r.n r.en.slot r.en.ballot r.en.cmd.kind r.en.cmd.session r.en.cmd.seq r.en.cmd.n r.en.cmd.name
/-- A record or none, as two results. -/
def recV : Option Rc → Value
  | some r => .tuple #[.agg (rcV r), .int .i64 0]
  | none => .tuple #[.agg rz, .int .i64 2]
theorem two_new (w : World) (o1 o2 : Obj) : ((w.alloc o1).alloc o2).heap[w.heap.size]? = some o1 ∧ ((w.alloc o1).alloc o2).heap[w.heap.size + 1]? = some o2 := by
  refine ⟨(heap_alloc_old (w.alloc o1) o2 (by simp)).trans (heap_alloc_new w o1), ?_⟩
  have := heap_alloc_new (w.alloc o1) o2
  simpa using this
theorem low_set {w w1 w2 : World} {B : Nat} (b : Below B w w1) (hB : B ≤ w.heap.size) (g : w1.grownBy w2 (some B)) : Below B w w2 :=
  b.grown g (Nat.le_trans hB b.size) (fun k hk => by cases hk; exact Nat.le_refl _)
set_option maxHeartbeats 3200000 in
set_option maxRecDepth 100000 in
theorem decodeP_len (s : ByteArray) (w : World) (h : ¬ s.size = 8) :
    Calls Tryz.prog 189 #[.string s] w fun e w' => e = .returned (recV none) ∧ Below w.heap.size w w' := by
  have hd : ((s.size : Int) != 8) = true := by simp; omega
  go_enter Tryz.func189, Tryz.ntmps189
  go_wp2
  refine bodyPost_ret (results_rec Tryz.results189 _ _ rfl (heap_alloc_new w _)) rfl ?_
  exact ⟨rfl, (Below.refl _ w).alloc (Nat.le_refl _) _⟩
set_option maxHeartbeats 3200000 in
set_option maxRecDepth 100000 in
theorem decodeP_8 (s : ByteArray) (w : World) (h : s.size = 8) :
    Calls Tryz.prog 189 #[.string s] w fun e w' => e = .returned (recV (if 1 ≤ num8 s.data.toList ∧ num8 s.data.toList ≤ 1099511627776 then some ⟨1, (num8 s.data.toList : Int), En.zero⟩ else none)) ∧ Below w.heap.size w w' := by
  obtain ⟨v, hb, qb⟩ := ballot_any s h
  have qp := isPromise_any 1 v 0 0 0 0 0 0 ⟨#[]⟩
  rw [show promB ⟨1, v, ⟨0, 0, ⟨0, 0, 0, ⟨#[]⟩, 0⟩⟩⟩ = (decide (1 ≤ v) && decide (v ≤ 1099511627776)) from promB_zero v] at qp
  have hd : ((s.size : Int) != 8) = false := by simp; omega
  by_cases hp : 1 ≤ v ∧ v ≤ 1099511627776
  · have hv : v = (num8 s.data.toList : Int) := by
      rcases hb with hb | hb
      · exact hb.2
      · omega
    rw [if_pos (by omega), ← hv]
    show Calls Tryz.prog 189 #[.string s] w fun e w' => e = .returned (.tuple #[.agg (rcA 1 v 0 0 0 0 0 0 ⟨#[]⟩), .int .i64 0]) ∧ _
    rw [decide_eq_true hp.1, decide_eq_true hp.2, Bool.and_self] at qp
    clear hv hb
    go_enter Tryz.func189, Tryz.ntmps189
    go_wp2_with (first
      | (show wpList _ _ _ (⟨_, Op.store 69 _ _, _, _, _, _⟩ :: _) _ _; have y0 := hR; refine store_row_g rfl 69 _ _ rfl w.heap.size (rcA 1 v 0 0 0 0 0 0 ⟨#[]⟩) rfl rfl 69 rz hR infoR9 rfl (by simp [Value.oneCell']) ?_; intro w3 h3 g3)
      | (show wpList _ _ _ (⟨_, Op.load 69 _, _, _, _, _⟩ :: _) _ _; have y0 := hV; refine load_row_g rfl 69 _ rfl (w.heap.size + 1) rfl 69 _ (0, 0) _ hV Tryz.underlying69 rfl infoR9 ?_)
      | (go_at_call 123; refine (qp _).mono ?_; rintro e w2 ⟨rfl, b2⟩; have hR := (b2.block w.heap.size (by simp; omega)).trans (two_new w (.cells rz 69) (.cells (rcA 1 v 0 0 0 0 0 0 ⟨#[]⟩) 69)).1; have hV := (b2.block (w.heap.size + 1) (by simp)).trans (two_new w (.cells rz 69) (.cells (rcA 1 v 0 0 0 0 0 0 ⟨#[]⟩) 69)).2)
      | (go_at_call 212; refine (qb _).mono ?_; rintro e w1 ⟨rfl, rfl⟩))
    refine bodyPost_ret (results_rec Tryz.results189 _ _ rfl h3) rfl ?_
    have f0 : Below w.heap.size w ((w.alloc (.cells rz 69)).alloc (.cells (rcA 1 v 0 0 0 0 0 0 ⟨#[]⟩) 69)) := ((Below.refl _ w).alloc (Nat.le_refl _) _).alloc (by simp) _
    exact ⟨rfl, low_set (bmm f0 f0.size b2) (Nat.le_refl _) g3⟩
  · rw [if_neg (by rcases hb with hb | hb <;> omega)]
    show Calls Tryz.prog 189 #[.string s] w fun e w' => e = .returned (.tuple #[.agg rz, .int .i64 2]) ∧ _
    rw [show (decide (1 ≤ v) && decide (v ≤ 1099511627776)) = false by simp; omega] at qp
    clear hb
    go_enter Tryz.func189, Tryz.ntmps189
    go_wp2_with (first
      | (show wpList _ _ _ (⟨_, Op.store 69 _ _, _, _, _, _⟩ :: _) _ _; have y0 := hR; refine store_row_g rfl 69 _ _ rfl w.heap.size (rz) rfl rfl 69 rz hR infoR9 rfl (by simp [Value.oneCell']) ?_; intro w3 h3 g3)
      | (go_at_call 123; refine (qp _).mono ?_; rintro e w2 ⟨rfl, b2⟩; have hR := (b2.block w.heap.size (by simp; omega)).trans (two_new w (.cells rz 69) (.cells (rcA 1 v 0 0 0 0 0 0 ⟨#[]⟩) 69)).1; have hV := (b2.block (w.heap.size + 1) (by simp)).trans (two_new w (.cells rz 69) (.cells (rcA 1 v 0 0 0 0 0 0 ⟨#[]⟩) 69)).2)
      | (go_at_call 212; refine (qb _).mono ?_; rintro e w1 ⟨rfl, rfl⟩))
    refine bodyPost_ret (results_rec Tryz.results189 _ _ rfl h3) rfl ?_
    have f0 : Below w.heap.size w ((w.alloc (.cells rz 69)).alloc (.cells (rcA 1 v 0 0 0 0 0 0 ⟨#[]⟩) 69)) := ((Below.refl _ w).alloc (Nat.le_refl _) _).alloc (by simp) _
    exact ⟨rfl, low_set (bmm f0 f0.size b2) (Nat.le_refl _) g3⟩
theorem decodeP_any (s : ByteArray) (w : World) :
    Calls Tryz.prog 189 #[.string s] w fun e w' => e = .returned (recV (decR (1 :: s.data.toList))) ∧ Below w.heap.size w w' := by
  rw [decR_one]
  by_cases h : s.size = 8
  · have r := decodeP_8 s w h
    have hl : s.data.toList.length = 8 := by rw [← Lib.size_eq]; exact h
    by_cases hc : 1 ≤ num8 s.data.toList ∧ num8 s.data.toList ≤ 1099511627776
    · rw [if_pos ⟨hl, hc⟩]
      rw [if_pos hc] at r
      exact r
    · rw [if_neg (fun x => hc x.2)]
      rw [if_neg hc] at r
      exact r
  · rw [if_neg (fun x => h (by rw [Lib.size_eq]; exact x.1))]
    exact decodeP_len s w h
set_option maxHeartbeats 3200000 in
set_option maxRecDepth 100000 in
theorem decodeA_of (s : ByteArray) (w : World) (A B k S Q n z : Int) (T : ByteArray) (q : ∀ w, Calls Tryz.prog 213 #[.string s] w fun e w' => e = .returned (.tuple #[.agg #[.int .i64 A, .int .i64 B, .int .i64 k, .int .i64 S, .int .i64 Q, .string T, .int .i64 n], .int .i64 z]) ∧ Below w.heap.size w w') :
    Calls Tryz.prog 190 #[.string s] w fun e w' => e = .returned (recV (if z = 0 ∧ 1 ≤ B then some ⟨2, 0, ⟨A, B, ⟨k, S, Q, T, n⟩⟩⟩ else none)) ∧ Below w.heap.size w w' := by
  by_cases hz : z = 0
  · subst hz
    by_cases hB : 1 ≤ B
    · rw [if_pos ⟨rfl, hB⟩]
      show Calls Tryz.prog 190 #[.string s] w fun e w' => e = .returned (.tuple #[.agg (rcA 2 0 A B k S Q n T), .int .i64 0]) ∧ _
      have kB : (B < 1) = False := eq_false (by omega)
      go_enter Tryz.func190, Tryz.ntmps190
      go_wp2_with (first
        | (show wpList _ _ _ (⟨_, Op.store 69 _ _, _, _, _, _⟩ :: _) _ _; have y0 := hR; refine store_row_g rfl 69 _ _ rfl w.heap.size (rcA 2 0 A B k S Q n T) rfl rfl 69 rz hR infoR9 rfl (by simp [Value.oneCell']) ?_; intro w3 h3 g3)
        | (go_at_call 213; refine (q _).mono ?_; rintro e w1 ⟨rfl, b1⟩; have hR0 : w1.heap[w.heap.size]? = some (.cells rz 69 (0, 0)) := (b1.block w.heap.size (by simp)).trans (heap_alloc_new w _); have hR := (heap_alloc_old w1 (.cells #[.int .i64 A, .int .i64 B, .int .i64 k, .int .i64 S, .int .i64 Q, .string T, .int .i64 n] 66) (lt_of_block hR0)).trans hR0))
      refine bodyPost_ret (results_rec Tryz.results190 _ _ rfl h3) rfl ?_
      have f0 : Below w.heap.size w (w.alloc (.cells rz 69)) := (Below.refl _ w).alloc (Nat.le_refl _) _
      have f1 := bmm f0 f0.size b1
      exact ⟨rfl, low_set (f1.alloc f1.size _) (Nat.le_refl _) g3⟩
    · rw [if_neg (fun x => hB x.2)]
      show Calls Tryz.prog 190 #[.string s] w fun e w' => e = .returned (.tuple #[.agg (rz), .int .i64 2]) ∧ _
      have kB : (B < 1) = True := eq_true (by omega)
      go_enter Tryz.func190, Tryz.ntmps190
      go_wp2_with (first
        | (show wpList _ _ _ (⟨_, Op.store 69 _ _, _, _, _, _⟩ :: _) _ _; have y0 := hR; refine store_row_g rfl 69 _ _ rfl w.heap.size (rz) rfl rfl 69 rz hR infoR9 rfl (by simp [Value.oneCell']) ?_; intro w3 h3 g3)
        | (go_at_call 213; refine (q _).mono ?_; rintro e w1 ⟨rfl, b1⟩; have hR0 : w1.heap[w.heap.size]? = some (.cells rz 69 (0, 0)) := (b1.block w.heap.size (by simp)).trans (heap_alloc_new w _); have hR := (heap_alloc_old w1 (.cells #[.int .i64 A, .int .i64 B, .int .i64 k, .int .i64 S, .int .i64 Q, .string T, .int .i64 n] 66) (lt_of_block hR0)).trans hR0))
      refine bodyPost_ret (results_rec Tryz.results190 _ _ rfl h3) rfl ?_
      have f0 : Below w.heap.size w (w.alloc (.cells rz 69)) := (Below.refl _ w).alloc (Nat.le_refl _) _
      have f1 := bmm f0 f0.size b1
      exact ⟨rfl, low_set (f1.alloc f1.size _) (Nat.le_refl _) g3⟩
  · rw [if_neg (fun x => hz x.1)]
    show Calls Tryz.prog 190 #[.string s] w fun e w' => e = .returned (.tuple #[.agg (rz), .int .i64 2]) ∧ _
    have kz : (z != 0) = true := by simpa using hz
    go_enter Tryz.func190, Tryz.ntmps190
    go_wp2_with (first
      | (show wpList _ _ _ (⟨_, Op.store 69 _ _, _, _, _, _⟩ :: _) _ _; have y0 := hR; refine store_row_g rfl 69 _ _ rfl w.heap.size (rz) rfl rfl 69 rz hR infoR9 rfl (by simp [Value.oneCell']) ?_; intro w3 h3 g3)
      | (go_at_call 213; refine (q _).mono ?_; rintro e w1 ⟨rfl, b1⟩; have hR0 : w1.heap[w.heap.size]? = some (.cells rz 69 (0, 0)) := (b1.block w.heap.size (by simp)).trans (heap_alloc_new w _); have hR := (heap_alloc_old w1 (.cells #[.int .i64 A, .int .i64 B, .int .i64 k, .int .i64 S, .int .i64 Q, .string T, .int .i64 n] 66) (lt_of_block hR0)).trans hR0))
    refine bodyPost_ret (results_rec Tryz.results190 _ _ rfl h3) rfl ?_
    have f0 : Below w.heap.size w (w.alloc (.cells rz 69)) := (Below.refl _ w).alloc (Nat.le_refl _) _
    have f1 := bmm f0 f0.size b1
    exact ⟨rfl, low_set (f1.alloc f1.size _) (Nat.le_refl _) g3⟩
theorem decodeA_any (s : ByteArray) (w : World) (hs : s.size ≤ 9223372036854775807) :
    Calls Tryz.prog 190 #[.string s] w fun e w' => e = .returned (recV (decR (2 :: s.data.toList))) ∧ Below w.heap.size w w' := by
  rw [decR_two, show (⟨s.data.toList.toArray⟩ : ByteArray) = s by simp]
  have q := decodeE_any s hs
  generalize decET s = D at q ⊢
  obtain ⟨⟨A, B, ⟨k, S, Q, T, n⟩⟩, z⟩ := D
  exact decodeA_of s w A B k S Q n z T q
theorem tail_one (s : ByteArray) : (s.extract 1 s.size).data.toList = s.data.toList.drop 1 := by
  have hl := Lib.size_eq s
  rw [Lib.extract_data, List.take_of_length_le (by rw [List.length_drop]; omega)]
theorem cons_one (s : ByteArray) (h : 0 < s.size) : s.data.toList = s[0] :: s.data.toList.drop 1 := by
  have hl : 0 < s.data.toList.length := by rw [← Lib.size_eq]; exact h
  have := List.drop_eq_getElem_cons hl
  rw [List.drop_zero] at this
  exact this
set_option maxHeartbeats 3200000 in
set_option maxRecDepth 100000 in
theorem wdecR_any (s : ByteArray) (w : World) (hs : s.size ≤ 9223372036854775807) :
    Calls Tryz.prog 154 #[.string s] w fun e w' => e = .returned (recV (decR s.data.toList)) ∧ Below w.heap.size w w' := by
  by_cases h0 : s.size = 0
  · obtain rfl := empty_of_size h0
    rw [show decR ((⟨#[]⟩ : ByteArray).data.toList) = none from decR_nil]
    show Calls Tryz.prog 154 #[.string ⟨#[]⟩] w fun e w' => e = .returned (.tuple #[.agg rz, .int .i64 2]) ∧ _
    go_enter Tryz.func154, Tryz.ntmps154
    go_wp2
    refine bodyPost_ret (results_rec Tryz.results154 _ _ rfl (heap_alloc_new w _)) rfl ?_
    exact ⟨rfl, (Below.refl _ w).alloc (Nat.le_refl _) _⟩
  have k0 : 0 < s.size := by omega
  have hne : ¬ s = ⟨#[]⟩ := by
    intro e
    rw [e] at h0
    exact h0 rfl
  have hte : s.toList.isEmpty = false := by
    rcases name_kinds s with e | ⟨e, _⟩
    · exact absurd e hne
    · cases hl : s.toList with
      | nil => exact absurd hl e
      | cons a b => rfl
  have hcons := cons_one s k0
  have kx : (1 : Int) ≤ (s.size : Int) := by omega
  obtain ⟨c, hc⟩ : ∃ c, s[0] = c := ⟨_, rfl⟩
  obtain ⟨d, hd⟩ : ∃ d, s[0].toNat = d := ⟨_, rfl⟩
  have hdc : c.toNat = d := by rw [← hd, hc]
  rw [hc] at hcons
  by_cases h1 : d = 1
  · have ec : c = 1 := UInt8.toNat_inj.mp (hdc.trans h1)
    have q := fun w => decodeP_any (s.extract 1 s.size) w
    rw [tail_one, ← ec, ← hcons] at q
    subst h1
    clear ec hdc hc h0 hne
    cases ho : decR s.data.toList with
    | none =>
      have q' : ∀ w, Calls Tryz.prog 189 #[.string (s.extract 1 s.size)] w fun e w' => e = .returned (.tuple #[.agg (rz), .int .i64 2]) ∧ Below w.heap.size w w' := fun w => by
        have := q w
        rw [ho] at this
        exact this
      show Calls Tryz.prog 154 #[.string s] w fun e w' => e = .returned (.tuple #[.agg (rz), .int .i64 2]) ∧ _
      clear q ho hcons
      go_enter Tryz.func154, Tryz.ntmps154
      go_wp2_with (first
        | (show wpList _ _ _ (⟨_, Op.store 69 _ _, _, _, _, _⟩ :: _) _ _; have y0 := hR; refine store_row_g rfl 69 _ _ rfl w.heap.size (rz) rfl rfl 69 rz hR infoR9 rfl (by simp [Value.oneCell']) ?_; intro w3 h3 g3)
        | (go_at_call 189; refine (q' _).mono ?_; rintro e w1 ⟨rfl, b1⟩; have hR : w1.heap[w.heap.size]? = some (.cells rz 69 (0, 0)) := (b1.block w.heap.size (by simp)).trans (heap_alloc_new w _)))
      refine bodyPost_ret (results_rec Tryz.results154 _ _ rfl h3) rfl ?_
      have f0 : Below w.heap.size w (w.alloc (.cells rz 69)) := (Below.refl _ w).alloc (Nat.le_refl _) _
      exact ⟨rfl, low_set (bmm f0 f0.size b1) (Nat.le_refl _) g3⟩
    | some r =>
      have q' : ∀ w, Calls Tryz.prog 189 #[.string (s.extract 1 s.size)] w fun e w' => e = .returned (.tuple #[.agg (rcV r), .int .i64 0]) ∧ Below w.heap.size w w' := fun w => by
        have := q w
        rw [ho] at this
        exact this
      show Calls Tryz.prog 154 #[.string s] w fun e w' => e = .returned (.tuple #[.agg (rcV r), .int .i64 0]) ∧ _
      clear q ho hcons
      go_enter Tryz.func154, Tryz.ntmps154
      go_wp2_with (first
        | (show wpList _ _ _ (⟨_, Op.store 69 _ _, _, _, _, _⟩ :: _) _ _; have y0 := hR; refine store_row_g rfl 69 _ _ rfl w.heap.size (rcV r) rfl rfl 69 rz hR infoR9 rfl (by simp [Value.oneCell']) ?_; intro w3 h3 g3)
        | (go_at_call 189; refine (q' _).mono ?_; rintro e w1 ⟨rfl, b1⟩; have hR : w1.heap[w.heap.size]? = some (.cells rz 69 (0, 0)) := (b1.block w.heap.size (by simp)).trans (heap_alloc_new w _)))
      refine bodyPost_ret (results_rec Tryz.results154 _ _ rfl h3) rfl ?_
      have f0 : Below w.heap.size w (w.alloc (.cells rz 69)) := (Below.refl _ w).alloc (Nat.le_refl _) _
      exact ⟨rfl, low_set (bmm f0 f0.size b1) (Nat.le_refl _) g3⟩
  by_cases h2 : d = 2
  · have ec : c = 2 := UInt8.toNat_inj.mp (hdc.trans h2)
    have q := fun w => decodeA_any (s.extract 1 s.size) w (by rw [Lib.size_eq, tail_one, List.length_drop, ← Lib.size_eq]; omega)
    rw [tail_one, ← ec, ← hcons] at q
    subst h2
    clear ec hdc hc h0 hne
    cases ho : decR s.data.toList with
    | none =>
      have q' : ∀ w, Calls Tryz.prog 190 #[.string (s.extract 1 s.size)] w fun e w' => e = .returned (.tuple #[.agg (rz), .int .i64 2]) ∧ Below w.heap.size w w' := fun w => by
        have := q w
        rw [ho] at this
        exact this
      show Calls Tryz.prog 154 #[.string s] w fun e w' => e = .returned (.tuple #[.agg (rz), .int .i64 2]) ∧ _
      clear q ho hcons
      go_enter Tryz.func154, Tryz.ntmps154
      go_wp2_with (first
        | (show wpList _ _ _ (⟨_, Op.store 69 _ _, _, _, _, _⟩ :: _) _ _; have y0 := hR; refine store_row_g rfl 69 _ _ rfl w.heap.size (rz) rfl rfl 69 rz hR infoR9 rfl (by simp [Value.oneCell']) ?_; intro w3 h3 g3)
        | (go_at_call 190; refine (q' _).mono ?_; rintro e w1 ⟨rfl, b1⟩; have hR : w1.heap[w.heap.size]? = some (.cells rz 69 (0, 0)) := (b1.block w.heap.size (by simp)).trans (heap_alloc_new w _)))
      refine bodyPost_ret (results_rec Tryz.results154 _ _ rfl h3) rfl ?_
      have f0 : Below w.heap.size w (w.alloc (.cells rz 69)) := (Below.refl _ w).alloc (Nat.le_refl _) _
      exact ⟨rfl, low_set (bmm f0 f0.size b1) (Nat.le_refl _) g3⟩
    | some r =>
      have q' : ∀ w, Calls Tryz.prog 190 #[.string (s.extract 1 s.size)] w fun e w' => e = .returned (.tuple #[.agg (rcV r), .int .i64 0]) ∧ Below w.heap.size w w' := fun w => by
        have := q w
        rw [ho] at this
        exact this
      show Calls Tryz.prog 154 #[.string s] w fun e w' => e = .returned (.tuple #[.agg (rcV r), .int .i64 0]) ∧ _
      clear q ho hcons
      go_enter Tryz.func154, Tryz.ntmps154
      go_wp2_with (first
        | (show wpList _ _ _ (⟨_, Op.store 69 _ _, _, _, _, _⟩ :: _) _ _; have y0 := hR; refine store_row_g rfl 69 _ _ rfl w.heap.size (rcV r) rfl rfl 69 rz hR infoR9 rfl (by simp [Value.oneCell']) ?_; intro w3 h3 g3)
        | (go_at_call 190; refine (q' _).mono ?_; rintro e w1 ⟨rfl, b1⟩; have hR : w1.heap[w.heap.size]? = some (.cells rz 69 (0, 0)) := (b1.block w.heap.size (by simp)).trans (heap_alloc_new w _)))
      refine bodyPost_ret (results_rec Tryz.results154 _ _ rfl h3) rfl ?_
      have f0 : Below w.heap.size w (w.alloc (.cells rz 69)) := (Below.refl _ w).alloc (Nat.le_refl _) _
      exact ⟨rfl, low_set (bmm f0 f0.size b1) (Nat.le_refl _) g3⟩
  have n1 : c ≠ 1 := fun e => h1 (by rw [← hdc, e]; rfl)
  have n2 : c ≠ 2 := fun e => h2 (by rw [← hdc, e]; rfl)
  rw [hcons, decR_other n1 n2]
  show Calls Tryz.prog 154 #[.string s] w fun e w' => e = .returned (.tuple #[.agg rz, .int .i64 2]) ∧ _
  clear hcons hdc hc n1 n2 h0 hne
  have k1 : ((d : Int) == 1) = false := by simpa using (by omega : ¬ (d : Int) = 1)
  have k2 : ((d : Int) == 2) = false := by simpa using (by omega : ¬ (d : Int) = 2)
  go_enter Tryz.func154, Tryz.ntmps154
  go_wp2
  refine bodyPost_ret (results_rec Tryz.results154 _ _ rfl (heap_alloc_new w _)) rfl ?_
  exact ⟨rfl, (Below.refl _ w).alloc (Nat.le_refl _) _⟩
end Go.Proofs.YtodnnhidljfilaaGreatDoor
/-
  The records of a text, from its front on (package wal). The conditions: the text has at most 2^40 bytes, and package frame's table lies in memory.
-/
namespace Go.Proofs.YtodnnhidljfilaaGreatDoor
open Go.RowKit

theorem infoRc : (Tryz.prog.info? 69).map (fun i => (i.zero, i.size, i.bytes)) = some (some (.agg rz), 9, 80) := by kernel_rfl
theorem rcC_one : ∀ x : Rc, ∀ u ∈ rcC x, u.oneCell' = true := by
  intro x u hu
  unfold rcC at hu
  simp only [List.mem_cons, List.mem_nil_iff, or_false] at hu
  rcases hu with rfl | rfl | rfl | rfl | rfl | rfl | rfl | rfl | rfl <;> rfl
/-- What was read of a text: the records and how many bytes they have. -/
def RdPost (w w' : World) (s : ByteArray) (v : Value) (acc : List Rc) (at0 : Nat) : Prop :=
  recs s.data.toList = (acc, at0) ∧ w'.ownsRow w.heap.size 69 9 v acc.length (rowL rcC acc) ∧ Below w.heap.size w w'
theorem jump_ret {l : Nat} {J : Act → World → Prop} {Q : Exit → Act → World → Prop} {a : Act} {w : World} : Exit.jump l J Q .ret a w = Q .ret a w := rfl
theorem tail_at (s : ByteArray) (k : Nat) : (s.extract k s.size).data.toList = s.data.toList.drop k := by
  have hl := Lib.size_eq s
  rw [Lib.extract_data, List.take_of_length_le (by rw [List.length_drop]; omega)]
theorem firstT_at (s : ByteArray) (k : Nat) : firstT (s.extract k s.size) = ((⟨(firstOf (s.data.toList.drop k)).1.toArray⟩ : ByteArray), (firstOf (s.data.toList.drop k)).2.1, (firstOf (s.data.toList.drop k)).2.2) := by
  unfold firstT
  rw [tail_at]
set_option maxHeartbeats 6400000 in
set_option maxRecDepth 100000 in
theorem wread_any (s : ByteArray) (hs : s.size ≤ 1099511627776) (w : World) (hT : Tab w) :
    Calls Tryz.prog 107 #[.string s] w fun e w' => ∃ v, e = .returned (.tuple #[v, .int .i64 ((recs s.data.toList).2 : Int)]) ∧ w'.ownsRow w.heap.size 69 9 v (recs s.data.toList).1.length (rowL rcC (recs s.data.toList).1) ∧ Below w.heap.size w w' := by
  obtain ⟨i0, hi, hz0, hz1, hz2⟩ := info_parts infoRc
  have hls := Lib.size_eq s
  have HL : Hid (s.size = s.data.toList.length) := hls
  clear hls
  go_enter Tryz.func107, Tryz.ntmps107
  go_wp2
  refine wp_scope_jumps 0 (fun a' w' => ∃ (v : Value) (at0 : Nat) (acc : List Rc) (u6 u7 u8 u9 u10 u11 u12 u13 u14 u15 u16 u17 u18 u19 u20 u21 u22 u23 u24 u25 u26 u27 u28 u29 u30 u31 u32 u33 : Value), a' = { tmps := #[.string s, undef, .slice none 0 0, .int .i64 0, v, .int .i64 (at0 : Int), u6, u7, u8, u9, u10, u11, u12, u13, u14, u15, u16, u17, u18, u19, u20, u21, u22, u23, u24, u25, u26, u27, u28, u29, u30, u31, u32, u33, undef, undef], defers := [] } ∧ RdPost w w' s v acc at0) (fun _ _ => 0) rfl ?_ ?_
  · go_wp2
    go_loopw [4, 5] (fun v t wr => ∃ (acc : List Rc) (k : Nat), k ≤ s.size ∧ acc.length ≤ k ∧ t = .int .i64 (k : Int) ∧ Hid (recs s.data.toList = (acc ++ (recs (s.data.toList.drop k)).1, k + (recs (s.data.toList.drop k)).2)) ∧ Hid (wr.ownsRow w.heap.size 69 9 v acc.length (rowL rcC acc)) ∧ Below w.heap.size w wr) (fun _ t _ => s.size - (intOf t).toNat)
    case atStart => exact ⟨[], 0, Nat.zero_le _, Nat.le_refl _, rfl, by show recs s.data.toList = ([] ++ (recs s.data.toList).1, 0 + (recs s.data.toList).2); simp, World.ownsRow_nil _ _ _ _, Below.refl _ _⟩
    case round =>
      obtain ⟨acc, k, hk, hak, rfl, HR, HO, hb⟩ := hrel
      obtain ⟨pv, nv, cv, rfl⟩ := own_form HO.out
      have qf := first_any (s.extract k s.size) (by rw [Lib.size_eq, tail_at, List.length_drop, ← HL.out]; omega) wr (hT.below hb)
      rw [firstT_at] at qf
      have kk : (k : Int) ≤ (s.size : Int) := by omega
      have hok := fun h => @firstOf_ok (s.data.toList.drop k) h
      have hno := @recs_no (s.data.toList.drop k)
      have hnone := @recs_none (s.data.toList.drop k)
      have hmore := fun r => @recs_more (s.data.toList.drop k) r
      have hdl : (s.data.toList.drop k).length = s.size - k := by rw [List.length_drop, ← HL.out]
      obtain ⟨X, hx⟩ : ∃ x, x = firstOf (s.data.toList.drop k) := ⟨_, rfl⟩
      rw [← hx] at qf hok hno hnone
      simp only [← hx] at hmore
      obtain ⟨t, n, z⟩ := X
      simp only at qf hok hno hnone hmore
      obtain ⟨tB, htB⟩ : ∃ tB : ByteArray, tB = ⟨t.toArray⟩ := ⟨_, rfl⟩
      have htl : tB.data.toList = t := by rw [htB]
      rw [← htB] at qf
      clear hx htB
      by_cases hz : z = 0
      · subst hz
        obtain ⟨o1, o2, o3⟩ := hok rfl
        have zt : tB.size ≤ 9223372036854775807 := by rw [Lib.size_eq, htl]; omega
        have qd := fun w => wdecR_any tB w zt
        rw [htl] at qd
        cases hd : decR t with
        | none =>
          rw [hd] at qd
          have qd' : ∀ w, Calls Tryz.prog 154 #[.string tB] w fun e w' => e = .returned (.tuple #[.agg rz, .int .i64 2]) ∧ Below w.heap.size w w' := qd
          have HE : Hid (recs s.data.toList = (acc, k)) := by
            show _ = _
            rw [HR.out, hnone hd, List.append_nil, Nat.add_zero]
          clear hok hno hnone hmore hdl qd hd htl HR o1 o2 o3 zt
          go_wp2_with (first
            | (go_at_call 154; refine (qd' _).mono ?_; rintro e w3 ⟨rfl, b3⟩; have f3 := bmm f2 f2.size b3; have HO3 : Hid (w3.ownsRow w.heap.size 69 9 (.slice pv nv cv) acc.length (rowL rcC acc)) := own_keep HO2.out (fun g e => b3.block g (HO2.out.lt g e).2))
            | (go_at_call 147; refine qf.mono ?_; rintro e w2 ⟨rfl, b2⟩; have f2 := bmm hb hb.size b2; have HO2 : Hid (w2.ownsRow w.heap.size 69 9 (.slice pv nv cv) acc.length (rowL rcC acc)) := own_keep HO.out (fun g e => b2.block g (HO.out.lt g e).2)))
          go_step3
          exact ⟨rfl, _, k, acc, _, _, _, _, _, _, _, _, _, _, _, _, _, _, _, _, _, _, _, _, _, _, _, _, _, _, _, _, rfl, HE.out, HO3.out.alloc _, f3.alloc f3.size _⟩
        | some r =>
          rw [hd] at qd
          have qd' : ∀ w, Calls Tryz.prog 154 #[.string tB] w fun e w' => e = .returned (.tuple #[.agg (rcV r), .int .i64 0]) ∧ Below w.heap.size w w' := qd
          have HE : Hid (recs s.data.toList = ((acc ++ [r]) ++ (recs (s.data.toList.drop (k + n))).1, (k + n) + (recs (s.data.toList.drop (k + n))).2)) := by
            show _ = _
            have := hmore r rfl hd
            rw [List.drop_drop] at this
            rw [HR.out, this]
            simp [Nat.add_assoc]
          have kn : k + n ≤ s.size := by omega
          have kk2 : (k : Int) + (n : Int) ≤ 9223372036854775807 := by omega
          clear hok hno hnone hmore hdl qd hd htl HR zt
          go_wp2_with (first
            | (at_builtin; refine wpList_app_row (k := 9) (enc := rcC) (l := [r]) rfl (.tmp 27) (.tmp 29) 25 69 rfl i0 _ 80 Tryz.underlying25 hi hz0 hz1 hz2 rfl (by decide) rcC_len rcC_one rfl rfl ((HO3.out.alloc _).alloc _) (RowAt.built (two_new w3 (.cells (rcV r) 69) (.cells (rcV r) 69)).2 rfl 1 rfl rfl) (by have := f3.size; simp; omega) (by simp; omega) (by simp; omega) ?_; intro u4 w4 h4 a4; have f4 : Below w.heap.size w w4 := ((f3.alloc f3.size _).alloc (by have := f3.size; simp; omega) _).trans a4.below; obtain ⟨p4, n4, q4, rfl⟩ := own_form h4)
            | (go_at_call 154; refine (qd' _).mono ?_; rintro e w3 ⟨rfl, b3⟩; have f3 := bmm f2 f2.size b3; have HO3 : Hid (w3.ownsRow w.heap.size 69 9 (.slice pv nv cv) acc.length (rowL rcC acc)) := own_keep HO2.out (fun g e => b3.block g (HO2.out.lt g e).2))
            | (go_at_call 147; refine qf.mono ?_; rintro e w2 ⟨rfl, b2⟩; have f2 := bmm hb hb.size b2; have HO2 : Hid (w2.ownsRow w.heap.size 69 9 (.slice pv nv cv) acc.length (rowL rcC acc)) := own_keep HO.out (fun g e => b2.block g (HO.out.lt g e).2)))
          go_roundw
          case rel => exact ⟨acc ++ [r], k + n, kn, by simp; omega, by go_num, HE.out, by rw [List.length_append, rowL_append]; exact h4, f4⟩
          case measure => simp [intOf]; omega
      · have hz' : ((z : Int) != 0) = true := by simpa using (by omega : ¬ (z : Int) = 0)
        have HE : Hid (recs s.data.toList = (acc, k)) := by
          show _ = _
          rw [HR.out, hno hz, List.append_nil, Nat.add_zero]
        clear hok hno hnone hmore hdl htl HR
        go_wp2_with (go_at_call 147; refine qf.mono ?_; rintro e w2 ⟨rfl, b2⟩; have f2 := bmm hb hb.size b2; have HO2 : Hid (w2.ownsRow w.heap.size 69 9 (.slice pv nv cv) acc.length (rowL rcC acc)) := own_keep HO.out (fun g e => b2.block g (HO.out.lt g e).2))
        go_step3
        exact ⟨rfl, _, k, acc, _, _, _, _, _, _, _, _, _, _, _, _, _, _, _, _, _, _, _, _, _, _, _, _, _, _, _, _, rfl, HE.out, HO2.out, f2⟩
  · rintro a' w' ⟨v, at0, acc, u6, u7, u8, u9, u10, u11, u12, u13, u14, u15, u16, u17, u18, u19, u20, u21, u22, u23, u24, u25, u26, u27, u28, u29, u30, u31, u32, u33, rfl, HP⟩
    have HQ : Hid (RdPost w w' s v acc at0) := HP
    obtain ⟨pv, nv, cv, rfl⟩ := own_form HP.2.1
    clear HP
    go_wp2
    rw [jump_ret]
    go_ret2
    obtain ⟨h1, h2, h3⟩ := HQ.out
    rw [h1]
    exact ⟨_, rfl, h2, h3⟩
end Go.Proofs.YtodnnhidljfilaaGreatDoor
