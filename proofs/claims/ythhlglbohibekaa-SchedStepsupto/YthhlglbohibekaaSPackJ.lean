/-
  Parts of the proof, laid together: SoAsk, SoRuns, SoWake, SoFree, SoEnd. The conditions stand at each part.
-/
import Derived.Test.YthhlglbohibekaaSPackB
import Derived.Test.YthhlglbohibekaaSPackI
namespace Go.Proofs.Ythhlglbohibekaa
open Go.RowKit

section
variable {w : World} {base D : Nat} {S : Nat → Prop} {ob : Ob}
theorem wpList_ask {ops : Array Oper} {rest : List Oper} {o : Oper} {a : Act} {Q : Exit → Act → World → Prop} (hgd : o.guard = none) (r x1 x2 : Operand) (ts : Array TypeId) (ho : o.op = .call { callee := .invoke r "latchkey/sched.ask", args := #[x1, x2], argTypes := ts }) (hr : a.eval r = objV (ob.k, D)) (t : Int) (x : Opx) (h1 : a.eval x1 = .int .i64 t) (h2 : a.eval x2 = .agg #[.int .i64 x.1, .int .i64 x.2.1, .int .i64 x.2.2]) (h : ObP w base D S ob) (ht : okI t) (hx : okI x.2.2) (hl : ob.l.length + ob.q.length < 65536) (hg : ob.k = 2 → 0 ≤ ob.h ∧ ob.h ≤ 1073741824)
    (hK : ∀ w' S', ObP w' base D S' (askA ob t x).2.2 → Kept w w' S S' → wpList Try.prog ops Q rest (a.put o.dst (.tuple #[.int .i64 (askA ob t x).1, .int .i64 (askA ob t x).2.1])) w') : wpList Try.prog ops Q (o :: rest) a w :=
  wpList_plain hgd fun _ hKK => inv_ask r x1 x2 ts ho hr t x h1 h2 h ht hx hl hg fun w' S' h3 h4 => hKK _ _ (hK w' S' h3 h4)
theorem wpList_free {ops : Array Oper} {rest : List Oper} {o : Oper} {a : Act} {Q : Exit → Act → World → Prop} (hgd : o.guard = none) (r x1 x2 : Operand) (ts : Array TypeId) (ho : o.op = .call { callee := .invoke r "latchkey/sched.free", args := #[x1, x2], argTypes := ts }) (hr : a.eval r = objV (ob.k, D)) (t : Int) (x : Opx) (h1 : a.eval x1 = .int .i64 t) (h2 : a.eval x2 = .agg #[.int .i64 x.1, .int .i64 x.2.1, .int .i64 x.2.2]) (h : ObP w base D S ob) (ht : okI t) (hx : okI x.2.2) (hl : ob.l.length + ob.q.length < 65536) (hg : ob.k = 2 → 0 ≤ ob.h ∧ ob.h ≤ 1073741824)
    (hK : ∀ u w' S', RowAt intC w' u (freeA ob t x).1 → OutOf S w.heap.size u → ObP w' base D S' (freeA ob t x).2.2 → Kept w w' S S' → wpList Try.prog ops Q rest (a.put o.dst (.tuple #[u, .int .i64 (freeA ob t x).2.1])) w') : wpList Try.prog ops Q (o :: rest) a w :=
  wpList_plain hgd fun _ hKK => inv_free r x1 x2 ts ho hr t x h1 h2 h ht hx hl hg fun u w' S' h3 h4 h5 h6 => hKK _ _ (hK u w' S' h3 h4 h5 h6)
end
section
variable {w w' w1 : World} {base : Nat} {ro ro' : Nat → Option Who} {y : Lay} {tv : List Tv} {od : List Nat} {P : List Pk} {fR fB : Nat → Bool} {L : List (Int × Ob)}
theorem pk_object (h : PkAt w base ro y tv od P fR fB L) (x : Opx) (hx : okI x.2.1) (k : Int) (hk : nmK x = k + 1) (hk0 : 0 ≤ k ∧ k ≤ 3) : Calls Try.prog 60 #[.pointer (some ⟨y.D, 0, none⟩), .agg #[.int .i64 x.1, .int .i64 x.2.1, .int .i64 x.2.2]] w fun e w' => ∃ ro' od' d, e = .returned (objV (k, d)) ∧ od'[obFind L k x.2.1]? = some d ∧ PkAt w' base ro' y tv od' P fR fB (obAdd L k x.2.1) ∧ Kept w w' (fun b => ro b ≠ none) (fun b => ro' b ≠ none) := by
  by_cases hf : obFind L k x.2.1 < L.length
  · have hd : od[obFind L k x.2.1]? = some (od[obFind L k x.2.1]'(by rw [h.ol]; exact hf)) := List.getElem?_eq_getElem _
    refine (pk_obj_old h x hx k hk hk0 _ hf hd).mono ?_
    rintro e w2 ⟨rfl, b2⟩
    have e1 : obAdd L k x.2.1 = L := by unfold obAdd; rw [if_pos hf]
    rw [e1]
    exact ⟨ro, od, _, rfl, hd, h.fresh b2, Kept.of b2⟩
  · refine (pk_obj_new h x hx k hk hk0 hf).mono ?_
    rintro e w2 ⟨ro2, d, rfl, h2, k2⟩
    have e1 : obAdd L k x.2.1 = L ++ [(x.2.1, obNew k)] := by unfold obAdd; rw [if_neg hf]
    have e2 : obFind L k x.2.1 = L.length := by
      have : obFind L k x.2.1 ≤ L.length := List.findIdx_le_length
      omega
    rw [e1]
    exact ⟨ro2, od ++ [d], d, rfl, by rw [e2, ← h.ol, List.getElem?_append_right (Nat.le_refl _), Nat.sub_self]; rfl, h2, k2⟩
theorem PkAt.obj {k num : Int} {d : Nat} (h : PkAt w base ro y tv od P fR fB (obAdd L k num)) (hd : od[obFind L k num]? = some d) : ObP w base d (fun b => ro b = some (3, obFind L k num)) (obG L k num) := by
  obtain ⟨h1, hd⟩ := List.getElem?_eq_some_iff.1 hd
  obtain ⟨h2, hx⟩ := List.getElem?_eq_some_iff.1 (obG_at L k num).1
  have := h.ob _ h1 h2
  rw [hd, hx] at this
  exact this
theorem PkAt.did {k num : Int} {d : Nat} (h : PkAt w base ro y tv od P fR fB (obAdd L k num)) (hd : od[obFind L k num]? = some d) {S' : Nat → Prop} {o : Ob} (hk : o.k = k) (ho : ObP w' base d S' o) (hK : Kept w w' (fun b => ro b = some (3, obFind L k num)) S') :
    ∃ ro', PkAt w' base ro' y tv od P fR fB (obPut L k num o) ∧ Kept w w' (fun b => ro b ≠ none) (fun b => ro' b ≠ none) ∧ ∀ u, OutOf (fun b => ro b = some (3, obFind L k num)) w.heap.size u → ∀ bk off n cap, 0 < n → u = .slice (some ⟨bk, off, none⟩) n cap → ∀ κ, ro' bk = some κ → κ = (3, obFind L k num) := by
  obtain ⟨h1, hd⟩ := List.getElem?_eq_some_iff.1 hd
  obtain ⟨h2, hx⟩ := List.getElem?_eq_some_iff.1 (obG_at L k num).1
  rw [← hd] at ho
  obtain ⟨hs, hk2⟩ := h.turnOb _ h2 h1 (by rw [hx, (obG_at L k num).2]; exact hk) ho hK
  rw [hx] at hs
  refine ⟨_, hs, hk2, fun u hu bk off n cap h0 e κ hκ => ?_⟩
  apply Classical.byContradiction
  intro hne
  have h3 := roT_bk hκ hne
  rcases hu bk off n cap h0 e with h4 | h4
  · exact hne (by rw [h3] at h4; exact Option.some.inj h4)
  · have := h.lt bk (by rw [h3]; simp)
    omega
structure AskOk (L : List (Int × Ob)) (k num : Int) : Prop where
  ln : (obG L k num).l.length + (obG L k num).q.length < 65536
  gh : (obG L k num).k = 2 → 0 ≤ (obG L k num).h ∧ (obG L k num).h ≤ 1073741824
set_option maxHeartbeats 6400000 in
set_option maxRecDepth 100000 in
theorem pk_ask_wait (h : PkAt w base ro y tv od P fR fB L) (i : Nat) (hi : i < P.length) (x : Opx) (hx1 : okI x.2.1) (hx2 : okI x.2.2) (k : Int) (hk : nmK x = k + 1) (hk0 : 0 ≤ k ∧ k ≤ 3) (hok : AskOk L k x.2.1) (ha : (askA (obG L k x.2.1) (i : Int) x).1 = 3) (hb : fB i = false) : Calls Try.prog 47 #[.pointer (some ⟨y.D, 0, none⟩), .int .i64 (i : Int), .agg #[.int .i64 x.1, .int .i64 x.2.1, .int .i64 x.2.2]] w fun e w' => e = .returned (.int .i64 (askA (obG L k x.2.1) (i : Int) x).2.1) ∧ ∃ ro' tv' od', PkAt w' base ro' y tv' od' P fR (setF fB i true) (obPut L k x.2.1 (askA (obG L k x.2.1) (i : Int) x).2.2) ∧ Kept w w' (fun b => ro b ≠ none) (fun b => ro' b ≠ none) := by
  obtain ⟨c0, c1, c2, c3, hD⟩ := h.cells
  have hn : P.length ≤ 65536 := Nat.le_trans h.zR.1 h.zR.2
  have B1 : Hid _ := (Below.refl _ w).alloc (Nat.le_refl _) (.cells #[.int .i64 x.1, .int .i64 x.2.1, .int .i64 x.2.2] 45)
  have hob := pk_object (h.fresh B1.out) x hx1 k hk hk0
  unfold objV at hob
  simp only at hob
  have HOK : Hid _ := hok
  have HIK : Hid (okI (i : Int)) := ⟨by omega, by omega⟩
  have HX2 : Hid (okI x.2.2) := hx2
  have hbw : ∀ w2, Kept (w.alloc (.cells #[.int .i64 x.1, .int .i64 x.2.1, .int .i64 x.2.2] 45)) w2 (fun b => ro b ≠ none) (fun b => ro b ≠ none) → True := fun _ _ => trivial
  clear hbw
  have HBX : Hid (∀ (w2 : World) (S' : Nat → Prop), Kept (w.alloc (.cells #[.int .i64 x.1, .int .i64 x.2.1, .int .i64 x.2.2] 45)) w2 (fun b => ro b ≠ none) S' → w2.cell? ⟨w.heap.size, 0, none⟩ = some (.int .i64 x.1) ∧ w2.cell? ⟨w.heap.size, 1, none⟩ = some (.int .i64 x.2.1) ∧ w2.cell? ⟨w.heap.size, 2, none⟩ = some (.int .i64 x.2.2)) := fun w2 S' k2 => by
    have h0 := heap_alloc_new w (.cells #[.int .i64 x.1, .int .i64 x.2.1, .int .i64 x.2.2] 45)
    have h1 : w2.heap[w.heap.size]? = _ := (k2.kept w.heap.size (by simp) (fun e => by have := h.lt _ e; omega)).trans h0
    exact ⟨by rw [cell_of_row _ _ _ _ _ _ h1]; rfl, by rw [cell_of_row _ _ _ _ _ _ h1]; rfl, by rw [cell_of_row _ _ _ _ _ _ h1]; rfl⟩
  have HIN : Hid (i < P.length) := hi
  have HA : Hid _ := ha
  have HOD : Hid ((obG L k x.2.1).k = k) := (obG_at L k x.2.1).2
  obtain ⟨x1, num, x3⟩ := x
  have HBF : Hid (fB i = false) := hb
  have HLB : Hid (∀ z, setF fB i true z = true → z < P.length) := fun z hz => by
    unfold setF at hz
    split at hz
    · rename_i e
      rw [e]
      exact hi
    · exact h.lB z hz
  have HJN : Hid (∀ w3 ro4 tv4 od4 L4, PkAt w3 base ro4 y tv4 od4 P fR fB L4 → Calls Try.prog 44 #[.agg #[.slice (some ⟨y.bB, 0, none⟩) (2 * 2 ^ y.dB) (2 * 2 ^ y.dB)], .int .i64 (i : Int)] w3 fun e w' => e = .returned (.tuple #[]) ∧ PkAt w' base ro4 y tv4 od4 P fR (setF fB i true) L4 ∧ Kept w3 w' (fun b => ro4 b ≠ none) (fun b => ro4 b ≠ none)) := fun w3 ro4 tv4 od4 L4 h9 => by
    refine (cr_join h9.cb h9.zB.2 i (Nat.lt_of_lt_of_le HIN.out h9.zB.1) HBF.out).mono ?_
    rintro e w5 ⟨rfl, h5, k5⟩
    obtain ⟨h6, k6⟩ := h9.setB h5 k5 HLB.out
    exact ⟨rfl, h6, k6⟩
  clear hb ha h hk hk0 hx1 hx2 hok
  go_enter Try.func47, Try.ntmps47
  go_wp2_with (first
    | (go_at_call 44; refine (HJN.out w3 ro4 _ _ _ h4.out).mono ?_; rintro e w5 ⟨rfl, h5', k5'⟩; have h5 : Hid _ := h5'; have k5 : Hid _ := k5'; clear h5' k5')
    | (show wpList _ _ _ ({ dst := _, op := Op.call { callee := Callee.invoke _ _, args := _, argTypes := _ }, type := _, pos := _, after := _, guard := _ } :: _) _ _; refine wpList_ask (D := d) rfl _ _ _ _ rfl (by rw [HOD.out]; rfl) (i : Int) (x1, num, x3) rfl rfl (h2.out.obj hd.out) HIK.out HX2.out HOK.out.ln HOK.out.gh ?_; intro w3 S3 h3' k3'; have h3 : Hid _ := h3'; have k3 : Hid _ := k3'; clear h3' k3'; obtain ⟨ro4, h4', k4', _⟩ := h2.out.did hd.out (by rw [askA_k]; exact (obG_at L k num).2) h3.out k3.out; have h4 : Hid _ := h4'; have k4 : Hid _ := k4'; clear h4' k4'; have ea : (askA (obG L k num) (i : Int) (x1, num, x3)).1 = 3 := HA.out; rw [ea]; obtain ⟨_, r1, r2, _, _⟩ := h4.out.cells; obtain ⟨g0, g1, g2⟩ := HBX.out w3 _ (k2.out.trans k4.out))
    | (go_at_call 60; refine hob.mono ?_; rintro e w2 ⟨ro2, od2, d, rfl, hd', h2', k2'⟩; have hd : Hid _ := hd'; have h2 : Hid _ := h2'; have k2 : Hid _ := k2'; clear hd' h2' k2'; obtain ⟨p0, p1, p2⟩ := HBX.out w2 _ k2.out))
  go_ret
  exact ⟨rfl, ro4, tv, od2, h5.out, (Kept.of B1.out).trans (k2.out.trans (k4.out.trans k5.out))⟩
set_option maxHeartbeats 6400000 in
set_option maxRecDepth 100000 in
theorem pk_ask_go (h : PkAt w base ro y tv od P fR fB L) (i : Nat) (hi : i < P.length) (x : Opx) (hx1 : okI x.2.1) (hx2 : okI x.2.2) (k : Int) (hk : nmK x = k + 1) (hk0 : 0 ≤ k ∧ k ≤ 3) (hok : AskOk L k x.2.1) (ha : (askA (obG L k x.2.1) (i : Int) x).1 ≠ 3 ∧ (askA (obG L k x.2.1) (i : Int) x).1 ≠ 4 ∧ (askA (obG L k x.2.1) (i : Int) x).1 ≠ 2) (hr : fR i = false) (hp : P[i].pos ≤ 65536) : Calls Try.prog 47 #[.pointer (some ⟨y.D, 0, none⟩), .int .i64 (i : Int), .agg #[.int .i64 x.1, .int .i64 x.2.1, .int .i64 x.2.2]] w fun e w' => e = .returned (.int .i64 (askA (obG L k x.2.1) (i : Int) x).2.1) ∧ ∃ ro' tv' od', PkAt w' base ro' y tv' od' (P.set i { P[i] with pos := P[i].pos + 1 }) (goF P[i].ops.length fR i (P[i].pos + 1)) fB (obPut L k x.2.1 (askA (obG L k x.2.1) (i : Int) x).2.2) ∧ Kept w w' (fun b => ro b ≠ none) (fun b => ro' b ≠ none) := by
  obtain ⟨c0, c1, c2, c3, hD⟩ := h.cells
  have hn : P.length ≤ 65536 := Nat.le_trans h.zR.1 h.zR.2
  have B1 : Hid _ := (Below.refl _ w).alloc (Nat.le_refl _) (.cells #[.int .i64 x.1, .int .i64 x.2.1, .int .i64 x.2.2] 45)
  have hob := pk_object (h.fresh B1.out) x hx1 k hk hk0
  unfold objV at hob
  simp only at hob
  have HOK : Hid _ := hok
  have HIK : Hid (okI (i : Int)) := ⟨by omega, by omega⟩
  have HX2 : Hid (okI x.2.2) := hx2
  have hbw : ∀ w2, Kept (w.alloc (.cells #[.int .i64 x.1, .int .i64 x.2.1, .int .i64 x.2.2] 45)) w2 (fun b => ro b ≠ none) (fun b => ro b ≠ none) → True := fun _ _ => trivial
  clear hbw
  have HBX : Hid (∀ (w2 : World) (S' : Nat → Prop), Kept (w.alloc (.cells #[.int .i64 x.1, .int .i64 x.2.1, .int .i64 x.2.2] 45)) w2 (fun b => ro b ≠ none) S' → w2.cell? ⟨w.heap.size, 0, none⟩ = some (.int .i64 x.1) ∧ w2.cell? ⟨w.heap.size, 1, none⟩ = some (.int .i64 x.2.1) ∧ w2.cell? ⟨w.heap.size, 2, none⟩ = some (.int .i64 x.2.2)) := fun w2 S' k2 => by
    have h0 := heap_alloc_new w (.cells #[.int .i64 x.1, .int .i64 x.2.1, .int .i64 x.2.2] 45)
    have h1 : w2.heap[w.heap.size]? = _ := (k2.kept w.heap.size (by simp) (fun e => by have := h.lt _ e; omega)).trans h0
    exact ⟨by rw [cell_of_row _ _ _ _ _ _ h1]; rfl, by rw [cell_of_row _ _ _ _ _ _ h1]; rfl, by rw [cell_of_row _ _ _ _ _ _ h1]; rfl⟩
  have HIN : Hid (i < P.length) := hi
  have HA : Hid _ := ha
  have HOD : Hid ((obG L k x.2.1).k = k) := (obG_at L k x.2.1).2
  obtain ⟨x1, num, x3⟩ := x
  have HGO : Hid (∀ w3 ro4 tv4 od4 P4 fB4 L4 (a : Nat), PkAt w3 base ro4 y tv4 od4 P4 fR fB4 L4 → ∀ hi4 : i < P4.length, Calls Try.prog 29 #[.pointer (some ⟨y.D, 0, none⟩), .int .i64 (i : Int), .int .i64 (a : Int)] w3 fun e w' => e = .returned (.tuple #[]) ∧ PkAt w' base ro4 y tv4 od4 (P4.set i { P4[i] with pos := a }) (goF P4[i].ops.length fR i a) fB4 L4 ∧ Kept w3 w' (fun b => ro4 b ≠ none) (fun b => ro4 b ≠ none)) := fun w3 ro4 tv4 od4 P4 fB4 L4 a h9 hi4 => pk_goTo h9 i hi4 a hr
  have qa3 : ((askA (obG L k num) (i : Int) (x1, num, x3)).1 == 3) = false := beq_eq_false_iff_ne.2 ha.1
  have qa4 : ((askA (obG L k num) (i : Int) (x1, num, x3)).1 == 4) = false := beq_eq_false_iff_ne.2 ha.2.1
  have qa2 : ((askA (obG L k num) (i : Int) (x1, num, x3)).1 == 2) = false := beq_eq_false_iff_ne.2 ha.2.2
  clear ha h hk hk0 hx1 hx2 hok hr
  go_enter Try.func47, Try.ntmps47
  go_wp2_with (first
    | (go_at_call 29; refine (HGO.out w3 ro4 _ _ _ _ _ (P[i].pos + 1) h4.out HIN.out).mono ?_; rintro e w5 ⟨rfl, h5', k5'⟩; have h5 : Hid _ := h5'; have k5 : Hid _ := k5'; clear h5' k5')
    | (show wpList _ _ _ ({ dst := _, op := Op.call { callee := Callee.invoke _ _, args := _, argTypes := _ }, type := _, pos := _, after := _, guard := _ } :: _) _ _; refine wpList_ask (D := d) rfl _ _ _ _ rfl (by rw [HOD.out]; rfl) (i : Int) (x1, num, x3) rfl rfl (h2.out.obj hd.out) HIK.out HX2.out HOK.out.ln HOK.out.gh ?_; intro w3 S3 h3' k3'; have h3 : Hid _ := h3'; have k3 : Hid _ := k3'; clear h3' k3'; obtain ⟨ro4, h4', k4', _⟩ := h2.out.did hd.out (by rw [askA_k]; exact (obG_at L k num).2) h3.out k3.out; have h4 : Hid _ := h4'; have k4 : Hid _ := k4'; clear h4' k4'; obtain ⟨_, r1, r2, _, _⟩ := h4.out.cells; obtain ⟨ao, co, ar, cr, _, y0, y1, y2, yf, yb⟩ := h4.out.task i HIN.out)
    | (go_at_call 60; refine hob.mono ?_; rintro e w2 ⟨ro2, od2, d, rfl, hd', h2', k2'⟩; have hd : Hid _ := hd'; have h2 : Hid _ := h2'; have k2 : Hid _ := k2'; clear hd' h2' k2'; obtain ⟨p0, p1, p2⟩ := HBX.out w2 _ k2.out))
  go_ret
  exact ⟨rfl, ro4, tv, od2, h5.out, (Kept.of B1.out).trans (k2.out.trans (k4.out.trans k5.out))⟩
set_option maxHeartbeats 6400000 in
set_option maxRecDepth 100000 in
theorem pk_ask_miss (h : PkAt w base ro y tv od P fR fB L) (i : Nat) (hi : i < P.length) (x : Opx) (hx1 : okI x.2.1) (hx2 : okI x.2.2) (k : Int) (hk : nmK x = k + 1) (hk0 : 0 ≤ k ∧ k ≤ 3) (hok : AskOk L k x.2.1) (ha : (askA (obG L k x.2.1) (i : Int) x).1 = 4) (hr : fR i = false) (hl : P[i].ops.length ≤ 65536) (hp : P[i].pos ≤ P[i].ops.length) : Calls Try.prog 47 #[.pointer (some ⟨y.D, 0, none⟩), .int .i64 (i : Int), .agg #[.int .i64 x.1, .int .i64 x.2.1, .int .i64 x.2.2]] w fun e w' => e = .returned (.int .i64 (askA (obG L k x.2.1) (i : Int) x).2.1) ∧ ∃ ro' tv' od', PkAt w' base ro' y tv' od' (P.set i { P[i] with pos := pastP P[i].ops P[i].pos }) (goF P[i].ops.length fR i (pastP P[i].ops P[i].pos)) fB (obPut L k x.2.1 (askA (obG L k x.2.1) (i : Int) x).2.2) ∧ Kept w w' (fun b => ro b ≠ none) (fun b => ro' b ≠ none) := by
  obtain ⟨c0, c1, c2, c3, hD⟩ := h.cells
  have hn : P.length ≤ 65536 := Nat.le_trans h.zR.1 h.zR.2
  have B1 : Hid _ := (Below.refl _ w).alloc (Nat.le_refl _) (.cells #[.int .i64 x.1, .int .i64 x.2.1, .int .i64 x.2.2] 45)
  have hob := pk_object (h.fresh B1.out) x hx1 k hk hk0
  unfold objV at hob
  simp only at hob
  have HOK : Hid _ := hok
  have HIK : Hid (okI (i : Int)) := ⟨by omega, by omega⟩
  have HX2 : Hid (okI x.2.2) := hx2
  have hbw : ∀ w2, Kept (w.alloc (.cells #[.int .i64 x.1, .int .i64 x.2.1, .int .i64 x.2.2] 45)) w2 (fun b => ro b ≠ none) (fun b => ro b ≠ none) → True := fun _ _ => trivial
  clear hbw
  have HBX : Hid (∀ (w2 : World) (S' : Nat → Prop), Kept (w.alloc (.cells #[.int .i64 x.1, .int .i64 x.2.1, .int .i64 x.2.2] 45)) w2 (fun b => ro b ≠ none) S' → w2.cell? ⟨w.heap.size, 0, none⟩ = some (.int .i64 x.1) ∧ w2.cell? ⟨w.heap.size, 1, none⟩ = some (.int .i64 x.2.1) ∧ w2.cell? ⟨w.heap.size, 2, none⟩ = some (.int .i64 x.2.2)) := fun w2 S' k2 => by
    have h0 := heap_alloc_new w (.cells #[.int .i64 x.1, .int .i64 x.2.1, .int .i64 x.2.2] 45)
    have h1 : w2.heap[w.heap.size]? = _ := (k2.kept w.heap.size (by simp) (fun e => by have := h.lt _ e; omega)).trans h0
    exact ⟨by rw [cell_of_row _ _ _ _ _ _ h1]; rfl, by rw [cell_of_row _ _ _ _ _ _ h1]; rfl, by rw [cell_of_row _ _ _ _ _ _ h1]; rfl⟩
  have HIN : Hid (i < P.length) := hi
  have HA : Hid _ := ha
  have HOD : Hid ((obG L k x.2.1).k = k) := (obG_at L k x.2.1).2
  obtain ⟨x1, num, x3⟩ := x
  have HGO : Hid (∀ w3 ro4 tv4 od4 P4 fB4 L4 (a : Nat), PkAt w3 base ro4 y tv4 od4 P4 fR fB4 L4 → ∀ hi4 : i < P4.length, Calls Try.prog 29 #[.pointer (some ⟨y.D, 0, none⟩), .int .i64 (i : Int), .int .i64 (a : Int)] w3 fun e w' => e = .returned (.tuple #[]) ∧ PkAt w' base ro4 y tv4 od4 (P4.set i { P4[i] with pos := a }) (goF P4[i].ops.length fR i a) fB4 L4 ∧ Kept w3 w' (fun b => ro4 b ≠ none) (fun b => ro4 b ≠ none)) := fun w3 ro4 tv4 od4 P4 fB4 L4 a h9 hi4 => pk_goTo h9 i hi4 a hr
  have HPA : Hid (∀ w3 ro4 od4 L4, PkAt w3 base ro4 y tv od4 P fR fB L4 → Calls Try.prog 61 #[.pointer (some ⟨y.bT, i * 3, none⟩)] w3 fun e w' => e = .returned (.int .i64 (pastP P[i].ops P[i].pos : Int)) ∧ w3 = w') := fun w3 ro4 od4 L4 h9 => pk_past h9 i HIN.out hl hp
  clear ha h hk hk0 hx1 hx2 hok hr
  go_enter Try.func47, Try.ntmps47
  go_wp2_with (first
    | (go_at_call 29; refine (HGO.out w3 ro4 _ _ _ _ _ (pastP P[i].ops P[i].pos) h4.out HIN.out).mono ?_; rintro e w5 ⟨rfl, h5', k5'⟩; have h5 : Hid _ := h5'; have k5 : Hid _ := k5'; clear h5' k5')
    | (go_at_call 61; refine (HPA.out w3 ro4 _ _ h4.out).mono ?_; rintro e w9 ⟨rfl, rfl⟩)
    | (show wpList _ _ _ ({ dst := _, op := Op.call { callee := Callee.invoke _ _, args := _, argTypes := _ }, type := _, pos := _, after := _, guard := _ } :: _) _ _; refine wpList_ask (D := d) rfl _ _ _ _ rfl (by rw [HOD.out]; rfl) (i : Int) (x1, num, x3) rfl rfl (h2.out.obj hd.out) HIK.out HX2.out HOK.out.ln HOK.out.gh ?_; intro w3 S3 h3' k3'; have h3 : Hid _ := h3'; have k3 : Hid _ := k3'; clear h3' k3'; obtain ⟨ro4, h4', k4', _⟩ := h2.out.did hd.out (by rw [askA_k]; exact (obG_at L k num).2) h3.out k3.out; have h4 : Hid _ := h4'; have k4 : Hid _ := k4'; clear h4' k4'; have ea : (askA (obG L k num) (i : Int) (x1, num, x3)).1 = 4 := HA.out; rw [ea]; obtain ⟨_, r1, r2, _, _⟩ := h4.out.cells; obtain ⟨ao, co, ar, cr, _, y0, y1, y2, yf, yb⟩ := h4.out.task i HIN.out)
    | (go_at_call 60; refine hob.mono ?_; rintro e w2 ⟨ro2, od2, d, rfl, hd', h2', k2'⟩; have hd : Hid _ := hd'; have h2 : Hid _ := h2'; have k2 : Hid _ := k2'; clear hd' h2' k2'; obtain ⟨p0, p1, p2⟩ := HBX.out w2 _ k2.out))
  go_ret
  exact ⟨rfl, ro4, tv, od2, h5.out, (Kept.of B1.out).trans (k2.out.trans (k4.out.trans k5.out))⟩
set_option maxHeartbeats 6400000 in
set_option maxRecDepth 100000 in
theorem pk_ask_none (h : PkAt w base ro y tv od P fR fB L) (i : Nat) (hi : i < P.length) (x : Opx) (hx1 : okI x.2.1) (hk : nmK x = 0) (hr : fR i = false) (hp : P[i].pos ≤ 65536) : Calls Try.prog 47 #[.pointer (some ⟨y.D, 0, none⟩), .int .i64 (i : Int), .agg #[.int .i64 x.1, .int .i64 x.2.1, .int .i64 x.2.2]] w fun e w' => e = .returned (.int .i64 1) ∧ PkAt w' base ro y tv od (P.set i { P[i] with pos := P[i].pos + 1 }) (goF P[i].ops.length fR i (P[i].pos + 1)) fB L ∧ Kept w w' (fun b => ro b ≠ none) (fun b => ro b ≠ none) := by
  obtain ⟨c0, c1, c2, c3, hD⟩ := h.cells
  have hn : P.length ≤ 65536 := Nat.le_trans h.zR.1 h.zR.2
  have B1 : Hid _ := (Below.refl _ w).alloc (Nat.le_refl _) (.cells #[.int .i64 x.1, .int .i64 x.2.1, .int .i64 x.2.2] 45)
  have hob := pk_obj_none (h.fresh B1.out) x hx1 hk
  have H : Hid _ := h
  have HIN : Hid (i < P.length) := hi
  obtain ⟨x1, num, x3⟩ := x
  clear h hk hx1
  go_enter Try.func47, Try.ntmps47
  go_wp2_with (first
    | (go_at_call 29; refine (pk_goTo h2.out i HIN.out (P[i].pos + 1) hr).mono ?_; rintro e w5 ⟨rfl, h5', k5'⟩; have h5 : Hid _ := h5'; have k5 : Hid _ := k5'; clear h5' k5')
    | (go_at_call 60; refine hob.mono ?_; rintro e w2 ⟨rfl, b2'⟩; have b2 : Hid _ := bel_box b2'; clear b2'; have h2 : Hid _ := H.out.fresh b2.out; obtain ⟨ao, co, ar, cr, _, y0, y1, y2, yf, yb⟩ := h2.out.task i HIN.out))
  go_ret
  exact ⟨rfl, h5.out, (Kept.of b2.out).trans k5.out⟩
end
end Go.Proofs.Ythhlglbohibekaa
namespace Go.Proofs.Ythhlglbohibekaa
open Go.RowKit

section
variable {P : Program} {md : Region.Mode} {Q : Exit → Act → World → Prop} {S : World → Prop} {fuel : Nat} {listed : Array Bool} {a : Act} {w : World} {l : List Oper}
theorem rd4_7 {o0 o1 o2 o3 o4 o5 o6 o7 : Oper} (hr : Region.ready md (o0 :: o1 :: o2 :: o3 :: o4 :: o5 :: o6 :: o7 :: l).toArray listed = [4, 7]) (hw0 : Region.wanted o4 (yielded (o0 :: o1 :: o2 :: o3 :: o4 :: o5 :: o6 :: o7 :: l).toArray a.tmps) = true) (hw1 : Region.wanted o7 (yielded (o0 :: o1 :: o2 :: o3 :: o4 :: o5 :: o6 :: o7 :: l).toArray a.tmps) = true)
    (h0 : ∀ K' : Act → World → Prop, Shut (∀ a w, S w → (S w → wpAnyH P md (o0 :: o1 :: o2 :: o3 :: o4 :: o5 :: o6 :: o7 :: l).toArray Q S fuel (listed.setIfInBounds 4 true) a w) → K' a w) → Oper.wp P o4 a w K' Q)
    (h1 : ∀ K' : Act → World → Prop, Shut (∀ a w, S w → (S w → wpAnyH P md (o0 :: o1 :: o2 :: o3 :: o4 :: o5 :: o6 :: o7 :: l).toArray Q S fuel (listed.setIfInBounds 7 true) a w) → K' a w) → Oper.wp P o7 a w K' Q) : wpAnyH P md (o0 :: o1 :: o2 :: o3 :: o4 :: o5 :: o6 :: o7 :: l).toArray Q S (fuel + 1) listed a w :=
  wpAnyH_ready hr (by simp) (AllReadyH.cons (o := o4) rfl (fun K hK => by rw [if_pos hw0]; exact h0 K hK) (AllReadyH.cons (o := o7) rfl (fun K hK => by rw [if_pos hw1]; exact h1 K hK) AllReadyH.nil))
end
section
variable {w w' w1 : World} {base : Nat} {ro ro' : Nat → Option Who} {y : Lay} {tv : List Tv} {od : List Nat} {P : List Pk} {fR fB : Nat → Bool} {L : List (Int × Ob)}
theorem PkAt.moreRuns (h : PkAt w base ro y tv od P fR fB L) (i : Nat) (hi : i < P.length) (num : Int) (hit : i < tv.length) {w6 : World} {u6 : Value} (s6 : Slid intC 1 3 w6 u6 (P[i].runs ++ [num])) (g6 : (w.alloc (.cells #[.int .i64 num] 3)).grownBy w6 tv[i].2.ownBlock) (l6 : u6.ownBlock = tv[i].2.ownBlock ∨ u6.ownBlock = some (w.alloc (.cells #[.int .i64 num] 3)).heap.size) :
    (∃ ro7, PkAt (w6.setCell ⟨y.bT, i * 3 + 2, none⟩ u6) base ro7 y (tv.set i (tv[i].1, u6)) od (P.set i { P[i] with runs := P[i].runs ++ [num] }) fR fB L ∧ Kept w (w6.setCell ⟨y.bT, i * 3 + 2, none⟩ u6) (fun b => ro b ≠ none) (fun b => ro7 b ≠ none)) ∧ w6.cell? ⟨y.bT, i * 3 + 2, none⟩ = some tv[i].2 ∧ w6.frozen? ⟨y.bT, i * 3 + 2, none⟩ = false ∧ (∀ b, b < w.heap.size → ro b = none → w6.heap[b]? = w.heap[b]?) ∧ (∀ b, b < w.heap.size → ro b = none → (w6.setCell ⟨y.bT, i * 3 + 2, none⟩ u6).heap[b]? = w.heap[b]?) := by
  have k1 : Kept w (w.alloc (.cells #[.int .i64 num] 3)) (fun b => tv[i].2.ownBlock = some b) (fun b => tv[i].2.ownBlock = some b) := Kept.of ((Below.refl _ w).alloc (Nat.le_refl _) _)
  have k2 : Kept (w.alloc (.cells #[.int .i64 num] 3)) w6 (fun b => tv[i].2.ownBlock = some b) (fun b => u6.ownBlock = some b) := ⟨g6.os, g6.tape, g6.output, g6.size, fun b hb => by
    rcases l6 with e | e
    · exact Or.inl (by rw [← e]; exact hb)
    · rw [e] at hb
      exact Or.inr (Nat.le_of_eq (Option.some.inj hb)), fun b hb hn => g6.block b hb (fun e => hn e.symm)⟩
  have kk := k1.trans k2
  have hro : ∀ b, ro b = none → ¬ tv[i].2.ownBlock = some b := fun b hb e => by
    have := (h.ru i hit hi).2 b e
    rw [hb] at this
    cases this
  have hbT : ¬ tv[i].2.ownBlock = some y.bT := fun e => by
    have := (h.ru i hit hi).2 _ e
    rw [h.s1] at this
    simp at this
  obtain ⟨cur, hb1, hb2⟩ := h.tb
  obtain ⟨ao, co, ar, cr, ⟨_, et⟩, _, _, z2, zf, zb⟩ := h.task i hi
  have hT := kk.kept y.bT zb hbT
  refine ⟨h.setRuns i hi hit u6 _ s6 kk, ?_, ?_, fun b hb hn => kk.kept b hb (hro b hn), fun b hb hn => ?_⟩
  · rw [World.cell?_of_block (a := ⟨y.bT, i * 3 + 2, none⟩) hT, z2, et]
  · simp [World.frozen?, hT, hb1]
  · rw [heap_setCell_other _ _ _ _ (fun e => by
      rw [show b = y.bT from e, h.s1] at hn
      cases hn)]
    exact kk.kept b hb (hro b hn)
set_option maxHeartbeats 6400000 in
set_option maxRecDepth 100000 in
theorem pk_ask_run (h : PkAt w base ro y tv od P fR fB L) (i : Nat) (hi : i < P.length) (x : Opx) (hx1 : okI x.2.1) (hx2 : okI x.2.2) (k : Int) (hk : nmK x = k + 1) (hk0 : 0 ≤ k ∧ k ≤ 3) (hok : AskOk L k x.2.1) (ha : (askA (obG L k x.2.1) (i : Int) x).1 = 2) (hr : fR i = false) (hp : P[i].pos ≤ 65536) (hlr : P[i].runs.length < 65536) : Calls Try.prog 47 #[.pointer (some ⟨y.D, 0, none⟩), .int .i64 (i : Int), .agg #[.int .i64 x.1, .int .i64 x.2.1, .int .i64 x.2.2]] w fun e w' => e = .returned (.int .i64 (askA (obG L k x.2.1) (i : Int) x).2.1) ∧ ∃ ro' tv' od', PkAt w' base ro' y tv' od' (P.set i ⟨P[i].ops, P[i].pos + 1, P[i].runs ++ [x.2.1]⟩) (goF P[i].ops.length fR i (P[i].pos + 1)) fB (obPut L k x.2.1 (askA (obG L k x.2.1) (i : Int) x).2.2) ∧ Kept w w' (fun b => ro b ≠ none) (fun b => ro' b ≠ none) := by
  obtain ⟨c0, c1, c2, c3, hD⟩ := h.cells
  have hn : P.length ≤ 65536 := Nat.le_trans h.zR.1 h.zR.2
  have B1 : Hid _ := (Below.refl _ w).alloc (Nat.le_refl _) (.cells #[.int .i64 x.1, .int .i64 x.2.1, .int .i64 x.2.2] 45)
  have hob := pk_object (h.fresh B1.out) x hx1 k hk hk0
  unfold objV at hob
  simp only at hob
  have HOK : Hid _ := hok
  have HIK : Hid (okI (i : Int)) := ⟨by omega, by omega⟩
  have HX2 : Hid (okI x.2.2) := hx2
  have hbw : ∀ w2, Kept (w.alloc (.cells #[.int .i64 x.1, .int .i64 x.2.1, .int .i64 x.2.2] 45)) w2 (fun b => ro b ≠ none) (fun b => ro b ≠ none) → True := fun _ _ => trivial
  clear hbw
  have HBX : Hid (∀ (w2 : World) (S' : Nat → Prop), Kept (w.alloc (.cells #[.int .i64 x.1, .int .i64 x.2.1, .int .i64 x.2.2] 45)) w2 (fun b => ro b ≠ none) S' → w2.cell? ⟨w.heap.size, 0, none⟩ = some (.int .i64 x.1) ∧ w2.cell? ⟨w.heap.size, 1, none⟩ = some (.int .i64 x.2.1) ∧ w2.cell? ⟨w.heap.size, 2, none⟩ = some (.int .i64 x.2.2)) := fun w2 S' k2 => by
    have h0 := heap_alloc_new w (.cells #[.int .i64 x.1, .int .i64 x.2.1, .int .i64 x.2.2] 45)
    have h1 : w2.heap[w.heap.size]? = _ := (k2.kept w.heap.size (by simp) (fun e => by have := h.lt _ e; omega)).trans h0
    exact ⟨by rw [cell_of_row _ _ _ _ _ _ h1]; rfl, by rw [cell_of_row _ _ _ _ _ _ h1]; rfl, by rw [cell_of_row _ _ _ _ _ _ h1]; rfl⟩
  have HIN : Hid (i < P.length) := hi
  have HA : Hid _ := ha
  have HOD : Hid ((obG L k x.2.1).k = k) := (obG_at L k x.2.1).2
  obtain ⟨x1, num, x3⟩ := x
  have HGO : Hid (∀ w3 ro4 tv4 od4 P4 fB4 L4 (a : Nat), PkAt w3 base ro4 y tv4 od4 P4 fR fB4 L4 → ∀ hi4 : i < P4.length, Calls Try.prog 29 #[.pointer (some ⟨y.D, 0, none⟩), .int .i64 (i : Int), .int .i64 (a : Int)] w3 fun e w' => e = .returned (.tuple #[]) ∧ PkAt w' base ro4 y tv4 od4 (P4.set i { P4[i] with pos := a }) (goF P4[i].ops.length fR i a) fB4 L4 ∧ Kept w3 w' (fun b => ro4 b ≠ none) (fun b => ro4 b ≠ none)) := fun w3 ro4 tv4 od4 P4 fB4 L4 a h9 hi4 => pk_goTo h9 i hi4 a hr
  have HIP : Hid (i < (P.set i { P[i] with runs := P[i].runs ++ [num] }).length) := by show _ < _; rw [List.length_set]; exact hi
  have HPP : Hid ((P.set i { P[i] with runs := P[i].runs ++ [num] })[i]'(HIP.out) = { P[i] with runs := P[i].runs ++ [num] }) := List.getElem_set_self _
  have HFP : Hid (∀ w5 ro7 tv7 od7 L7, PkAt w5 base ro7 y tv7 od7 ((P.set i { P[i] with runs := P[i].runs ++ [num] }).set i { (P.set i { P[i] with runs := P[i].runs ++ [num] })[i]'(HIP.out) with pos := P[i].pos + 1 }) (goF ((P.set i { P[i] with runs := P[i].runs ++ [num] })[i]'(HIP.out)).ops.length fR i (P[i].pos + 1)) fB L7 → PkAt w5 base ro7 y tv7 od7 (P.set i ⟨P[i].ops, P[i].pos + 1, P[i].runs ++ [num]⟩) (goF P[i].ops.length fR i (P[i].pos + 1)) fB L7) := fun w5 ro7 tv7 od7 L7 h9 => by
    rw [HPP.out, List.set_set] at h9
    exact h9
  obtain ⟨i0, hi0, hz0, hz1, hz2⟩ := info_parts infoI
  have HRN : Hid (ro w.heap.size = none ∧ ∀ b, ro b ≠ none → b < w.heap.size) := ⟨by
    apply Classical.byContradiction
    intro hc
    have := h.lt _ hc
    omega, h.lt⟩
  clear ha h hk hk0 hx1 hx2 hok hr
  go_enter Try.func47, Try.ntmps47
  go_wp2_with (first
    | (show wpList _ _ _ ({ dst := _, op := Op.call { callee := Callee.invoke _ _, args := _, argTypes := _ }, type := _, pos := _, after := _, guard := _ } :: _) _ _; refine wpList_ask (D := d) rfl _ _ _ _ rfl (by rw [HOD.out]; rfl) (i : Int) (x1, num, x3) rfl rfl (h2.out.obj hd.out) HIK.out HX2.out HOK.out.ln HOK.out.gh ?_; intro w3 S3 h3' k3'; have h3 : Hid _ := h3'; have k3 : Hid _ := k3'; clear h3' k3'; obtain ⟨ro4, h4', k4', _⟩ := h2.out.did hd.out (by rw [askA_k]; exact (obG_at L k num).2) h3.out k3.out; have h4 : Hid _ := h4'; have k4 : Hid _ := k4'; clear h4' k4'; have ea : (askA (obG L k num) (i : Int) (x1, num, x3)).1 = 2 := HA.out; rw [ea]; obtain ⟨g0, g1, g2⟩ := HBX.out w3 _ (k2.out.trans k4.out))
    | (go_at_call 60; refine hob.mono ?_; rintro e w2 ⟨ro2, od2, d, rfl, hd', h2', k2'⟩; have hd : Hid _ := hd'; have h2 : Hid _ := h2'; have k2 : Hid _ := k2'; clear hd' h2' k2'; obtain ⟨p0, p1, p2⟩ := HBX.out w2 _ k2.out))
  have H9 : PkAt w3.drew base ro4 y tv od2 P fR fB (obPut L k num (askA (obG L k num) (i : Int) (x1, num, x3)).2.2) := h4.out.keep (Nat.le_refl _) (fun _ _ => rfl)
  have K9 : Hid (Kept w3 w3.drew (fun b => ro4 b ≠ none) (fun b => ro4 b ≠ none)) := Kept.of (undrB2 (Below.refl _ _))
  obtain ⟨ao, co, ar, cr, ⟨hit, et⟩, y0, y1, y2, yf, yb⟩ := H9.task i HIN.out
  have e2 : tv[i].2 = .slice ar P[i].runs.length cr := congrArg Prod.snd et
  have hkk := k2.out.trans k4.out
  have hXn : ro4 w.heap.size = none := by
    apply Classical.byContradiction
    intro hc
    rcases hkk.old w.heap.size hc with h9 | h9
    · exact h9 HRN.out.1
    · simp at h9
      omega
  have hXl : w.heap.size < w3.drew.heap.size := by
    have := hkk.size
    simp at this
    show _ < w3.heap.size
    omega
  have HS0 : Hid (w3.drew.cell? ⟨w.heap.size, 1, none⟩ = some (.int .i64 num)) := g1
  have HX0 : Hid _ := H9
  clear H9
  have HSL : Hid (Slid intC 1 3 (w3.drew.alloc (.cells #[.int .i64 num] 3)) (.slice ar P[i].runs.length cr) P[i].runs) := by
    have h9 := (HX0.out.ru i hit HIN.out).1
    rw [e2] at h9
    exact h9.keep (fun g hg => Below.heap_alloc _ _ _ (h9.lt hg))
  have HNW : Hid (∀ j u, (rowL intC [num])[j]? = some u → (w3.drew.alloc (.cells #[.int .i64 num] 3)).cell? ((⟨w3.drew.heap.size, 0, none⟩ : Addr).add j) = some u) := fun j u hu => by
    rw [Addr.add_mid, cell_of_row _ _ _ _ _ _ (heap_alloc_new w3.drew _)]
    rw [rowL_int] at hu
    simpa [intL] using hu
  have HS7 : Hid ((w3.drew.alloc (.cells #[.int .i64 num] 3)).cell? ⟨w.heap.size, 1, none⟩ = some (.int .i64 num)) := (World.cell?_of_block (a := ⟨w.heap.size, 1, none⟩) (Below.heap_alloc w3.drew _ _ hXl)).trans HS0.out
  have HG6 : Hid (∀ w6 u6, Slid intC 1 3 w6 u6 (P[i].runs ++ [num]) → (w3.drew.alloc (.cells #[.int .i64 num] 3)).grownBy w6 (Value.slice ar P[i].runs.length cr).ownBlock → (u6.ownBlock = (Value.slice ar P[i].runs.length cr).ownBlock ∨ u6.ownBlock = some (w3.drew.alloc (.cells #[.int .i64 num] 3)).heap.size) → (∃ ro7, PkAt (w6.setCell ⟨y.bT, i * 3 + 2, none⟩ u6) base ro7 y (tv.set i (tv[i].1, u6)) od2 (P.set i { P[i] with runs := P[i].runs ++ [num] }) fR fB (obPut L k num (askA (obG L k num) (i : Int) (x1, num, x3)).2.2) ∧ Kept w3.drew (w6.setCell ⟨y.bT, i * 3 + 2, none⟩ u6) (fun b => ro4 b ≠ none) (fun b => ro7 b ≠ none)) ∧ w6.cell? ⟨y.bT, i * 3 + 2, none⟩ = some (.slice ar P[i].runs.length cr) ∧ w6.frozen? ⟨y.bT, i * 3 + 2, none⟩ = false ∧ w6.cell? ⟨w.heap.size, 1, none⟩ = some (.int .i64 num) ∧ (w6.setCell ⟨y.bT, i * 3 + 2, none⟩ u6).cell? ⟨w.heap.size, 1, none⟩ = some (.int .i64 num)) := fun w6 u6 s6 g6 l6 => by
    rw [← e2] at g6 l6
    obtain ⟨f1, f2, f3, f4, f5⟩ := HX0.out.moreRuns i HIN.out num hit s6 g6 l6
    rw [e2] at f2
    exact ⟨f1, f2, f3, (World.cell?_of_block (a := ⟨w.heap.size, 1, none⟩) (f4 _ hXl hXn)).trans HS0.out, (World.cell?_of_block (a := ⟨w.heap.size, 1, none⟩) (f5 _ hXl hXn)).trans HS0.out⟩
  have HET : Hid _ := e2
  clear e2 et hkk hXn hXl y0 y1 yf
  refine wp_region_held_drew (S := (fun w' : World => w'.cell? ⟨w.heap.size, 1, none⟩ = some (.int .i64 num))) (by kernel_rfl) ?_ (fun hHeld0 => ?_)
  · exact HS0.out
  generalize w3.drew = w9 at *
  clear hHeld0
  have hHeld0 := HS0.out
  refine tk0 (.pointer (some ⟨y.bT, i * 3, none⟩)) ?_
  try simp only [Act.put, pu1, pu2, pu3]
  refine tk1 (.pointer (some ⟨y.bT, i * 3, none⟩)) ?_
  try simp only [Act.put, pu1, pu2, pu3]
  refine tk2 (.pointer (some ⟨y.bT, i * 3, none⟩)) ?_
  try simp only [Act.put, pu1, pu2, pu3]
  refine tk3 (.pointer (some ⟨y.bT, i * 3 + 2, none⟩)) ?_
  try simp only [Act.put, pu1, pu2, pu3]
  refine tk5 (.pointer (some ⟨w.heap.size, 1, none⟩)) ?_
  try simp only [Act.put, pu1, pu2, pu3]
  refine tk6 (.int .i64 num) ?_
  try simp only [Act.put, pu1, pu2, pu3]
  refine rd4_7 (by kernel_rfl) rfl rfl (fun K hK => ?_) (fun K hK => ?_)
  · go_simp
    refine hK.out _ _ ?_ (fun hHeld => ?_)
    · exact HS0.out
    clear hK K
    try simp only [Act.put, pu1, pu2, pu3]
    refine cl7 (by kernel_rfl) rfl (fun K hK => ?_)
    go_simp
    refine hK.out _ _ ?_ (fun hHeld => ?_)
    · exact HS7.out
    clear hK K
    try simp only [Act.put, pu1, pu2, pu3]
    refine cl8 (by kernel_rfl) rfl (fun K hK => ?_)
    refine wp_app_slid (enc := intC) (k := 1) (E := 3) (m := [num]) (.tmp 59) (.tmp 62) 23 rfl i0 _ 8 Try.underlying23 hi0 hz0 hz1 hz2 rfl intC_len intC_one rfl HSL.out ⟨w9.heap.size, 0, none⟩ 1 1 rfl rfl HNW.out (by simp) (by unfold maxLen; simp; omega) (by simp; omega) ?_
    intro u6 w6 s6 g6 l6
    obtain ⟨p6, c6, e6⟩ := s6.form
    generalize (P[i].runs ++ [num]).length = n6 at e6
    subst e6
    obtain ⟨f6, t6, tf6, x6, y6⟩ := HG6.out w6 _ s6 g6 l6
    refine hK.out _ _ ?_ (fun hHeld => ?_)
    · exact x6
    clear hK K
    try simp only [Act.put, pu1, pu2, pu3]
    refine tk9 (.pointer (some ⟨y.bT, i * 3, none⟩)) ?_
    try simp only [Act.put, pu1, pu2, pu3]
    refine tk10 (.pointer (some ⟨y.bT, i * 3 + 2, none⟩)) ?_
    try simp only [Act.put, pu1, pu2, pu3]
    refine cl11 (by kernel_rfl) rfl (fun K hK => ?_)
    go_simp
    refine hK.out _ _ ?_ (fun hHeld => ?_)
    · exact y6
    clear hK K
    try simp only [Act.put, pu1, pu2, pu3]
    refine wpAnyH_done (by kernel_rfl) ?_ _
    clear hHeld
    obtain ⟨ro7, h7', k7'⟩ := f6
    have h7 : Hid _ := h7'
    have k7 : Hid _ := k7'
    clear h7' k7'
    obtain ⟨ao2, co2, ar2, cr2, _, v0, v1, v2, vf, vb⟩ := h7.out.task i HIP.out
    rw [HPP.out] at v1
    go_wp2_with (go_at_call 29; refine (HGO.out _ ro7 _ _ _ _ _ (P[i].pos + 1) h7.out HIP.out).mono ?_; rintro e w5 ⟨rfl, h5', k5'⟩; have h5 : Hid _ := h5'; have k5 : Hid _ := k5'; clear h5' k5')
    go_ret
    exact ⟨rfl, ro7, _, od2, HFP.out _ _ _ _ _ h5.out, (Kept.of B1.out).trans (k2.out.trans (k4.out.trans (K9.out.trans (k7.out.trans k5.out))))⟩
  · go_simp
    refine hK.out _ _ ?_ (fun hHeld => ?_)
    · exact HS7.out
    clear hK K
    try simp only [Act.put, pu1, pu2, pu3]
    refine cl4 (by kernel_rfl) rfl (fun K hK => ?_)
    go_simp
    refine hK.out _ _ ?_ (fun hHeld => ?_)
    · exact HS7.out
    clear hK K
    try simp only [Act.put, pu1, pu2, pu3]
    refine cl8 (by kernel_rfl) rfl (fun K hK => ?_)
    refine wp_app_slid (enc := intC) (k := 1) (E := 3) (m := [num]) (.tmp 59) (.tmp 62) 23 rfl i0 _ 8 Try.underlying23 hi0 hz0 hz1 hz2 rfl intC_len intC_one rfl HSL.out ⟨w9.heap.size, 0, none⟩ 1 1 rfl rfl HNW.out (by simp) (by unfold maxLen; simp; omega) (by simp; omega) ?_
    intro u6 w6 s6 g6 l6
    obtain ⟨p6, c6, e6⟩ := s6.form
    generalize (P[i].runs ++ [num]).length = n6 at e6
    subst e6
    obtain ⟨f6, t6, tf6, x6, y6⟩ := HG6.out w6 _ s6 g6 l6
    refine hK.out _ _ ?_ (fun hHeld => ?_)
    · exact x6
    clear hK K
    try simp only [Act.put, pu1, pu2, pu3]
    refine tk9 (.pointer (some ⟨y.bT, i * 3, none⟩)) ?_
    try simp only [Act.put, pu1, pu2, pu3]
    refine tk10 (.pointer (some ⟨y.bT, i * 3 + 2, none⟩)) ?_
    try simp only [Act.put, pu1, pu2, pu3]
    refine cl11 (by kernel_rfl) rfl (fun K hK => ?_)
    go_simp
    refine hK.out _ _ ?_ (fun hHeld => ?_)
    · exact y6
    clear hK K
    try simp only [Act.put, pu1, pu2, pu3]
    refine wpAnyH_done (by kernel_rfl) ?_ _
    clear hHeld
    obtain ⟨ro7, h7', k7'⟩ := f6
    have h7 : Hid _ := h7'
    have k7 : Hid _ := k7'
    clear h7' k7'
    obtain ⟨ao2, co2, ar2, cr2, _, v0, v1, v2, vf, vb⟩ := h7.out.task i HIP.out
    rw [HPP.out] at v1
    go_wp2_with (go_at_call 29; refine (HGO.out _ ro7 _ _ _ _ _ (P[i].pos + 1) h7.out HIP.out).mono ?_; rintro e w5 ⟨rfl, h5', k5'⟩; have h5 : Hid _ := h5'; have k5 : Hid _ := k5'; clear h5' k5')
    go_ret
    exact ⟨rfl, ro7, _, od2, HFP.out _ _ _ _ _ h5.out, (Kept.of B1.out).trans (k2.out.trans (k4.out.trans (K9.out.trans (k7.out.trans k5.out))))⟩
end
end Go.Proofs.Ythhlglbohibekaa
namespace Go.Proofs.Ythhlglbohibekaa
open Go.RowKit

def wk : List Pk → (Nat → Bool) → (Nat → Bool) → List Int → List Pk × (Nat → Bool) × (Nat → Bool)
  | P, fR, fB, [] => (P, fR, fB)
  | P, fR, fB, o :: l => match P[o.toNat]? with
    | some p => wk (P.set o.toNat { p with pos := pastP p.ops p.pos }) (goF p.ops.length fR o.toNat (pastP p.ops p.pos)) (setF fB o.toNat false) l
    | none => wk P fR fB l
structure WkOk (P : List Pk) (fR fB : Nat → Bool) (l : List Int) : Prop where
  nd : l.Nodup
  ok : ∀ o ∈ l, ∃ n : Nat, o = (n : Int) ∧ ∃ h : n < P.length, fB n = true ∧ fR n = false ∧ P[n].ops.length ≤ 65536 ∧ P[n].pos ≤ P[n].ops.length
theorem goF_ne (n : Nat) (f : Nat → Bool) (i a x : Nat) (h : x ≠ i) : goF n f i a x = f x := by
  unfold goF
  split
  · exact if_neg h
  · rfl
theorem setF_ne (f : Nat → Bool) (i x : Nat) (b : Bool) (h : x ≠ i) : setF f i b x = f x := by
  unfold setF
  rw [if_neg h]
theorem WkOk.tail {P : List Pk} {fR fB : Nat → Bool} {l : List Int} {n : Nat} (h : WkOk P fR fB ((n : Int) :: l)) (hn : n < P.length) (a : Nat) : WkOk (P.set n { P[n] with pos := a }) (goF P[n].ops.length fR n a) (setF fB n false) l := by
  have hnd := List.nodup_cons.1 h.nd
  refine ⟨hnd.2, fun o ho => ?_⟩
  obtain ⟨m, rfl, hm, h1, h2, h3, h4⟩ := h.ok o (List.mem_cons_of_mem _ ho)
  have hne : m ≠ n := fun e => hnd.1 (by rw [← e]; exact ho)
  have e1 : (P.set n { P[n] with pos := a })[m]'(by rw [List.length_set]; exact hm) = P[m] := List.getElem_set_ne (fun e => hne e.symm) _
  exact ⟨m, rfl, by rw [List.length_set]; exact hm, by rw [setF_ne _ _ _ _ hne]; exact h1, by rw [goF_ne _ _ _ _ _ hne]; exact h2, by rw [e1]; exact h3, by rw [e1]; exact h4⟩
theorem wk_cons {P : List Pk} {fR fB : Nat → Bool} {l : List Int} {n : Nat} (hn : n < P.length) : wk P fR fB ((n : Int) :: l) = wk (P.set n { P[n] with pos := pastP P[n].ops P[n].pos }) (goF P[n].ops.length fR n (pastP P[n].ops P[n].pos)) (setF fB n false) l := by
  rw [wk, Int.toNat_natCast, List.getElem?_eq_getElem hn]
section
variable {w w' w1 : World} {base : Nat} {ro ro' : Nat → Option Who} {y : Lay} {tv : List Tv} {od : List Nat} {P : List Pk} {fR fB : Nat → Bool} {L : List (Int × Ob)}
theorem pk_leaveB (h : PkAt w base ro y tv od P fR fB L) (n : Nat) (hn : n < P.length) (hb : fB n = true) : Calls Try.prog 31 #[.agg #[.slice (some ⟨y.bB, 0, none⟩) (2 * 2 ^ y.dB) (2 * 2 ^ y.dB)], .int .i64 (n : Int)] w fun e w' => e = .returned (.tuple #[]) ∧ PkAt w' base ro y tv od P fR (setF fB n false) L ∧ Kept w w' (fun b => ro b ≠ none) (fun b => ro b ≠ none) ∧ Kept w w' (· = y.bB) (· = y.bB) := by
  refine (cr_leave h.cb h.zB.2 n (Nat.lt_of_lt_of_le hn h.zB.1) hb).mono ?_
  rintro e w5 ⟨rfl, h5, k5⟩
  obtain ⟨h6, k6⟩ := h.setB h5 k5 (fun z hz => by
    unfold setF at hz
    split at hz
    · cases hz
    · exact h.lB z hz)
  exact ⟨rfl, h6, k6, k5⟩
theorem pk_leaveR (h : PkAt w base ro y tv od P fR fB L) (n : Nat) (hn : n < P.length) (hb : fR n = true) : Calls Try.prog 31 #[.agg #[.slice (some ⟨y.bR, 0, none⟩) (2 * 2 ^ y.dR) (2 * 2 ^ y.dR)], .int .i64 (n : Int)] w fun e w' => e = .returned (.tuple #[]) ∧ PkAt w' base ro y tv od P (setF fR n false) fB L ∧ Kept w w' (fun b => ro b ≠ none) (fun b => ro b ≠ none) := by
  refine (cr_leave h.cr h.zR.2 n (Nat.lt_of_lt_of_le hn h.zR.1) hb).mono ?_
  rintro e w5 ⟨rfl, h5, k5⟩
  obtain ⟨h6, k6⟩ := h.setR h5 k5 (fun z hz => by
    unfold setF at hz
    split at hz
    · cases hz
    · exact h.lR z hz)
  exact ⟨rfl, h6, k6⟩
set_option maxHeartbeats 6400000 in
set_option maxRecDepth 100000 in
theorem pk_free_no (h : PkAt w base ro y tv od P fR fB L) (i : Nat) (hi : i < P.length) (x : Opx) (h8 : x.1 = 8) (hl : P[i].runs.length ≤ 65536) (hm : P[i].runs.getLast? ≠ some x.2.1) : Calls Try.prog 48 #[.pointer (some ⟨y.D, 0, none⟩), .int .i64 (i : Int), .agg #[.int .i64 x.1, .int .i64 x.2.1, .int .i64 x.2.2]] w fun e w' => e = .returned (.int .i64 1) ∧ Below w.heap.size w w' := by
  obtain ⟨c0, c1, c2, c3, hD⟩ := h.cells
  have hn : P.length ≤ 65536 := Nat.le_trans h.zR.1 h.zR.2
  have B1 : Hid _ := (Below.refl _ w).alloc (Nat.le_refl _) (.cells #[.int .i64 x.1, .int .i64 x.2.1, .int .i64 x.2.2] 45)
  have hma := pk_may (h.fresh B1.out) i hi hl x.2.1
  rw [decide_eq_false hm] at hma
  obtain ⟨x1, num, x3⟩ := x
  simp only at h8
  subst h8
  clear h hm
  go_enter Try.func48, Try.ntmps48
  go_wp2_with (go_at_call 62; refine hma.mono ?_; rintro e w2 ⟨rfl, rfl⟩)
  go_ret
  exact ⟨rfl, B1.out⟩
set_option maxHeartbeats 6400000 in
set_option maxRecDepth 100000 in
theorem pk_free_none (h : PkAt w base ro y tv od P fR fB L) (i : Nat) (hi : i < P.length) (x : Opx) (hx1 : okI x.2.1) (hk : nmK x = 0) (h8 : x.1 ≠ 8) : Calls Try.prog 48 #[.pointer (some ⟨y.D, 0, none⟩), .int .i64 (i : Int), .agg #[.int .i64 x.1, .int .i64 x.2.1, .int .i64 x.2.2]] w fun e w' => e = .returned (.int .i64 1) ∧ Below w.heap.size w w' := by
  obtain ⟨c0, c1, c2, c3, hD⟩ := h.cells
  have hn : P.length ≤ 65536 := Nat.le_trans h.zR.1 h.zR.2
  have B1 : Hid _ := (Below.refl _ w).alloc (Nat.le_refl _) (.cells #[.int .i64 x.1, .int .i64 x.2.1, .int .i64 x.2.2] 45)
  have hob := pk_obj_none (h.fresh B1.out) x hx1 hk
  obtain ⟨x1, num, x3⟩ := x
  have q8 : (x1 == 8) = false := beq_eq_false_iff_ne.2 h8
  clear h hk h8
  go_enter Try.func48, Try.ntmps48
  go_wp2_with (go_at_call 60; refine hob.mono ?_; rintro e w2 ⟨rfl, b2⟩)
  go_ret
  exact ⟨rfl, bel_box b2⟩
end
end Go.Proofs.Ythhlglbohibekaa
namespace Go.Proofs.Ythhlglbohibekaa
open Go.RowKit

section
variable {w w' w1 : World} {base : Nat} {ro ro' : Nat → Option Who} {y : Lay} {tv : List Tv} {od : List Nat} {P : List Pk} {fR fB : Nat → Bool} {L : List (Int × Ob)}
set_option maxHeartbeats 6400000 in
set_option maxRecDepth 100000 in
theorem pk_free_any (h : PkAt w base ro y tv od P fR fB L) (i : Nat) (hi : i < P.length) (x : Opx) (hx1 : okI x.2.1) (hx2 : okI x.2.2) (k : Int) (hk : nmK x = k + 1) (hk0 : 0 ≤ k ∧ k ≤ 3) (hok : AskOk L k x.2.1) (h8 : x.1 ≠ 8) (hwk : WkOk P fR fB (freeA (obG L k x.2.1) (i : Int) x).1) (hln : (freeA (obG L k x.2.1) (i : Int) x).1.length ≤ 65536) : Calls Try.prog 48 #[.pointer (some ⟨y.D, 0, none⟩), .int .i64 (i : Int), .agg #[.int .i64 x.1, .int .i64 x.2.1, .int .i64 x.2.2]] w fun e w' => e = .returned (.int .i64 (freeA (obG L k x.2.1) (i : Int) x).2.1) ∧ ∃ ro' tv' od', PkAt w' base ro' y tv' od' (wk P fR fB (freeA (obG L k x.2.1) (i : Int) x).1).1 (wk P fR fB (freeA (obG L k x.2.1) (i : Int) x).1).2.1 (wk P fR fB (freeA (obG L k x.2.1) (i : Int) x).1).2.2 (obPut L k x.2.1 (freeA (obG L k x.2.1) (i : Int) x).2.2) ∧ Kept w w' (fun b => ro b ≠ none) (fun b => ro' b ≠ none) := by
  obtain ⟨c0, c1, c2, c3, hD⟩ := h.cells
  have hn : P.length ≤ 65536 := Nat.le_trans h.zR.1 h.zR.2
  have B1 : Hid _ := (Below.refl _ w).alloc (Nat.le_refl _) (.cells #[.int .i64 x.1, .int .i64 x.2.1, .int .i64 x.2.2] 45)
  have hob := pk_object (h.fresh B1.out) x hx1 k hk hk0
  unfold objV at hob
  simp only at hob
  have HOK : Hid _ := hok
  have HIK : Hid (okI (i : Int)) := ⟨by omega, by omega⟩
  have HX2 : Hid (okI x.2.2) := hx2
  have hbw : ∀ w2, Kept (w.alloc (.cells #[.int .i64 x.1, .int .i64 x.2.1, .int .i64 x.2.2] 45)) w2 (fun b => ro b ≠ none) (fun b => ro b ≠ none) → True := fun _ _ => trivial
  clear hbw
  have HBX : Hid (∀ (w2 : World) (S' : Nat → Prop), Kept (w.alloc (.cells #[.int .i64 x.1, .int .i64 x.2.1, .int .i64 x.2.2] 45)) w2 (fun b => ro b ≠ none) S' → w2.cell? ⟨w.heap.size, 0, none⟩ = some (.int .i64 x.1) ∧ w2.cell? ⟨w.heap.size, 1, none⟩ = some (.int .i64 x.2.1) ∧ w2.cell? ⟨w.heap.size, 2, none⟩ = some (.int .i64 x.2.2)) := fun w2 S' k2 => by
    have h0 := heap_alloc_new w (.cells #[.int .i64 x.1, .int .i64 x.2.1, .int .i64 x.2.2] 45)
    have h1 : w2.heap[w.heap.size]? = _ := (k2.kept w.heap.size (by simp) (fun e => by have := h.lt _ e; omega)).trans h0
    exact ⟨by rw [cell_of_row _ _ _ _ _ _ h1]; rfl, by rw [cell_of_row _ _ _ _ _ _ h1]; rfl, by rw [cell_of_row _ _ _ _ _ _ h1]; rfl⟩
  have HIN : Hid (i < P.length) := hi
  have HOD : Hid ((obG L k x.2.1).k = k) := (obG_at L k x.2.1).2
  have HWK : Hid _ := hwk
  obtain ⟨x1, num, x3⟩ := x
  have q8 : (x1 == 8) = false := beq_eq_false_iff_ne.2 h8
  have HLN : Hid _ := hln
  clear h hk hk0 hx1 hx2 hok h8 hwk
  go_enter Try.func48, Try.ntmps48
  go_wp2_with (first
    | (show wpList _ _ _ ({ dst := _, op := Op.call { callee := Callee.invoke _ _, args := _, argTypes := _ }, type := _, pos := _, after := _, guard := _ } :: _) _ _; refine wpList_free (D := d) rfl _ _ _ _ rfl (by rw [HOD.out]; rfl) (i : Int) (x1, num, x3) rfl rfl (h2.out.obj hd.out) HIK.out HX2.out HOK.out.ln HOK.out.gh ?_; intro u w3 S3 r3' o3' h3' k3'; have h3 : Hid _ := h3'; have k3 : Hid _ := k3'; have r3 : Hid _ := r3'; have o3 : Hid _ := o3'; clear h3' k3' r3' o3'; obtain ⟨au, cu, rfl⟩ := r3.out.form; obtain ⟨ro4, h4', k4', n4'⟩ := h2.out.did hd.out (by rw [freeA_k]; exact (obG_at L k num).2) h3.out k3.out; have h4 : Hid _ := h4'; have k4 : Hid _ := k4'; have n4 : Hid _ := n4' _ o3.out; clear h4' k4' n4'; obtain ⟨g0, g1, g2⟩ := HBX.out w3 _ (k2.out.trans k4.out))
    | (go_at_call 60; refine hob.mono ?_; rintro e w2 ⟨ro2, od2, d, rfl, hd', h2', k2'⟩; have hd : Hid _ := hd'; have h2 : Hid _ := h2'; have k2 : Hid _ := k2'; clear hd' h2' k2'; obtain ⟨p0, p1, p2⟩ := HBX.out w2 _ k2.out))
  have h7 : Hid (PkAt w3 base ro4 y tv od2 P fR fB (obPut L k num (freeA (obG L k num) (i : Int) (x1, num, x3)).2.2)) := h4
  have HB7 : Hid (∀ bk off n cap, 0 < n → Value.slice au (freeA (obG L k num) (i : Int) (x1, num, x3)).1.length cu = .slice (some ⟨bk, off, none⟩) n cap → w3.heap[bk]? = w3.heap[bk]?) := fun _ _ _ _ _ _ => rfl
  have HSZ : Hid (w3.heap.size ≤ w3.heap.size) := Nat.le_refl _
  go_loopw [12, 64] (fun _ j wr => ∃ (kk : Nat) (P1 : List Pk) (fR1 fB1 : Nat → Bool), kk ≤ (freeA (obG L k num) (i : Int) (x1, num, x3)).1.length ∧ j = .int .i64 (kk : Int) ∧ Hid (PkAt wr base ro4 y tv od2 P1 fR1 fB1 (obPut L k num (freeA (obG L k num) (i : Int) (x1, num, x3)).2.2)) ∧ Hid (wk P fR fB (freeA (obG L k num) (i : Int) (x1, num, x3)).1 = wk P1 fR1 fB1 ((freeA (obG L k num) (i : Int) (x1, num, x3)).1.drop kk)) ∧ Hid (WkOk P1 fR1 fB1 ((freeA (obG L k num) (i : Int) (x1, num, x3)).1.drop kk)) ∧ Hid (∀ bk off n cap, 0 < n → Value.slice au (freeA (obG L k num) (i : Int) (x1, num, x3)).1.length cu = .slice (some ⟨bk, off, none⟩) n cap → wr.heap[bk]? = w3.heap[bk]?) ∧ Hid (Kept w3 wr (fun b => ro4 b ≠ none) (fun b => ro4 b ≠ none))) (fun _ j _ => (freeA (obG L k num) (i : Int) (x1, num, x3)).1.length - (RowKit.intOf j).toNat)
  case atStart => exact ⟨0, P, fR, fB, Nat.zero_le _, rfl, h7, by show _ = _; rfl, HWK, HB7, Kept.refl _ _⟩
  case round =>
    obtain ⟨kk, P1, fR1, fB1, hkk, rfl, hP, HW, HO, HB, hKe⟩ := hrel
    by_cases hkl : kk < (freeA (obG L k num) (i : Int) (x1, num, x3)).1.length
    · have q0 : decide ((kk : Int) < ((freeA (obG L k num) (i : Int) (x1, num, x3)).1.length : Int)) = true := decide_eq_true (by omega)
      obtain ⟨bk, ofl, cp, e, _, hbk, hx⟩ := r3.out.cells intC_len (by omega)
      simp only [Value.slice.injEq] at e
      obtain ⟨rfl, _, rfl⟩ := e
      have hdr := List.drop_eq_getElem_cons hkl
      have HO2 := HO.out
      rw [hdr] at HO2
      obtain ⟨n, hne, hnP, hn1, hn2, hn3, hn4⟩ := HO2.ok _ (List.mem_cons_self)
      rw [hne] at HO2
      have HW2 := HW.out
      rw [hdr, hne, wk_cons hnP] at HW2
      have z7' : w3.cell? ⟨bk, ofl + kk, none⟩ = some (.int .i64 (n : Int)) := by
        have := hx kk hkl 0 _ (by decide) rfl
        rw [Nat.mul_one, hne] at this
        exact this
      have hBk := HB.out bk ofl _ _ (by omega) rfl
      have z7 : wr.cell? ⟨bk, ofl + kk, none⟩ = some (.int .i64 (n : Int)) := (World.cell?_of_block (a := ⟨bk, ofl + kk, none⟩) hBk).trans z7'
      have HT2 : Hid _ := HO2.tail hnP (pastP P1[n].ops P1[n].pos)
      have HWE : Hid _ := HW2
      have hnp : P1.length ≤ 65536 := Nat.le_trans hP.out.zR.1 hP.out.zR.2
      obtain ⟨a0, a1, a2, a3, hDw⟩ := hP.out.cells
      have hlv := pk_leaveB hP.out n hnP hn1
      have HNP : Hid (n < P1.length) := hnP
      have HPST : Hid (∀ w5, PkAt w5 base ro4 y tv od2 P1 fR1 (setF fB1 n false) (obPut L k num (freeA (obG L k num) (i : Int) (x1, num, x3)).2.2) → Calls Try.prog 61 #[.pointer (some ⟨y.bT, n * 3, none⟩)] w5 fun e w' => e = .returned (.int .i64 (pastP P1[n].ops P1[n].pos : Int)) ∧ w5 = w') := fun w5 h9 => pk_past h9 n hnP hn3 hn4
      have HGO : Hid (∀ w5, PkAt w5 base ro4 y tv od2 P1 fR1 (setF fB1 n false) (obPut L k num (freeA (obG L k num) (i : Int) (x1, num, x3)).2.2) → Calls Try.prog 29 #[.pointer (some ⟨y.D, 0, none⟩), .int .i64 (n : Int), .int .i64 (pastP P1[n].ops P1[n].pos : Int)] w5 fun e w' => e = .returned (.tuple #[]) ∧ PkAt w' base ro4 y tv od2 (P1.set n { P1[n] with pos := pastP P1[n].ops P1[n].pos }) (goF P1[n].ops.length fR1 n (pastP P1[n].ops P1[n].pos)) (setF fB1 n false) (obPut L k num (freeA (obG L k num) (i : Int) (x1, num, x3)).2.2) ∧ Kept w5 w' (fun b => ro4 b ≠ none) (fun b => ro4 b ≠ none) ∧ Kept w5 w' (fun b => b = y.bT ∨ b = y.bR) (fun b => b = y.bT ∨ b = y.bR)) := fun w5 h9 => pk_goToK h9 n hnP _ hn2
      have HBN : Hid (∀ w5 w6, Kept wr w5 (· = y.bB) (· = y.bB) → Kept w5 w6 (fun b => b = y.bT ∨ b = y.bR) (fun b => b = y.bT ∨ b = y.bR) → ∀ b2 o2 n2 c2, 0 < n2 → Value.slice (some ⟨bk, ofl, none⟩) (freeA (obG L k num) (i : Int) (x1, num, x3)).1.length cu = .slice (some ⟨b2, o2, none⟩) n2 c2 → w6.heap[b2]? = w3.heap[b2]?) := fun w5 w6 k5 k6 b2 o2 n2 c2 h0 e2 => by
        simp only [Value.slice.injEq, Option.some.injEq, Addr.mk.injEq] at e2
        obtain ⟨⟨e3, _, _⟩, _, _⟩ := e2
        have hno : ∀ κ, ro4 bk = some κ → κ = (3, obFind L k num) := n4.out bk ofl _ cu (by omega) rfl
        have hcls : ∀ c, ro4 bk ≠ some (0, c) := fun c e => by have := hno _ e; simp at this
        have hlt : bk < wr.heap.size := Nat.lt_of_lt_of_le hbk (Nat.le_trans HSZ.out hKe.out.size)
        rw [← e3, k6.kept bk (Nat.lt_of_lt_of_le hlt k5.size) (fun e => by
          rcases e with e | e
          · exact hcls 1 (by rw [e]; exact h4.out.s1)
          · exact hcls 3 (by rw [e]; exact h4.out.s3)), k5.kept bk hlt (fun e => hcls 4 (by rw [e]; exact h4.out.s4)), hBk]
      clear hx hdr hne hn1 hn2 hn3 hn4 z7' HO2 HW2 HW HO HB hBk
      go_wp2_with (first
        | (go_at_call 29; refine (HGO.out w5 h5.out).mono ?_; rintro e w6 ⟨rfl, h6', k6', j6'⟩; have h6 : Hid _ := h6'; have k6 : Hid _ := k6'; have j6 : Hid _ := j6'; clear h6' k6' j6')
        | (go_at_call 61; refine (HPST.out w5 h5.out).mono ?_; rintro e w8 ⟨rfl, rfl⟩)
        | (go_at_call 31; refine hlv.mono ?_; rintro e w5 ⟨rfl, h5', k5', j5'⟩; have h5 : Hid _ := h5'; have k5 : Hid _ := k5'; have j5 : Hid _ := j5'; clear h5' k5' j5'; obtain ⟨d0, d1, d2, d3, hDv⟩ := h5.out.cells))
      go_roundw
      case rel => exact ⟨kk + 1, _, _, _, hkl, by go_num, h6, HWE, HT2, HBN.out w5 w6 j5.out j6.out, hKe.out.trans (k5.out.trans k6.out)⟩
      case measure => simp [RowKit.intOf]; omega
    · have q0 : decide ((kk : Int) < ((freeA (obG L k num) (i : Int) (x1, num, x3)).1.length : Int)) = false := decide_eq_false (by omega)
      have HF : Hid (P1 = (wk P fR fB (freeA (obG L k num) (i : Int) (x1, num, x3)).1).1 ∧ fR1 = (wk P fR fB (freeA (obG L k num) (i : Int) (x1, num, x3)).1).2.1 ∧ fB1 = (wk P fR fB (freeA (obG L k num) (i : Int) (x1, num, x3)).1).2.2) := by
        have h9 := HW.out
        rw [List.drop_of_length_le (by omega)] at h9
        rw [h9]
        exact ⟨rfl, rfl, rfl⟩
      go_wp2
      go_ret
      refine ⟨rfl, ro4, ⟨tv, od2, ?_⟩, (Kept.of B1.out).trans (k2.out.trans (k4.out.trans hKe.out))⟩
      obtain ⟨e1, e2, e3⟩ := HF.out
      have h9 := hP.out
      rw [e1, e2, e3] at h9
      exact h9
end
end Go.Proofs.Ythhlglbohibekaa
namespace Go.Proofs.Ythhlglbohibekaa
open Go.RowKit

section
variable {P : Program} {md : Region.Mode} {Q : Exit → Act → World → Prop} {S : World → Prop} {fuel : Nat} {listed : Array Bool} {a : Act} {w : World} {l : List Oper}
end
section
variable {w w' w1 : World} {base : Nat} {ro ro' : Nat → Option Who} {y : Lay} {tv : List Tv} {od : List Nat} {P : List Pk} {fR fB : Nat → Bool} {L : List (Int × Ob)}
set_option maxHeartbeats 6400000 in
set_option maxRecDepth 100000 in
theorem pk_free_end (h : PkAt w base ro y tv od P fR fB L) (i : Nat) (hi : i < P.length) (x : Opx) (hx1 : okI x.2.1) (hx2 : okI x.2.2) (k : Int) (hk : nmK x = k + 1) (hk0 : 0 ≤ k ∧ k ≤ 3) (hok : AskOk L k x.2.1) (h8 : x.1 = 8) (hlr : P[i].runs.length ≤ 65536) (hlast : P[i].runs.getLast? = some x.2.1) (hz : (freeA (obG L k x.2.1) (i : Int) x).2.1 = 0) (hwk : WkOk (P.set i { P[i] with runs := P[i].runs.dropLast }) fR fB (freeA (obG L k x.2.1) (i : Int) x).1) (hln : (freeA (obG L k x.2.1) (i : Int) x).1.length ≤ 65536) : Calls Try.prog 48 #[.pointer (some ⟨y.D, 0, none⟩), .int .i64 (i : Int), .agg #[.int .i64 x.1, .int .i64 x.2.1, .int .i64 x.2.2]] w fun e w' => e = .returned (.int .i64 (freeA (obG L k x.2.1) (i : Int) x).2.1) ∧ ∃ ro' tv' od', PkAt w' base ro' y tv' od' (wk (P.set i { P[i] with runs := P[i].runs.dropLast }) fR fB (freeA (obG L k x.2.1) (i : Int) x).1).1 (wk (P.set i { P[i] with runs := P[i].runs.dropLast }) fR fB (freeA (obG L k x.2.1) (i : Int) x).1).2.1 (wk (P.set i { P[i] with runs := P[i].runs.dropLast }) fR fB (freeA (obG L k x.2.1) (i : Int) x).1).2.2 (obPut L k x.2.1 (freeA (obG L k x.2.1) (i : Int) x).2.2) ∧ Kept w w' (fun b => ro b ≠ none) (fun b => ro' b ≠ none) := by
  obtain ⟨c0, c1, c2, c3, hD⟩ := h.cells
  have hn : P.length ≤ 65536 := Nat.le_trans h.zR.1 h.zR.2
  have B1 : Hid _ := (Below.refl _ w).alloc (Nat.le_refl _) (.cells #[.int .i64 x.1, .int .i64 x.2.1, .int .i64 x.2.2] 45)
  have hob := pk_object (h.fresh B1.out) x hx1 k hk hk0
  unfold objV at hob
  simp only at hob
  have HOK : Hid _ := hok
  have HIK : Hid (okI (i : Int)) := ⟨by omega, by omega⟩
  have HX2 : Hid (okI x.2.2) := hx2
  have hbw : ∀ w2, Kept (w.alloc (.cells #[.int .i64 x.1, .int .i64 x.2.1, .int .i64 x.2.2] 45)) w2 (fun b => ro b ≠ none) (fun b => ro b ≠ none) → True := fun _ _ => trivial
  clear hbw
  have HBX : Hid (∀ (w2 : World) (S' : Nat → Prop), Kept (w.alloc (.cells #[.int .i64 x.1, .int .i64 x.2.1, .int .i64 x.2.2] 45)) w2 (fun b => ro b ≠ none) S' → w2.cell? ⟨w.heap.size, 0, none⟩ = some (.int .i64 x.1) ∧ w2.cell? ⟨w.heap.size, 1, none⟩ = some (.int .i64 x.2.1) ∧ w2.cell? ⟨w.heap.size, 2, none⟩ = some (.int .i64 x.2.2)) := fun w2 S' k2 => by
    have h0 := heap_alloc_new w (.cells #[.int .i64 x.1, .int .i64 x.2.1, .int .i64 x.2.2] 45)
    have h1 : w2.heap[w.heap.size]? = _ := (k2.kept w.heap.size (by simp) (fun e => by have := h.lt _ e; omega)).trans h0
    exact ⟨by rw [cell_of_row _ _ _ _ _ _ h1]; rfl, by rw [cell_of_row _ _ _ _ _ _ h1]; rfl, by rw [cell_of_row _ _ _ _ _ _ h1]; rfl⟩
  have hma := pk_may (h.fresh B1.out) i hi hlr x.2.1
  rw [decide_eq_true hlast] at hma
  have hpos : 0 < P[i].runs.length := by
    cases hc : P[i].runs with
    | nil => rw [hc] at hlast; cases hlast
    | cons _ _ => simp
  obtain ⟨m, hm⟩ : ∃ m, P[i].runs.length = m + 1 := ⟨P[i].runs.length - 1, by omega⟩
  have HIN : Hid (i < P.length) := hi
  have HOD : Hid ((obG L k x.2.1).k = k) := (obG_at L k x.2.1).2
  have HWK : Hid _ := hwk
  obtain ⟨x1, num, x3⟩ := x
  simp only at h8
  subst h8
  have HZ : Hid ((freeA (obG L k num) (i : Int) (8, num, x3)).2.1 = 0) := hz
  have HLN : Hid _ := hln
  have HLR : Hid (P[i].runs.length = m + 1 ∧ P[i].runs.length ≤ 65536) := ⟨hm, hlr⟩
  have HRN : Hid (ro w.heap.size = none) := by
    apply Classical.byContradiction
    intro hc
    have := h.lt _ hc
    omega
  clear h hk hk0 hx1 hx2 hok hwk hlast hz hpos
  have hm64 : m + 1 ≤ 65536 := by omega
  clear hm hlr
  go_enter Try.func48, Try.ntmps48
  go_wp2_with (first
    | (show wpList _ _ _ ({ dst := _, op := Op.call { callee := Callee.invoke _ _, args := _, argTypes := _ }, type := _, pos := _, after := _, guard := _ } :: _) _ _; refine wpList_free (D := d) rfl _ _ _ _ rfl (by rw [HOD.out]; rfl) (i : Int) (8, num, x3) rfl rfl (h2.out.obj hd.out) HIK.out HX2.out HOK.out.ln HOK.out.gh ?_; intro u w3 S3 r3' o3' h3' k3'; have h3 : Hid _ := h3'; have k3 : Hid _ := k3'; have r3 : Hid _ := r3'; have o3 : Hid _ := o3'; clear h3' k3' r3' o3'; obtain ⟨au, cu, rfl⟩ := r3.out.form; obtain ⟨ro4, h4', k4', n4'⟩ := h2.out.did hd.out (by rw [freeA_k]; exact (obG_at L k num).2) h3.out k3.out; have h4 : Hid _ := h4'; have k4 : Hid _ := k4'; have n4 : Hid _ := n4' _ o3.out; clear h4' k4' n4'; have ez := HZ.out; rw [ez]; obtain ⟨g0, g1, g2⟩ := HBX.out w3 _ (k2.out.trans k4.out))
    | (go_at_call 60; refine hob.mono ?_; rintro e w2 ⟨ro2, od2, d, rfl, hd', h2', k2'⟩; have hd : Hid _ := hd'; have h2 : Hid _ := h2'; have k2 : Hid _ := k2'; clear hd' h2' k2'; obtain ⟨p0, p1, p2⟩ := HBX.out w2 _ k2.out)
    | (go_at_call 62; refine hma.mono ?_; rintro e w8 ⟨rfl, rfl⟩))
  have H9 : PkAt w3.drew base ro4 y tv od2 P fR fB (obPut L k num (freeA (obG L k num) (i : Int) (8, num, x3)).2.2) := h4.out.keep (Nat.le_refl _) (fun _ _ => rfl)
  have K9 : Hid (Kept w3 w3.drew (fun b => ro4 b ≠ none) (fun b => ro4 b ≠ none)) := Kept.of (undrB2 (Below.refl _ _))
  obtain ⟨ao, co, ar, cr, ⟨hit, et⟩, y0, y1, y2, yf, yb⟩ := H9.task i hi
  have e2 : tv[i].2 = .slice ar P[i].runs.length cr := congrArg Prod.snd et
  obtain ⟨TV7, hTV⟩ : ∃ TV7, TV7 = tv.set i (tv[i].1, .slice ar m cr) := ⟨_, rfl⟩
  have HE9 : Hid (∃ ro7, PkAt (w3.drew.setCell ⟨y.bT, i * 3 + 2, none⟩ (.slice ar m cr)) base ro7 y TV7 od2 (P.set i { P[i] with runs := P[i].runs.dropLast }) fR fB (obPut L k num (freeA (obG L k num) (i : Int) (8, num, x3)).2.2) ∧ Kept w3.drew (w3.drew.setCell ⟨y.bT, i * 3 + 2, none⟩ (.slice ar m cr)) (fun b => ro4 b ≠ none) (fun b => ro7 b ≠ none)) := by
    have hs := (H9.ru i hit hi).1
    rw [e2] at hs
    have hs2 := hs.front intC_len m (by have := HLR.out.1; omega) (by have := HLR.out.1; omega)
    have e3 : P[i].runs.take m = P[i].runs.dropLast := by rw [List.dropLast_eq_take, HLR.out.1, Nat.add_sub_cancel]
    replace hs2 : Slid intC 1 3 w3.drew (.slice ar m cr) P[i].runs.dropLast := Eq.mp (congrArg (fun l => Slid intC 1 3 w3.drew (.slice ar m cr) l) e3) hs2
    rw [hTV]
    exact H9.setRuns i hi hit (.slice ar m cr) _ hs2 (by
      have e4 : (fun b => tv[i].2.ownBlock = some b) = fun b => (Value.slice ar m cr).ownBlock = some b := by
        rw [e2]
        cases ar with
        | none => rfl
        | some a => rfl
      rw [e4]
      exact Kept.refl _ _)
  replace y2 : w3.drew.cell? ⟨y.bT, i * 3 + 2, none⟩ = some (.slice ar (m + 1) cr) := y2.trans (congrArg (fun n => some (Value.slice ar n cr)) HLR.out.1)
  have hcr : m + 1 ≤ cr ∧ ar ≠ none := by
    have hs := (H9.ru i hit hi).1
    rw [e2] at hs
    rcases hs.ex with ⟨h1, h2⟩ | ⟨g, off, cap, cur, h1, _, h3, _⟩
    · have h9 := HLR.out.1
      have h8 : P[i].runs.length = 0 := congrArg List.length h2
      omega
    · simp only [Value.slice.injEq] at h1
      have := HLR.out.1
      exact ⟨by omega, by rw [h1.1]; simp⟩
  have yw : w3.drew.frozen? ⟨y.bT, i * 3 + 2, none⟩ = false := yf _
  have HB7 : Hid (∀ bk off n cap, 0 < n → Value.slice au (freeA (obG L k num) (i : Int) (8, num, x3)).1.length cu = .slice (some ⟨bk, off, none⟩) n cap → (w3.drew.setCell ⟨y.bT, i * 3 + 2, none⟩ (.slice ar m cr)).heap[bk]? = w3.heap[bk]?) := fun bk off n cap h0 e => by
    have hno := n4.out bk off n cap h0 e
    exact heap_setCell_other _ _ _ _ (fun e9 => by
      have := hno _ (by rw [show bk = y.bT from e9]; exact h4.out.s1)
      simp at this)
  have HSZ : Hid (w3.heap.size ≤ (w3.drew.setCell ⟨y.bT, i * 3 + 2, none⟩ (.slice ar m cr)).heap.size) := by
    show _ ≤ _
    simp
  obtain ⟨ga, rfl⟩ : ∃ ga, ar = some ga := by
    cases ar with
    | none => exact absurd rfl hcr.2
    | some a => exact ⟨a, rfl⟩
  have hcr1 := hcr.1
  clear H9 e2 et hcr yf y0 y1 hTV
  refine wp_region_held_drew (S := (fun _ : World => True)) (by kernel_rfl) ?_ (fun hHeld0 => ?_)
  · trivial
  generalize w3.drew = w9 at *
  clear hHeld0
  refine tk0 (.pointer (some ⟨y.bT, i * 3, none⟩)) ?_ (fun w hSw => by (try dsimp only at hSw); clear hSw; go_simp)
  try simp only [Act.put, pu1, pu2, pu3]
  refine tk1 (.pointer (some ⟨y.bT, i * 3, none⟩)) ?_ (fun w hSw => by (try dsimp only at hSw); clear hSw; go_simp)
  try simp only [Act.put, pu1, pu2, pu3]
  refine tk2 (.pointer (some ⟨y.bT, i * 3, none⟩)) ?_ (fun w hSw => by (try dsimp only at hSw); clear hSw; go_simp)
  try simp only [Act.put, pu1, pu2, pu3]
  refine tk3 (.pointer (some ⟨y.bT, i * 3 + 2, none⟩)) ?_ (fun w hSw => by (try dsimp only at hSw); clear hSw; go_simp)
  try simp only [Act.put, pu1, pu2, pu3]
  refine tk5 (.pointer (some ⟨y.bT, i * 3, none⟩)) ?_ (fun w hSw => by (try dsimp only at hSw); clear hSw; go_simp)
  try simp only [Act.put, pu1, pu2, pu3]
  refine tk6 (.pointer (some ⟨y.bT, i * 3, none⟩)) ?_ (fun w hSw => by (try dsimp only at hSw); clear hSw; go_simp)
  try simp only [Act.put, pu1, pu2, pu3]
  refine tk7 (.pointer (some ⟨y.bT, i * 3 + 2, none⟩)) ?_ (fun w hSw => by (try dsimp only at hSw); clear hSw; go_simp)
  try simp only [Act.put, pu1, pu2, pu3]
  refine rd4_8 (by kernel_rfl) rfl rfl (fun K hK => ?_) (fun K hK => ?_)
  · go_simp
    refine hK.out _ _ ?_ (fun hHeld => ?_)
    · trivial
    clear hK K
    try simp only [Act.put, pu1, pu2, pu3]
    refine cl8 (by kernel_rfl) rfl (fun K hK => ?_)
    go_simp
    refine hK.out _ _ ?_ (fun hHeld => ?_)
    · trivial
    clear hK K
    try simp only [Act.put, pu1, pu2, pu3]
    refine tk9 (.int .i64 ((m : Int) + 1)) ?_ (fun w hSw => by (try dsimp only at hSw); clear hSw; go_simp)
    try simp only [Act.put, pu1, pu2, pu3]
    refine tk10 (.int .i64 (m : Int)) ?_ (fun w hSw => by (try dsimp only at hSw); clear hSw; go_simp; exact wrapI _ (by omega) (by omega))
    try simp only [Act.put, pu1, pu2, pu3]
    refine tk11 (.slice (some ga) m cr) ?_ (fun w hSw => by (try dsimp only at hSw); clear hSw; go_simp; intro hc; omega)
    try simp only [Act.put, pu1, pu2, pu3]
    refine tk12 (.pointer (some ⟨y.bT, i * 3, none⟩)) ?_ (fun w hSw => by (try dsimp only at hSw); clear hSw; go_simp)
    try simp only [Act.put, pu1, pu2, pu3]
    refine tk13 (.pointer (some ⟨y.bT, i * 3 + 2, none⟩)) ?_ (fun w hSw => by (try dsimp only at hSw); clear hSw; go_simp)
    try simp only [Act.put, pu1, pu2, pu3]
    refine cl14 (by kernel_rfl) rfl (fun K hK => ?_)
    go_simp
    refine hK.out _ _ ?_ (fun hHeld => ?_)
    · trivial
    clear hK K
    try simp only [Act.put, pu1, pu2, pu3]
    refine wpAnyH_done (by kernel_rfl) ?_ _
    obtain ⟨ro7, h7', k7'⟩ := HE9.out
    have h7 : Hid _ := h7'
    have k7 : Hid _ := k7'
    clear h7' k7'
    go_wp2
    go_loopw [12, 64] (fun _ j wr => ∃ (kk : Nat) (P1 : List Pk) (fR1 fB1 : Nat → Bool), kk ≤ (freeA (obG L k num) (i : Int) (8, num, x3)).1.length ∧ j = .int .i64 (kk : Int) ∧ Hid (PkAt wr base ro7 y TV7 od2 P1 fR1 fB1 (obPut L k num (freeA (obG L k num) (i : Int) (8, num, x3)).2.2)) ∧ Hid (wk (P.set i { P[i] with runs := P[i].runs.dropLast }) fR fB (freeA (obG L k num) (i : Int) (8, num, x3)).1 = wk P1 fR1 fB1 ((freeA (obG L k num) (i : Int) (8, num, x3)).1.drop kk)) ∧ Hid (WkOk P1 fR1 fB1 ((freeA (obG L k num) (i : Int) (8, num, x3)).1.drop kk)) ∧ Hid (∀ bk off n cap, 0 < n → Value.slice au (freeA (obG L k num) (i : Int) (8, num, x3)).1.length cu = .slice (some ⟨bk, off, none⟩) n cap → wr.heap[bk]? = w3.heap[bk]?) ∧ Hid (Kept (w9.setCell ⟨y.bT, i * 3 + 2, none⟩ (.slice (some ga) m cr)) wr (fun b => ro7 b ≠ none) (fun b => ro7 b ≠ none))) (fun _ j _ => (freeA (obG L k num) (i : Int) (8, num, x3)).1.length - (RowKit.intOf j).toNat)
    case atStart => exact ⟨0, (P.set i { P[i] with runs := P[i].runs.dropLast }), fR, fB, Nat.zero_le _, rfl, h7, by show _ = _; rfl, HWK, HB7, Kept.refl _ _⟩
    case round =>
      obtain ⟨kk, P1, fR1, fB1, hkk, rfl, hP, HW, HO, HB, hKe⟩ := hrel
      by_cases hkl : kk < (freeA (obG L k num) (i : Int) (8, num, x3)).1.length
      · have q0 : decide ((kk : Int) < ((freeA (obG L k num) (i : Int) (8, num, x3)).1.length : Int)) = true := decide_eq_true (by omega)
        obtain ⟨bk, ofl, cp, e, _, hbk, hx⟩ := r3.out.cells intC_len (by omega)
        simp only [Value.slice.injEq] at e
        obtain ⟨rfl, _, rfl⟩ := e
        have hdr := List.drop_eq_getElem_cons hkl
        have HO2 := HO.out
        rw [hdr] at HO2
        obtain ⟨n, hne, hnP, hn1, hn2, hn3, hn4⟩ := HO2.ok _ (List.mem_cons_self)
        rw [hne] at HO2
        have HW2 := HW.out
        rw [hdr, hne, wk_cons hnP] at HW2
        have z7' : w3.cell? ⟨bk, ofl + kk, none⟩ = some (.int .i64 (n : Int)) := by
          have := hx kk hkl 0 _ (by decide) rfl
          rw [Nat.mul_one, hne] at this
          exact this
        have hBk := HB.out bk ofl _ _ (by omega) rfl
        have z7 : wr.cell? ⟨bk, ofl + kk, none⟩ = some (.int .i64 (n : Int)) := (World.cell?_of_block (a := ⟨bk, ofl + kk, none⟩) hBk).trans z7'
        have HT2 : Hid _ := HO2.tail hnP (pastP P1[n].ops P1[n].pos)
        have HWE : Hid _ := HW2
        have hnp : P1.length ≤ 65536 := Nat.le_trans hP.out.zR.1 hP.out.zR.2
        obtain ⟨a0, a1, a2, a3, hDw⟩ := hP.out.cells
        have hlv := pk_leaveB hP.out n hnP hn1
        have HNP : Hid (n < P1.length) := hnP
        have HPST : Hid (∀ w5, PkAt w5 base ro7 y TV7 od2 P1 fR1 (setF fB1 n false) (obPut L k num (freeA (obG L k num) (i : Int) (8, num, x3)).2.2) → Calls Try.prog 61 #[.pointer (some ⟨y.bT, n * 3, none⟩)] w5 fun e w' => e = .returned (.int .i64 (pastP P1[n].ops P1[n].pos : Int)) ∧ w5 = w') := fun w5 h9 => pk_past h9 n hnP hn3 hn4
        have HGO : Hid (∀ w5, PkAt w5 base ro7 y TV7 od2 P1 fR1 (setF fB1 n false) (obPut L k num (freeA (obG L k num) (i : Int) (8, num, x3)).2.2) → Calls Try.prog 29 #[.pointer (some ⟨y.D, 0, none⟩), .int .i64 (n : Int), .int .i64 (pastP P1[n].ops P1[n].pos : Int)] w5 fun e w' => e = .returned (.tuple #[]) ∧ PkAt w' base ro7 y TV7 od2 (P1.set n { P1[n] with pos := pastP P1[n].ops P1[n].pos }) (goF P1[n].ops.length fR1 n (pastP P1[n].ops P1[n].pos)) (setF fB1 n false) (obPut L k num (freeA (obG L k num) (i : Int) (8, num, x3)).2.2) ∧ Kept w5 w' (fun b => ro7 b ≠ none) (fun b => ro7 b ≠ none) ∧ Kept w5 w' (fun b => b = y.bT ∨ b = y.bR) (fun b => b = y.bT ∨ b = y.bR)) := fun w5 h9 => pk_goToK h9 n hnP _ hn2
        have HBN : Hid (∀ w5 w6, Kept wr w5 (· = y.bB) (· = y.bB) → Kept w5 w6 (fun b => b = y.bT ∨ b = y.bR) (fun b => b = y.bT ∨ b = y.bR) → ∀ b2 o2 n2 c2, 0 < n2 → Value.slice (some ⟨bk, ofl, none⟩) (freeA (obG L k num) (i : Int) (8, num, x3)).1.length cu = .slice (some ⟨b2, o2, none⟩) n2 c2 → w6.heap[b2]? = w3.heap[b2]?) := fun w5 w6 k5 k6 b2 o2 n2 c2 h0 e2 => by
          simp only [Value.slice.injEq, Option.some.injEq, Addr.mk.injEq] at e2
          obtain ⟨⟨e3, _, _⟩, _, _⟩ := e2
          have hno : ∀ κ, ro4 bk = some κ → κ = (3, obFind L k num) := n4.out bk ofl _ cu (by omega) rfl
          have hcls : ∀ c, ro4 bk ≠ some (0, c) := fun c e => by have := hno _ e; simp at this
          have hlt : bk < wr.heap.size := Nat.lt_of_lt_of_le hbk (Nat.le_trans HSZ.out hKe.out.size)
          rw [← e3, k6.kept bk (Nat.lt_of_lt_of_le hlt k5.size) (fun e => by
            rcases e with e | e
            · exact hcls 1 (by rw [e]; exact h4.out.s1)
            · exact hcls 3 (by rw [e]; exact h4.out.s3)), k5.kept bk hlt (fun e => hcls 4 (by rw [e]; exact h4.out.s4)), hBk]
        clear hx hdr hne hn1 hn2 hn3 hn4 z7' HO2 HW2 HW HO HB hBk
        go_wp2_with (first
          | (go_at_call 29; refine (HGO.out w5 h5.out).mono ?_; rintro e w6 ⟨rfl, h6', k6', j6'⟩; have h6 : Hid _ := h6'; have k6 : Hid _ := k6'; have j6 : Hid _ := j6'; clear h6' k6' j6')
          | (go_at_call 61; refine (HPST.out w5 h5.out).mono ?_; rintro e w8 ⟨rfl, rfl⟩)
          | (go_at_call 31; refine hlv.mono ?_; rintro e w5 ⟨rfl, h5', k5', j5'⟩; have h5 : Hid _ := h5'; have k5 : Hid _ := k5'; have j5 : Hid _ := j5'; clear h5' k5' j5'; obtain ⟨d0, d1, d2, d3, hDv⟩ := h5.out.cells))
        go_roundw
        case rel => exact ⟨kk + 1, _, _, _, hkl, by go_num, h6, HWE, HT2, HBN.out w5 w6 j5.out j6.out, hKe.out.trans (k5.out.trans k6.out)⟩
        case measure => simp [RowKit.intOf]; omega
      · have q0 : decide ((kk : Int) < ((freeA (obG L k num) (i : Int) (8, num, x3)).1.length : Int)) = false := decide_eq_false (by omega)
        have HF : Hid (P1 = (wk (P.set i { P[i] with runs := P[i].runs.dropLast }) fR fB (freeA (obG L k num) (i : Int) (8, num, x3)).1).1 ∧ fR1 = (wk (P.set i { P[i] with runs := P[i].runs.dropLast }) fR fB (freeA (obG L k num) (i : Int) (8, num, x3)).1).2.1 ∧ fB1 = (wk (P.set i { P[i] with runs := P[i].runs.dropLast }) fR fB (freeA (obG L k num) (i : Int) (8, num, x3)).1).2.2) := by
          have h9 := HW.out
          rw [List.drop_of_length_le (by omega)] at h9
          rw [h9]
          exact ⟨rfl, rfl, rfl⟩
        go_wp2
        go_ret
        refine ⟨rfl, ro7, ⟨TV7, od2, ?_⟩, (Kept.of B1.out).trans (k2.out.trans (k4.out.trans (K9.out.trans (k7.out.trans hKe.out))))⟩
        obtain ⟨e1, e2, e3⟩ := HF.out
        have h9 := hP.out
        rw [e1, e2, e3] at h9
        exact h9
  · go_simp
    refine hK.out _ _ ?_ (fun hHeld => ?_)
    · trivial
    clear hK K
    try simp only [Act.put, pu1, pu2, pu3]
    refine tk9 (.int .i64 ((m : Int) + 1)) ?_ (fun w hSw => by (try dsimp only at hSw); clear hSw; go_simp)
    try simp only [Act.put, pu1, pu2, pu3]
    refine tk10 (.int .i64 (m : Int)) ?_ (fun w hSw => by (try dsimp only at hSw); clear hSw; go_simp; exact wrapI _ (by omega) (by omega))
    try simp only [Act.put, pu1, pu2, pu3]
    refine cl4 (by kernel_rfl) rfl (fun K hK => ?_)
    go_simp
    refine hK.out _ _ ?_ (fun hHeld => ?_)
    · trivial
    clear hK K
    try simp only [Act.put, pu1, pu2, pu3]
    refine tk11 (.slice (some ga) m cr) ?_ (fun w hSw => by (try dsimp only at hSw); clear hSw; go_simp; intro hc; omega)
    try simp only [Act.put, pu1, pu2, pu3]
    refine tk12 (.pointer (some ⟨y.bT, i * 3, none⟩)) ?_ (fun w hSw => by (try dsimp only at hSw); clear hSw; go_simp)
    try simp only [Act.put, pu1, pu2, pu3]
    refine tk13 (.pointer (some ⟨y.bT, i * 3 + 2, none⟩)) ?_ (fun w hSw => by (try dsimp only at hSw); clear hSw; go_simp)
    try simp only [Act.put, pu1, pu2, pu3]
    refine cl14 (by kernel_rfl) rfl (fun K hK => ?_)
    go_simp
    refine hK.out _ _ ?_ (fun hHeld => ?_)
    · trivial
    clear hK K
    try simp only [Act.put, pu1, pu2, pu3]
    refine wpAnyH_done (by kernel_rfl) ?_ _
    obtain ⟨ro7, h7', k7'⟩ := HE9.out
    have h7 : Hid _ := h7'
    have k7 : Hid _ := k7'
    clear h7' k7'
    go_wp2
    go_loopw [12, 64] (fun _ j wr => ∃ (kk : Nat) (P1 : List Pk) (fR1 fB1 : Nat → Bool), kk ≤ (freeA (obG L k num) (i : Int) (8, num, x3)).1.length ∧ j = .int .i64 (kk : Int) ∧ Hid (PkAt wr base ro7 y TV7 od2 P1 fR1 fB1 (obPut L k num (freeA (obG L k num) (i : Int) (8, num, x3)).2.2)) ∧ Hid (wk (P.set i { P[i] with runs := P[i].runs.dropLast }) fR fB (freeA (obG L k num) (i : Int) (8, num, x3)).1 = wk P1 fR1 fB1 ((freeA (obG L k num) (i : Int) (8, num, x3)).1.drop kk)) ∧ Hid (WkOk P1 fR1 fB1 ((freeA (obG L k num) (i : Int) (8, num, x3)).1.drop kk)) ∧ Hid (∀ bk off n cap, 0 < n → Value.slice au (freeA (obG L k num) (i : Int) (8, num, x3)).1.length cu = .slice (some ⟨bk, off, none⟩) n cap → wr.heap[bk]? = w3.heap[bk]?) ∧ Hid (Kept (w9.setCell ⟨y.bT, i * 3 + 2, none⟩ (.slice (some ga) m cr)) wr (fun b => ro7 b ≠ none) (fun b => ro7 b ≠ none))) (fun _ j _ => (freeA (obG L k num) (i : Int) (8, num, x3)).1.length - (RowKit.intOf j).toNat)
    case atStart => exact ⟨0, (P.set i { P[i] with runs := P[i].runs.dropLast }), fR, fB, Nat.zero_le _, rfl, h7, by show _ = _; rfl, HWK, HB7, Kept.refl _ _⟩
    case round =>
      obtain ⟨kk, P1, fR1, fB1, hkk, rfl, hP, HW, HO, HB, hKe⟩ := hrel
      by_cases hkl : kk < (freeA (obG L k num) (i : Int) (8, num, x3)).1.length
      · have q0 : decide ((kk : Int) < ((freeA (obG L k num) (i : Int) (8, num, x3)).1.length : Int)) = true := decide_eq_true (by omega)
        obtain ⟨bk, ofl, cp, e, _, hbk, hx⟩ := r3.out.cells intC_len (by omega)
        simp only [Value.slice.injEq] at e
        obtain ⟨rfl, _, rfl⟩ := e
        have hdr := List.drop_eq_getElem_cons hkl
        have HO2 := HO.out
        rw [hdr] at HO2
        obtain ⟨n, hne, hnP, hn1, hn2, hn3, hn4⟩ := HO2.ok _ (List.mem_cons_self)
        rw [hne] at HO2
        have HW2 := HW.out
        rw [hdr, hne, wk_cons hnP] at HW2
        have z7' : w3.cell? ⟨bk, ofl + kk, none⟩ = some (.int .i64 (n : Int)) := by
          have := hx kk hkl 0 _ (by decide) rfl
          rw [Nat.mul_one, hne] at this
          exact this
        have hBk := HB.out bk ofl _ _ (by omega) rfl
        have z7 : wr.cell? ⟨bk, ofl + kk, none⟩ = some (.int .i64 (n : Int)) := (World.cell?_of_block (a := ⟨bk, ofl + kk, none⟩) hBk).trans z7'
        have HT2 : Hid _ := HO2.tail hnP (pastP P1[n].ops P1[n].pos)
        have HWE : Hid _ := HW2
        have hnp : P1.length ≤ 65536 := Nat.le_trans hP.out.zR.1 hP.out.zR.2
        obtain ⟨a0, a1, a2, a3, hDw⟩ := hP.out.cells
        have hlv := pk_leaveB hP.out n hnP hn1
        have HNP : Hid (n < P1.length) := hnP
        have HPST : Hid (∀ w5, PkAt w5 base ro7 y TV7 od2 P1 fR1 (setF fB1 n false) (obPut L k num (freeA (obG L k num) (i : Int) (8, num, x3)).2.2) → Calls Try.prog 61 #[.pointer (some ⟨y.bT, n * 3, none⟩)] w5 fun e w' => e = .returned (.int .i64 (pastP P1[n].ops P1[n].pos : Int)) ∧ w5 = w') := fun w5 h9 => pk_past h9 n hnP hn3 hn4
        have HGO : Hid (∀ w5, PkAt w5 base ro7 y TV7 od2 P1 fR1 (setF fB1 n false) (obPut L k num (freeA (obG L k num) (i : Int) (8, num, x3)).2.2) → Calls Try.prog 29 #[.pointer (some ⟨y.D, 0, none⟩), .int .i64 (n : Int), .int .i64 (pastP P1[n].ops P1[n].pos : Int)] w5 fun e w' => e = .returned (.tuple #[]) ∧ PkAt w' base ro7 y TV7 od2 (P1.set n { P1[n] with pos := pastP P1[n].ops P1[n].pos }) (goF P1[n].ops.length fR1 n (pastP P1[n].ops P1[n].pos)) (setF fB1 n false) (obPut L k num (freeA (obG L k num) (i : Int) (8, num, x3)).2.2) ∧ Kept w5 w' (fun b => ro7 b ≠ none) (fun b => ro7 b ≠ none) ∧ Kept w5 w' (fun b => b = y.bT ∨ b = y.bR) (fun b => b = y.bT ∨ b = y.bR)) := fun w5 h9 => pk_goToK h9 n hnP _ hn2
        have HBN : Hid (∀ w5 w6, Kept wr w5 (· = y.bB) (· = y.bB) → Kept w5 w6 (fun b => b = y.bT ∨ b = y.bR) (fun b => b = y.bT ∨ b = y.bR) → ∀ b2 o2 n2 c2, 0 < n2 → Value.slice (some ⟨bk, ofl, none⟩) (freeA (obG L k num) (i : Int) (8, num, x3)).1.length cu = .slice (some ⟨b2, o2, none⟩) n2 c2 → w6.heap[b2]? = w3.heap[b2]?) := fun w5 w6 k5 k6 b2 o2 n2 c2 h0 e2 => by
          simp only [Value.slice.injEq, Option.some.injEq, Addr.mk.injEq] at e2
          obtain ⟨⟨e3, _, _⟩, _, _⟩ := e2
          have hno : ∀ κ, ro4 bk = some κ → κ = (3, obFind L k num) := n4.out bk ofl _ cu (by omega) rfl
          have hcls : ∀ c, ro4 bk ≠ some (0, c) := fun c e => by have := hno _ e; simp at this
          have hlt : bk < wr.heap.size := Nat.lt_of_lt_of_le hbk (Nat.le_trans HSZ.out hKe.out.size)
          rw [← e3, k6.kept bk (Nat.lt_of_lt_of_le hlt k5.size) (fun e => by
            rcases e with e | e
            · exact hcls 1 (by rw [e]; exact h4.out.s1)
            · exact hcls 3 (by rw [e]; exact h4.out.s3)), k5.kept bk hlt (fun e => hcls 4 (by rw [e]; exact h4.out.s4)), hBk]
        clear hx hdr hne hn1 hn2 hn3 hn4 z7' HO2 HW2 HW HO HB hBk
        go_wp2_with (first
          | (go_at_call 29; refine (HGO.out w5 h5.out).mono ?_; rintro e w6 ⟨rfl, h6', k6', j6'⟩; have h6 : Hid _ := h6'; have k6 : Hid _ := k6'; have j6 : Hid _ := j6'; clear h6' k6' j6')
          | (go_at_call 61; refine (HPST.out w5 h5.out).mono ?_; rintro e w8 ⟨rfl, rfl⟩)
          | (go_at_call 31; refine hlv.mono ?_; rintro e w5 ⟨rfl, h5', k5', j5'⟩; have h5 : Hid _ := h5'; have k5 : Hid _ := k5'; have j5 : Hid _ := j5'; clear h5' k5' j5'; obtain ⟨d0, d1, d2, d3, hDv⟩ := h5.out.cells))
        go_roundw
        case rel => exact ⟨kk + 1, _, _, _, hkl, by go_num, h6, HWE, HT2, HBN.out w5 w6 j5.out j6.out, hKe.out.trans (k5.out.trans k6.out)⟩
        case measure => simp [RowKit.intOf]; omega
      · have q0 : decide ((kk : Int) < ((freeA (obG L k num) (i : Int) (8, num, x3)).1.length : Int)) = false := decide_eq_false (by omega)
        have HF : Hid (P1 = (wk (P.set i { P[i] with runs := P[i].runs.dropLast }) fR fB (freeA (obG L k num) (i : Int) (8, num, x3)).1).1 ∧ fR1 = (wk (P.set i { P[i] with runs := P[i].runs.dropLast }) fR fB (freeA (obG L k num) (i : Int) (8, num, x3)).1).2.1 ∧ fB1 = (wk (P.set i { P[i] with runs := P[i].runs.dropLast }) fR fB (freeA (obG L k num) (i : Int) (8, num, x3)).1).2.2) := by
          have h9 := HW.out
          rw [List.drop_of_length_le (by omega)] at h9
          rw [h9]
          exact ⟨rfl, rfl, rfl⟩
        go_wp2
        go_ret
        refine ⟨rfl, ro7, ⟨TV7, od2, ?_⟩, (Kept.of B1.out).trans (k2.out.trans (k4.out.trans (K9.out.trans (k7.out.trans hKe.out))))⟩
        obtain ⟨e1, e2, e3⟩ := HF.out
        have h9 := hP.out
        rw [e1, e2, e3] at h9
        exact h9
end
end Go.Proofs.Ythhlglbohibekaa
