/-
  ClocksPlays of layer 7, walked: any deeds on the program's clocks and on the document's: each answer, each clock. The conditions: the slice of deeds lies in memory as its reading says, and no deed has more than 17592186043904 numbers.
-/
import Derived.Test.YtcecgphjaofgbaaCkAwake
namespace Go.Proofs.Ytcecgphjaofgbaa
open Go.RowKit

abbrev KD : TypeId := 29
/-- A deed: set or go, three numbers, a slice of numbers and what it holds. -/
structure Kd where
  st : Bool
  R : Int
  N : Int
  A : Int
  v : Value
  bs : List Int
def kdL (d : Kd) : Array Value := #[.bool d.st, .int .i64 d.R, .int .i64 d.N, .int .i64 d.A, d.v]
/-- A row of numbers that came in: nil, or in a block ahead of B. -/
def InAt (w : World) (B : Nat) (v : Value) (bs : List Int) : Prop := (v = .slice none 0 0 ∧ bs = []) ∨ ∃ x cap, v = .slice (some x) bs.length cap ∧ bs.length ≤ cap ∧ (bs.length = 0 ∨ ∃ bk off, x = ⟨bk, off, none⟩ ∧ bk < B ∧ ∀ j (hj : j < bs.length), w.cell? ⟨bk, off + j, none⟩ = some (.int .i64 bs[j]))
theorem InAt.below {w w' : World} {B : Nat} {v : Value} {bs : List Int} (h : InAt w B v bs) (k : Below B w w') : InAt w' B v bs := by
  rcases h with h | ⟨x, cap, h1, h2, h5⟩
  · exact Or.inl h
  · rcases h5 with h5 | ⟨bk, off, h0, h3, h4⟩
    · exact Or.inr ⟨x, cap, h1, h2, Or.inl h5⟩
    · exact Or.inr ⟨x, cap, h1, h2, Or.inr ⟨bk, off, h0, h3, fun j hj => (k.cell (by exact h3)).trans (h4 j hj)⟩⟩
theorem InAt.ints {w : World} {B : Nat} {v : Value} {bs : List Int} (h : InAt w B v bs) (hB : B ≤ w.heap.size) (hl : bs.length ≤ 17592186043904) (hlo : ∀ x ∈ bs, -9223372036854775808 ≤ x ∧ x ≤ 9223372036854775807) : IntsAt w v bs := by
  refine ⟨?_, hlo, by unfold maxLen; omega⟩
  rcases h with ⟨rfl, rfl⟩ | ⟨x, cap, rfl, h2, h5⟩
  · exact ⟨none, 0, rfl, Nat.le_refl _, Or.inl rfl⟩
  · rcases h5 with h5 | ⟨bk, off, rfl, h3, h4⟩
    · exact ⟨_, _, rfl, h2, Or.inl h5⟩
    · exact ⟨_, _, rfl, h2, Or.inr ⟨bk, off, rfl, by omega, h4⟩⟩
def setZ (l : List Nat) (n x : Int) : Int := if setOk l n x then 0 else 1
def setL (l : List Nat) (n x : Int) : List Nat := if setOk l n x then l.set n.toNat x.toNat else l
def goL2 (l : List Nat) (real : Nat) (dr : Int) (bs : List Int) : List Nat := if goZ l real dr bs = 0 then goL l bs l.length else l
def goR2 (l : List Nat) (real : Nat) (dr : Int) (bs : List Int) : Nat := if goZ l real dr bs = 0 then real + dr.toNat else real
theorem GoPost.two {T : TypeId} {w w' : World} {base D : Nat} {S : Nat → Prop} {l : List Nat} {real : Nat} {dr : Int} {bs : List Int} (h : GoPost T w w' base D S l real dr bs) : CkAt T w' base D S (goL2 l real dr bs) (goR2 l real dr bs) ∧ Kept w w' S S := by
  unfold goL2 goR2
  by_cases e : goZ l real dr bs = 0
  · rw [if_pos e, if_pos e]
    exact ⟨h.1 e, h.2.2⟩
  · rw [if_neg e, if_neg e]
    exact ⟨h.2.1 e, h.2.2⟩
/-- Both, and a deed in its box. -/
structure DK (w : World) (B Dx Dy : Nat) (Sx Sy : Nat → Prop) (lx : List Nat) (rx : Nat) (ly : List Nat) (ry : Nat) (b : Nat) (d : Kd) : Prop where
  x : CkAt PT w B Dx Sx lx rx
  y : CkAt RT w B Dy Sy ly ry
  dj : ∀ i, Sx i → ¬ Sy i
  bx : w.heap[b]? = some (.cells (kdL d) KD (0, 0))
  nx : ¬ Sx b
  ny : ¬ Sy b
section
variable {w w' : World} {B Dx Dy b rx ry r' : Nat} {Sx Sy : Nat → Prop} {lx ly l' : List Nat} {d : Kd}
theorem DK.goX (h : DK w B Dx Dy Sx Sy lx rx ly ry b d) (hn : CkAt PT w' B Dx Sx l' r') (k : Kept w w' Sx Sx) : DK w' B Dx Dy Sx Sy l' r' ly ry b d :=
  ⟨hn, h.y.keep k.size (fun i hi => k.kept i (h.y.bd i hi).2 (fun hx => h.dj i hx hi)), h.dj, (k.kept b (lt_of_block h.bx) h.nx).trans h.bx, h.nx, h.ny⟩
theorem DK.goY (h : DK w B Dx Dy Sx Sy lx rx ly ry b d) (hn : CkAt RT w' B Dy Sy l' r') (k : Kept w w' Sy Sy) : DK w' B Dx Dy Sx Sy lx rx l' r' b d :=
  ⟨h.x.keep k.size (fun i hi => k.kept i (h.x.bd i hi).2 (h.dj i hi)), hn, h.dj, (k.kept b (lt_of_block h.bx) h.ny).trans h.bx, h.nx, h.ny⟩
theorem DK.fresh (h : DK w B Dx Dy Sx Sy lx rx ly ry b d) (k : Below w.heap.size w w') : DK w' B Dx Dy Sx Sy lx rx ly ry b d := ⟨h.x.fresh k, h.y.fresh k, h.dj, (k.block b (lt_of_block h.bx)).trans h.bx, h.nx, h.ny⟩
theorem DK.drew (h : DK w B Dx Dy Sx Sy lx rx ly ry b d) : DK w.drew B Dx Dy Sx Sy lx rx ly ry b d := h.fresh ⟨rfl, rfl, rfl, Nat.le_refl _, fun _ _ => rfl⟩
theorem DK.c0 (h : DK w B Dx Dy Sx Sy lx rx ly ry b d) : w.cell? ⟨b, 0, none⟩ = some (.bool d.st) := by simp [World.cell?, h.bx, kdL]
theorem DK.c1 (h : DK w B Dx Dy Sx Sy lx rx ly ry b d) : w.cell? ⟨b, 1, none⟩ = some (.int .i64 d.R) := by simp [World.cell?, h.bx, kdL]
theorem DK.c2 (h : DK w B Dx Dy Sx Sy lx rx ly ry b d) : w.cell? ⟨b, 2, none⟩ = some (.int .i64 d.N) := by simp [World.cell?, h.bx, kdL]
theorem DK.c3 (h : DK w B Dx Dy Sx Sy lx rx ly ry b d) : w.cell? ⟨b, 3, none⟩ = some (.int .i64 d.A) := by simp [World.cell?, h.bx, kdL]
theorem DK.c4 (h : DK w B Dx Dy Sx Sy lx rx ly ry b d) : w.cell? ⟨b, 4, none⟩ = some d.v := by simp [World.cell?, h.bx, kdL]
theorem set_nats {l : List Nat} {n x : Int} (h : setOk l n x) : ∃ m y : Nat, n = (m : Int) ∧ x = (y : Int) ∧ m < l.length ∧ y ≤ 1099511627776 := by
  unfold setOk at h
  exact ⟨n.toNat, x.toNat, by omega, by omega, by omega, by omega⟩
theorem DK.setX (h : DK w B Dx Dy Sx Sy lx rx ly ry b d) : Calls Try.prog 10 #[.pointer (some ⟨Dx, 0, none⟩), .int .i64 d.N, .int .i64 d.A] w fun e w' => e = .returned (.int .i64 (setZ lx d.N d.A)) ∧ DK w' B Dx Dy Sx Sy (setL lx d.N d.A) rx ly ry b d ∧ Below B w w' := by
  unfold setZ setL
  by_cases hs : setOk lx d.N d.A
  · rw [if_pos hs, if_pos hs]
    obtain ⟨m, y, e1, e2, h1, h2⟩ := set_nats hs
    rw [e1, e2, Int.toNat_natCast, Int.toNat_natCast]
    exact (pset_yes h.x m y h1 h2).mono fun _ _ ⟨g1, g2, g3⟩ => ⟨g1, h.goX g2 g3, h.x.below g3⟩
  · rw [if_neg hs, if_neg hs]
    exact (pset_no h.x d.N d.A hs).mono fun _ _ ⟨g1, g2⟩ => ⟨g1, by rw [← g2]; exact h, by rw [← g2]; exact Below.refl _ _⟩
theorem DK.setY (h : DK w B Dx Dy Sx Sy lx rx ly ry b d) : Calls Try.prog 11 #[.pointer (some ⟨Dy, 0, none⟩), .int .i64 d.N, .int .i64 d.A] w fun e w' => e = .returned (.int .i64 (setZ ly d.N d.A)) ∧ DK w' B Dx Dy Sx Sy lx rx (setL ly d.N d.A) ry b d ∧ Below B w w' := by
  unfold setZ setL
  by_cases hs : setOk ly d.N d.A
  · rw [if_pos hs, if_pos hs]
    obtain ⟨m, y, e1, e2, h1, h2⟩ := set_nats hs
    rw [e1, e2, Int.toNat_natCast, Int.toNat_natCast]
    exact (rset_yes h.y m y h1 h2).mono fun _ _ ⟨g1, g2, g3⟩ => ⟨g1, h.goY g2 g3, h.y.below g3⟩
  · rw [if_neg hs, if_neg hs]
    exact (rset_no h.y d.N d.A hs).mono fun _ _ ⟨g1, g2⟩ => ⟨g1, by rw [← g2]; exact h, by rw [← g2]; exact Below.refl _ _⟩
theorem DK.goXc (h : DK w B Dx Dy Sx Sy lx rx ly ry b d) (hd : d.R ≤ 9223372036854775807) (u : Value) (hu : IntsAt w u d.bs) (hS : ∀ a bk off n cap, 0 < n → u = .slice a n cap → a = some ⟨bk, off, none⟩ → ¬ Sx bk) : Calls Try.prog 12 #[.pointer (some ⟨Dx, 0, none⟩), .int .i64 d.R, u] w fun e w' => e = .returned (.int .i64 (goZ lx rx d.R d.bs)) ∧ DK w' B Dx Dy Sx Sy (goL2 lx rx d.R d.bs) (goR2 lx rx d.R d.bs) ly ry b d ∧ Below B w w' :=
  (pgo_any h.x d.R hd u d.bs hu hS).mono fun _ _ ⟨g1, g2⟩ => ⟨g1, h.goX g2.two.1 g2.two.2, h.x.below g2.two.2⟩
theorem DK.goYc (h : DK w B Dx Dy Sx Sy lx rx ly ry b d) (hd : d.R ≤ 9223372036854775807) (hu : IntsAt w d.v d.bs) (hS : ∀ a bk off n cap, 0 < n → d.v = .slice a n cap → a = some ⟨bk, off, none⟩ → ¬ Sy bk) : Calls Try.prog 13 #[.pointer (some ⟨Dy, 0, none⟩), .int .i64 d.R, d.v] w fun e w' => e = .returned (.int .i64 (goZ ly ry d.R d.bs)) ∧ DK w' B Dx Dy Sx Sy lx rx (goL2 ly ry d.R d.bs) (goR2 ly ry d.R d.bs) b d ∧ Below B w w' :=
  (rgo_any h.y d.R hd d.v d.bs hu hS).mono fun _ _ ⟨g1, g2⟩ => ⟨g1, h.goY g2.two.1 g2.two.2, h.y.below g2.two.2⟩
theorem InAt.far {T : TypeId} {l : List Nat} {r D : Nat} {S : Nat → Prop} {v : Value} {bs : List Int} (h : InAt w B v bs) (hc : CkAt T w B D S l r) : ∀ a bk off n cap, 0 < n → v = .slice a n cap → a = some ⟨bk, off, none⟩ → ¬ S bk := fun a bk off n cap h0 e1 e2 hs => by
  rcases h with ⟨rfl, _⟩ | ⟨x, cap', rfl, _, h5⟩
  · simp only [Value.slice.injEq] at e1
    rw [← e1.1] at e2
    cases e2
  · simp only [Value.slice.injEq] at e1
    rw [← e1.1] at e2
    rcases h5 with h5 | ⟨bk', off', rfl, h3, _⟩
    · omega
    simp only [Option.some.injEq, Addr.mk.injEq] at e2
    have := (hc.bd bk hs).1
    omega
end
def intL (l : List Int) : List Value := l.map (Value.int .i64)
/-- A row of numbers of one's own is a row of numbers to be read. -/
theorem IntsAt.own {w : World} {base : Nat} {v : Value} {l : List Int} (h : w.ownsRow base 3 1 v l.length (intL l)) (hl : l.length ≤ 17592186043904) (hlo : ∀ x ∈ l, -9223372036854775808 ≤ x ∧ x ≤ 9223372036854775807) : IntsAt w v l := by
  refine ⟨?_, hlo, by unfold maxLen; omega⟩
  rcases h.2 with ⟨rfl, h0⟩ | ⟨g, cap, cur, rfl, _, hg, hc, _, _, _⟩
  · exact ⟨none, 0, by rw [h0], by omega, Or.inl h0⟩
  · refine ⟨_, _, rfl, hc, Or.inr ⟨g, 0, rfl, lt_of_block hg, fun j hj => ?_⟩⟩
    have := World.ownsRow.cellAt h j (by omega)
    rw [Nat.zero_add, this]
    unfold intL
    rw [List.getElem?_map, List.getElem?_eq_getElem hj]
    rfl
/-- A copy of the numbers: 'append([]int(nil), l...)'. -/
theorem wp_copy {o : Oper} {a : Act} {w : World} {K : Act → World → Prop} {Q : Exit → Act → World → Prop} (x : Operand) (ho : o.op = .call { callee := .builtin .append, args := #[.const (.slice none 0 0), x], argTypes := #[27, 27] }) {B : Nat} {v : Value} {bs : List Int} (hx : a.eval x = v) (hv : InAt w B v bs) (hl : bs.length ≤ 17592186043904) (hlo : ∀ x ∈ bs, -9223372036854775808 ≤ x ∧ x ≤ 9223372036854775807)
    (h : ∀ u w', IntsAt w' u bs → Below w.heap.size w w' → (∀ a bk off n cap, u = .slice a n cap → a = some ⟨bk, off, none⟩ → w.heap.size ≤ bk) → K (a.put o.dst u) w') : o.wp Try.prog a w K Q := by
  obtain ⟨i0, hi, hz0, hz1, hz2⟩ := info_parts infoI
  rcases hv with ⟨rfl, rfl⟩ | ⟨x0, cap, rfl, h2, h5⟩
  · have hrun := run_append_owned_none (P := Try.prog) (w := w) w.heap.size 27 o.type 3 i0 1 Try.underlying27 hi (.slice none 0 0) 0 [] (World.ownsRow_nil _ _ _ _)
    unfold Oper.wp
    have ec : a.eval (.const (.slice none 0 0)) = .slice none 0 0 := rfl
    simp [execOp, ho, resolve, invoke, builtin, hx, ec, hrun, Result.andThen]
    exact h _ w ⟨⟨none, 0, rfl, Nat.le_refl _, Or.inl rfl⟩, fun x hx => (by cases hx), Nat.zero_le _⟩ (Below.refl _ _) (fun a bk off n cap e1 e2 => by
      simp only [Value.slice.injEq] at e1
      rw [← e1.1] at e2
      cases e2)
  · refine wp_append_own w (.const (.slice none 0 0)) x 27 ho w.heap.size 3 i0 _ 1 8 Try.underlying27 hi hz0 hz1 hz2 rfl (by omega) (.slice none 0 0) 0 [] rfl (World.ownsRow_nil _ _ _ _) x0 bs.length cap (intL bs) hx (by unfold intL; simp) (fun j u hu => ?_) (fun u hu => ?_) (by unfold maxLen; omega) (by omega) (Nat.le_refl _) ?_
    · unfold intL at hu
      rw [List.getElem?_map] at hu
      obtain ⟨y, hy, rfl⟩ := Option.map_eq_some_iff.1 hu
      obtain ⟨hj, rfl⟩ := List.getElem?_eq_some_iff.1 hy
      rcases h5 with h5 | ⟨bk, off, rfl, h3, h4⟩
      · omega
      rw [Addr.add_mid]
      exact h4 j hj
    · unfold intL at hu
      obtain ⟨y, _, rfl⟩ := List.mem_map.1 hu
      rfl
    · intro u w' ho' hg _
      have ho2 : w'.ownsRow w.heap.size 3 1 u bs.length (intL bs) := by
        have e : 0 + bs.length = bs.length := by omega
        rw [e] at ho'
        exact ho'
      refine h u w' (IntsAt.own ho2 hl hlo) ((Below.refl _ w).grown hg (Nat.le_refl _) (fun k hk => by simp [Value.ownBlock] at hk)) (fun a bk off n cap e1 e2 => ?_)
      subst e1 e2
      exact (ho2.lt bk rfl).1
end Go.Proofs.Ytcecgphjaofgbaa
