/-
  The document's sessions in memory: their block, their row. No condition.
-/
import Derived.Test.YthokbififjhflaaSeMem
import Derived.Test.YthokbififjhflaaGRow
import Derived.Test.YthokbififjhflaaGCopy
namespace Go.Proofs.Ythokbififjhflaa
open Go.RowKit

def sxC (x : SeX) : List Value := [.int .i64 x.client, .int .i64 x.life, .bool x.op, .int .i64 x.seq, .bool x.said, .int .i64 x.r.session, .int .i64 x.r.seq, .int .i64 x.r.err, .int .u64 x.r.token, .int .i64 x.r.n]
theorem sxC_len (x : SeX) : (sxC x).length = 10 := rfl
theorem sxC_one (x : SeX) : ∀ u ∈ sxC x, u.oneCell' = true := fun u hu => by
  simp only [sxC, List.mem_cons, List.not_mem_nil, or_false] at hu
  rcases hu with rfl | rfl | rfl | rfl | rfl | rfl | rfl | rfl | rfl | rfl <;> rfl
/-- What an answer that is none any more says is left aside. -/
def sxN (x : SeX) : SeX := if x.said = true then x else { x with r := SeR.zero }
theorem sxN_client (x : SeX) : (sxN x).client = x.client := by unfold sxN; split <;> rfl
theorem sxN_life (x : SeX) : (sxN x).life = x.life := by unfold sxN; split <;> rfl
theorem sxN_op (x : SeX) : (sxN x).op = x.op := by unfold sxN; split <;> rfl
theorem sxN_seq (x : SeX) : (sxN x).seq = x.seq := by unfold sxN; split <;> rfl
theorem sxN_said (x : SeX) : (sxN x).said = x.said := by unfold sxN; split <;> rfl
theorem sxN_r {x : SeX} (h : x.said = true) : (sxN x).r = x.r := by unfold sxN; rw [if_pos h]
theorem seAt_map (l : List SeX) (id : Int) : seAt (l.map sxN) id = (seAt l id).map sxN := by
  unfold seAt
  by_cases h : 1 ≤ id
  · rw [if_pos h, if_pos h, List.getElem?_map]
  · rw [if_neg h, if_neg h]
    rfl
theorem seLat_map (l : List SeX) (c : Int) : seLat (l.map sxN) c = seLat l c := by
  unfold seLat
  rw [List.map_map]
  congr 3
  funext x
  exact sxN_client x
theorem seLif_map (l : List SeX) (c : Int) : seLif (l.map sxN) c = seLif l c := by
  rcases seLat_at l c with ⟨h1, _⟩ | ⟨k, x, h1, h2, _⟩
  · rw [seLif_zero h1, seLif_zero (by rw [seLat_map]; exact h1)]
  · rw [seLif_eq h1 h2, seLif_eq (x := sxN x) (by rw [seLat_map]; exact h1) (by rw [List.getElem?_map, h2]; rfl), sxN_life]
theorem seAllN_map (l : List SeX) (n : Nat) : seAllN (l.map sxN) n = seAllN l n := seAllN_congr fun i _ => by
  unfold seOne
  rw [List.getElem?_map]
  cases l[i]? with
  | none => rfl
  | some x =>
    show (if (sxN x).op = true then _ else _) = _
    rw [sxN_op]
theorem rowL_set1 {raw : List SeX} {k j : Nat} {x y : SeX} {u : Value} (hx : raw[k]? = some x) (hj : j < 10) (hy : sxC y = (sxC x).set j u) : (rowL sxC raw).set (k * 10 + j) u = rowL sxC (raw.set k y) := by
  obtain ⟨hk, hv⟩ := List.getElem?_eq_some_iff.1 hx
  apply List.ext_getElem?
  intro i
  rw [List.getElem?_set]
  by_cases hi : i < raw.length * 10
  · have e : i = (i / 10) * 10 + i % 10 := by omega
    have hq : i / 10 < raw.length := by omega
    have hr : i % 10 < 10 := by omega
    have h1 := rowL_at sxC_len raw (i / 10) hq (i % 10) hr
    have h2 := rowL_at sxC_len (raw.set k y) (i / 10) (by rw [List.length_set]; exact hq) (i % 10) hr
    rw [← e] at h1 h2
    rw [h1, h2, List.getElem_set]
    by_cases hkq : k = i / 10
    · rw [if_pos hkq, hy, List.getElem?_set]
      have e3 : raw[i / 10] = x := by subst hkq; exact hv
      rw [e3]
      by_cases hji : j = i % 10
      · rw [if_pos (by omega), if_pos hji, if_pos (by rw [rowL_length sxC_len]; omega), if_pos (by rw [sxC_len]; omega)]
      · rw [if_neg (by omega), if_neg hji]
    · rw [if_neg (by omega), if_neg hkq]
  · have l1 := rowL_length sxC_len raw
    have l2 := rowL_length sxC_len (raw.set k y)
    rw [List.length_set] at l2
    rw [if_neg (by omega), List.getElem?_eq_none (by omega), List.getElem?_eq_none (by omega)]
abbrev sxA (v : Value) (F I : Nat → Int) : Array Value := #[v, .int .i64 (F 0), .int .i64 (I 0), .int .i64 (F 1), .int .i64 (I 1), .int .i64 (F 2), .int .i64 (I 2), .int .i64 (F 3), .int .i64 (I 3), .int .i64 (F 4), .int .i64 (I 4), .int .i64 (F 5), .int .i64 (I 5), .int .i64 (F 6), .int .i64 (I 6), .int .i64 (F 7), .int .i64 (I 7)]
abbrev OwnX (w : World) (base : Nat) (v : Value) (raw : List SeX) : Prop := w.ownsRow base 70 10 v raw.length (rowL sxC raw)
structure SxM (w : World) (base X : Nat) (S : Nat → Prop) (raw : List SeX) (v : Value) (F I : Nat → Int) : Prop where
  blk : w.heap[X]? = some (.cells (sxA v F I) 31 (0, 0))
  own : OwnX w base v raw
  lf : ∀ c : Nat, c < 8 → F c = seLif raw c
  li : ∀ c : Nat, c < 8 → I c = seLat raw c
  lo : base ≤ X
  set : ∀ g, S g ↔ g = X ∨ v.ownBlock = some g
section
variable {w w' : World} {base X : Nat} {S : Nat → Prop} {raw : List SeX} {v : Value} {F I : Nat → Int}
theorem SxM.bd (h : SxM w base X S raw v F I) : ∀ g, S g → base ≤ g ∧ g < w.heap.size := fun g hg => by
  rcases (h.set g).1 hg with rfl | e
  · exact ⟨h.lo, lt_of_block h.blk⟩
  · exact h.own.lt g e
theorem SxM.keep (h : SxM w base X S raw v F I) (hk : ∀ g, S g → w'.heap[g]? = w.heap[g]?) : SxM w' base X S raw v F I :=
  ⟨(hk X ((h.set X).2 (Or.inl rfl))).trans h.blk, own_keep h.own fun g e => hk g ((h.set g).2 (Or.inr e)), h.lf, h.li, h.lo, h.set⟩
theorem SxM.cell (h : SxM w base X S raw v F I) (i : Nat) (u : Value) (hu : (sxA v F I)[i]? = some u) : w.cell? ⟨X, i, none⟩ = some u := by
  simp only [World.cell?, h.blk]
  simpa using hu
theorem SxM.fz (h : SxM w base X S raw v F I) (i : Nat) : w.frozen? ⟨X, i, none⟩ = false := by simp [World.frozen?, h.blk]
theorem SxM.cellF (h : SxM w base X S raw v F I) (c : Nat) (hc : c < 8) : w.cell? ⟨X, 1 + c * 2, none⟩ = some (.int .i64 (seLif raw c)) ∧ w.cell? ⟨X, 1 + c * 2 + 1, none⟩ = some (.int .i64 (seLat raw c : Int)) := by
  rw [← h.lf c hc, ← h.li c hc]
  rcases (by omega : c = 0 ∨ c = 1 ∨ c = 2 ∨ c = 3 ∨ c = 4 ∨ c = 5 ∨ c = 6 ∨ c = 7) with rfl | rfl | rfl | rfl | rfl | rfl | rfl | rfl <;> exact ⟨h.cell _ _ rfl, h.cell _ _ rfl⟩
theorem SxM.ne (h : SxM w base X S raw v F I) : v.ownBlock ≠ some X := own_ne h.own h.blk (by decide)
theorem SxM.form (h : SxM w base X S raw v F I) : ∃ a c, v = .slice a raw.length c := by
  rcases h.own.2 with ⟨rfl, e0⟩ | ⟨g, c, cur, rfl, _⟩
  · exact ⟨_, _, by rw [e0]⟩
  · exact ⟨_, _, rfl⟩
/-- A session in the row. -/
theorem SxM.at (h : SxM w base X S raw v F I) {k : Nat} {x : SeX} (hx : raw[k]? = some x) : ∃ g c, v = .slice (some ⟨g, 0, none⟩) raw.length c ∧ S g ∧ g ≠ X ∧ raw.length ≤ c ∧ (∀ (j : Nat) (u : Value), (sxC x)[j]? = some u → w.cell? ⟨g, k * 10 + j, none⟩ = some u) ∧ ∀ j, w.frozen? ⟨g, j, none⟩ = false := by
  obtain ⟨hk, hv⟩ := List.getElem?_eq_some_iff.1 hx
  rcases h.own.2 with ⟨rfl, e0⟩ | ⟨g, c, cur, rfl, h2, h3, h4, h5, h6, h7⟩
  · omega
  · have hgX : g ≠ X := fun e => h.ne (by rw [← e]; rfl)
    refine ⟨g, c, rfl, (h.set g).2 (Or.inr rfl), hgX, h4, fun j u hu => ?_, fun j => by simp [World.frozen?, h3]⟩
    have hj : j < 10 := by have := (List.getElem?_eq_some_iff.1 hu).1; rw [sxC_len] at this; exact this
    have hx2 := h.own.cells (g := g) rfl (k * 10 + j) u (by rw [rowL_at sxC_len raw k hk j hj, hv]; exact hu)
    have e : (⟨g, 0, none⟩ : Addr).add (k * 10 + j) = ⟨g, k * 10 + j, none⟩ := by unfold Addr.add; split <;> simp_all
    rwa [e] at hx2
/-- A cell of it set. -/
theorem SxM.setc {g c : Nat} (h : SxM w base X S raw (.slice (some ⟨g, 0, none⟩) raw.length c) F I) {k j : Nat} {x y : SeX} {u : Value} (hx : raw[k]? = some x) (hj : j < 10) (hy : sxC y = (sxC x).set j u) (hc : y.client = x.client) (hf : y.life = x.life) : SxM (w.setCell ⟨g, k * 10 + j, none⟩ u) base X S (raw.set k y) (.slice (some ⟨g, 0, none⟩) (raw.set k y).length c) F I := by
  have hgX : g ≠ X := fun e => h.ne (by rw [← e]; rfl)
  have o := own_cell h.own (k * 10 + j) u
  rw [rowL_set1 hx hj hy] at o
  refine ⟨?_, ?_, fun c hc' => by rw [seLif_set hx hc hf]; exact h.lf c hc', fun c hc' => by rw [seLat_set hx hc]; exact h.li c hc', h.lo, fun b => by rw [h.set b]; rfl⟩
  · rw [List.length_set]
    exact (heap_setCell_other _ _ _ _ (fun e => hgX e.symm)).trans h.blk
  · rw [List.length_set]
    show World.ownsRow _ _ _ _ _ _ _
    rw [List.length_set]
    exact o
theorem SxM.kept {g c : Nat} (h : SxM w base X S raw (.slice (some ⟨g, 0, none⟩) raw.length c) F I) (j : Nat) (u : Value) : Kept w (w.setCell ⟨g, j, none⟩ u) S S :=
  ⟨rfl, rfl, rfl, by simp, fun _ hg => Or.inl hg, fun b _ hn => heap_setCell_other _ _ _ _ (fun e => hn (by rw [e]; exact (h.set g).2 (Or.inr rfl)))⟩
end
/-- The document's sessions as plain data. -/
structure SxAt (w : World) (base X : Nat) (S : Nat → Prop) (l : List SeX) : Prop where
  ex : ∃ raw v F I, SxM w base X S raw v F I ∧ l = raw.map sxN
  ok : SeOk l
  len : l.length ≤ 1000000
section
variable {w w' : World} {base X : Nat} {S : Nat → Prop} {l : List SeX}
theorem SxAt.bd (h : SxAt w base X S l) : ∀ g, S g → base ≤ g ∧ g < w.heap.size := by
  obtain ⟨raw, v, F, I, hM, _⟩ := h.ex
  exact hM.bd
theorem SxAt.keep (h : SxAt w base X S l) (hk : ∀ g, S g → w'.heap[g]? = w.heap[g]?) : SxAt w' base X S l := by
  obtain ⟨raw, v, F, I, hM, e⟩ := h.ex
  exact ⟨⟨raw, v, F, I, hM.keep hk, e⟩, h.ok, h.len⟩
theorem SxAt.fresh (h : SxAt w base X S l) (k : Below w.heap.size w w') : SxAt w' base X S l := h.keep fun g hg => k.block g (h.bd g hg).2
end
end Go.Proofs.Ythokbififjhflaa
