/-
  Parts of the proof, laid together: LoMem, LoFind, LoGiveA, LoGive, LoServeA, LoServe, LoTidy, LoAdd, LoTurn, LoAskA, LoAsk, LoRelA, LoRel, LoGone, LoHold, LoQueue, LoEnc, LoSum, LoWhole, LoLaw. The conditions stand at each part.
-/
import Derived.Deep.QuietTactic
import Derived.BigQuiet
import Derived.Deep.Cut
import Derived.WalkSmall
import Derived.Deep.CutBlock
import Derived.Deep.LoopGhost
import Derived.Deep.DeepCutAuto
import Derived.Test.YtmfadmhbkgemmaaTPackB
import Derived.Test.YtmfadmhbkgemmaaTPack5
import Derived.Test.YtmfadmhbkgemmaaTLoPlain
import Derived.Test.YtmfadmhbkgemmaaTGStore
import Derived.Test.YtmfadmhbkgemmaaTGCopy
/-
  The document's locks in memory: a row of locks, each with rows of its holders and of who waits; the counter. The condition: lists are short, numbers are ints.
-/
namespace Go.Proofs.Ytmfadmhbkgemmaa
open Go.RowKit

/-- A lock with where its two rows lie. -/
structure Lv where
  k : Lk
  ha : Option Addr
  hc : Nat
  qa : Option Addr
  qc : Nat
abbrev Lv.hv (x : Lv) : Value := .slice x.ha x.k.h.length x.hc
section
variable {w w' : World} {base D : Nat} {S P : Nat → Prop} {L : List Lv} {v : Value} {c : Int}
end
section
variable {w w' : World} {base D n : Nat} {S : Nat → Prop} {c : Int} {l : List Lk}
end
end Go.Proofs.Ytmfadmhbkgemmaa
/-
  While a lock is given: the counter's block, the lock's block, the reply at hand. No condition.
-/
namespace Go.Proofs.Ytmfadmhbkgemmaa
open Go.RowKit

abbrev rpT : TypeId := 52
abbrev rpA (r : SeR) : Array Value := #[.int .i64 r.session, .int .i64 r.seq, .int .i64 r.err, .int .u64 r.token, .int .i64 r.n]
def rpC (r : SeR) : List Value := [.int .i64 r.session, .int .i64 r.seq, .int .i64 r.err, .int .u64 r.token, .int .i64 r.n]
theorem rpC_len (r : SeR) : (rpC r).length = 5 := rfl
theorem rpC_one (x : SeR) : ∀ u ∈ rpC x, u.oneCell' = true := fun u hu => by
  simp only [rpC, List.mem_cons, List.not_mem_nil, or_false] at hu
  rcases hu with rfl | rfl | rfl | rfl | rfl <;> rfl
theorem sizeRp : (Try.prog.info? rpT).map (·.size) = some 5 := by kernel_rfl
theorem three_blks (w : World) (o1 o2 o3 : Obj) : (((w.alloc o1).alloc o2).alloc o3).heap[w.heap.size]? = some o1 ∧ (((w.alloc o1).alloc o2).alloc o3).heap[w.heap.size + 1]? = some o2 ∧ (((w.alloc o1).alloc o2).alloc o3).heap[w.heap.size + 2]? = some o3 ∧ (((w.alloc o1).alloc o2).alloc o3).heap.size = w.heap.size + 3 := by
  have s1 : (w.alloc o1).heap.size = w.heap.size + 1 := by simp
  have s2 : ((w.alloc o1).alloc o2).heap.size = w.heap.size + 2 := by simp
  have a1 := heap_alloc_new w o1
  have a2 := heap_alloc_new (w.alloc o1) o2
  have a3 := heap_alloc_new ((w.alloc o1).alloc o2) o3
  rw [s1] at a2
  rw [s2] at a3
  exact ⟨(Below.heap_alloc _ _ _ (by rw [s2]; omega)).trans ((Below.heap_alloc _ _ _ (by rw [s1]; omega)).trans a1), (Below.heap_alloc _ _ _ (by rw [s2]; omega)).trans a2, a3, by simp⟩
def two (D B : Nat) : Nat → Prop := fun b => b = D ∨ b = B
section
variable {w wr wr' : World} {D B : Nat} {v : Value} {x : Wq} {c : Int} {cur : List Value} {r : SeR}
end
end Go.Proofs.Ytmfadmhbkgemmaa
/-
  The document's locks: a lock's queue served from its front on, wherever the lock lies. The conditions: lists are short, numbers are ints.
-/
namespace Go.Proofs.Ytmfadmhbkgemmaa
open Go.RowKit

theorem give_ok {c : Int} {h : List Int} {b : Bool} {x : Wq} (h1 : 0 ≤ c) (h2 : c ≤ 18446744073709551615) : 0 ≤ (giveH c h b x).1 ∧ (giveH c h b x).1 ≤ 18446744073709551615 := by
  unfold giveH
  split
  · exact ⟨h1, h2⟩
  · split
    · exact ⟨h1, h2⟩
    · exact ⟨by show 0 ≤ c + 1; omega, by show c + 1 ≤ _; omega⟩
theorem give_len {c : Int} {h : List Int} {b : Bool} {x : Wq} : (giveH c h b x).2.1.length ≤ h.length + 1 := by
  unfold giveH
  split
  · exact Nat.le_of_eq (putL_length _ _)
  · split
    · exact Nat.le_succ _
    · exact Nat.le_of_eq (putL_length _ _)
theorem give_mem {c : Int} {h : List Int} {b : Bool} {x : Wq} (hh : ∀ a ∈ h, okI a) (hs : okI x.s) : ∀ a ∈ (giveH c h b x).2.1, okI a := by
  have hp : ∀ a ∈ putL h x.s, okI a := fun a ha => by
    rcases putL_mem ha with e | e
    · rw [e]; exact hs
    · exact hh a e
  unfold giveH
  split
  · exact hp
  · split
    · exact hh
    · exact hp
end Go.Proofs.Ytmfadmhbkgemmaa
/-
  While a lock is asked for: the command's block, the reply's, that of who waits. No condition.
-/
namespace Go.Proofs.Ytmfadmhbkgemmaa
open Go.RowKit

abbrev cmT : TypeId := 31
abbrev cmA (k s n : Int) (nm : ByteArray) (m : Int) : Array Value := #[.int .i64 k, .int .i64 s, .int .i64 n, .string nm, .int .i64 m]
/-- The one that is answered. -/
theorem rp_one {w : World} {r : SeR} : RowAt rpC (w.alloc (.cells (rpA r) rpT)) (.slice (some ⟨w.heap.size, 0, none⟩) 1 1) [r] := RowAt.built (heap_alloc_new w _) rfl 1 rfl rfl
end Go.Proofs.Ytmfadmhbkgemmaa
/-
  The document's locks: a session gone. The conditions: lists are short, numbers are ints.
-/
namespace Go.Proofs.Ytmfadmhbkgemmaa
open Go.RowKit

theorem srvH_sum : ∀ (q : List Wq) (c : Int) (h : List Int) (b : Bool), (srvH q c h b).2.1.length + (srvH q c h b).2.2.2.1.length ≤ h.length + q.length
  | [], _, _, _ => Nat.le_refl _
  | x :: q, c, h, b => by
    unfold srvH
    split
    · have h1 := srvH_sum q (giveH c h b x).1 (giveH c h b x).2.1 (giveH c h b x).2.2.1
      have h2 := give_len (c := c) (h := h) (b := b) (x := x)
      simp only [List.length_cons]
      omega
    · exact Nat.le_refl _
theorem srvH_ok : ∀ (q : List Wq) (c : Int) (h : List Int) (b : Bool), 0 ≤ c → c ≤ 18446744073709551615 → 0 ≤ (srvH q c h b).1 ∧ (srvH q c h b).1 ≤ 18446744073709551615
  | [], _, _, _, h0, h1 => ⟨h0, h1⟩
  | x :: q, c, h, b, h0, h1 => by
    unfold srvH
    split
    · have h2 := give_ok (h := h) (b := b) (x := x) h0 h1
      exact srvH_ok q _ _ _ h2.1 h2.2
    · exact ⟨h0, h1⟩
end Go.Proofs.Ytmfadmhbkgemmaa
/-
  The document's locks: who holds one; are two rows of replies one. The condition: lists are short.
-/
namespace Go.Proofs.Ytmfadmhbkgemmaa
open Go.RowKit

def holL (l : List Lk) (nm : ByteArray) : List Int × Bool := match lkIx l nm with
  | none => ([], false)
  | some i => match l[i]? with
    | none => ([], false)
    | some y => if y.h.length = 0 then ([], false) else (y.h, y.wr)
structure HolP (w : World) (q : List Int × Bool) (e : Ending) (w' : World) : Prop where
  ex : ∃ u, e = .returned (.tuple #[u, .bool q.2]) ∧ IntsAt w' u q.1 ∧ Below w.heap.size w w'
theorem ints_none (w : World) : IntsAt w (.slice none 0 0) [] := ⟨⟨none, 0, rfl, Nat.le_refl _, Or.inl rfl⟩, fun x hx => (by cases hx), Nat.zero_le _⟩
end Go.Proofs.Ytmfadmhbkgemmaa
/-
  The document's locks: what each call keeps: lists stay short, numbers ints, names short, the counter within its bounds. No condition.
-/
namespace Go.Proofs.Ytmfadmhbkgemmaa
open Go.RowKit

/-- A lock holds and keeps waiting at most N. -/
structure LkSum (N : Nat) (x : Lk) : Prop where
  sum : x.h.length + x.q.length ≤ N
  hi : ∀ a ∈ x.h, okI a
  qi : ∀ a ∈ x.q, okI a.s ∧ okI a.n
  nm : x.name.size ≤ 1000
structure LoFit (N : Nat) (c : Int) (l : List Lk) : Prop where
  each : ∀ x ∈ l, LkSum N x
  len : l.length ≤ 256
  c0 : 0 ≤ c
  c1 : c ≤ 18446744073709551615
theorem LkSum.ok {N : Nat} {x : Lk} (h : LkSum N x) : LkOk N x := ⟨by have := h.sum; omega, by have := h.sum; omega, h.hi, h.qi⟩
theorem LkSum.up {N M : Nat} {x : Lk} (h : LkSum N x) (hn : N ≤ M) : LkSum M x := ⟨Nat.le_trans h.sum hn, h.hi, h.qi, h.nm⟩
theorem LoFit.up {N M : Nat} {c : Int} {l : List Lk} (h : LoFit N c l) (hn : N ≤ M) : LoFit M c l := ⟨fun x hx => (h.each x hx).up hn, h.len, h.c0, h.c1⟩
theorem srvH_mem : ∀ (q : List Wq) (c : Int) (h : List Int) (b : Bool), (∀ a ∈ h, okI a) → (∀ a ∈ q, okI a.s ∧ okI a.n) → (∀ a ∈ (srvH q c h b).2.1, okI a) ∧ ∀ a ∈ (srvH q c h b).2.2.2.1, okI a.s ∧ okI a.n
  | [], _, _, _, hh, hq => ⟨hh, hq⟩
  | x :: q, c, h, b, hh, hq => by
    unfold srvH
    split
    · exact srvH_mem q _ _ _ (give_mem hh (hq x List.mem_cons_self).1) (fun a ha => hq a (List.mem_cons_of_mem _ ha))
    · exact ⟨hh, hq⟩
theorem tidyL_sum {N : Nat} {l : List Lk} (h : ∀ x ∈ l, LkSum N x) : ∀ x ∈ tidyL l, LkSum N x := fun x hx => h x (List.mem_filter.1 hx).1
theorem set_sum {N : Nat} {l : List Lk} {i : Nat} {y : Lk} (h : ∀ x ∈ l, LkSum N x) (hy : LkSum N y) : ∀ x ∈ l.set i y, LkSum N x := fun x hx => by
  rcases List.mem_or_eq_of_mem_set hx with e | e
  · exact h x e
  · rw [e]; exact hy
theorem addL_mem {l : List Lk} {x y : Lk} (h : y ∈ addL l x) : y = x ∨ y ∈ l := by
  unfold addL at h
  rcases List.mem_append.1 h with h | h
  · exact Or.inr ((List.takeWhile_sublist _).subset h)
  · rcases List.mem_cons.1 h with h | h
    · exact Or.inl h
    · exact Or.inr ((List.dropWhile_sublist _).subset h)
theorem addL_len (l : List Lk) (x : Lk) : (addL l x).length = l.length + 1 := by
  have e := congrArg List.length (List.takeWhile_append_dropWhile (p := fun y : Lk => befK y.name x.name) (l := l))
  rw [List.length_append] at e
  unfold addL
  rw [List.length_append, List.length_cons]
  omega
theorem giveH_new {c : Int} {x : Wq} {N : Nat} {nm : ByteArray} (hs : okI x.s) (hn : nm.size ≤ 1000) : LkSum (N + 1) ⟨nm, (giveH c [] false x).2.1, (giveH c [] false x).2.2.1, []⟩ :=
  ⟨by have := give_len (c := c) (h := []) (b := false) (x := x); simp only [List.length_nil] at this ⊢; omega, give_mem (fun a ha => (by cases ha)) hs, fun a ha => (by cases ha), hn⟩
/-- Asked for: one more at most. -/
theorem LoFit.ask {N : Nat} {c : Int} {l : List Lk} (h : LoFit N c l) (k s n : Int) (nm : ByteArray) (hs : okI s) (hn : okI n) (hm : nm.size ≤ 1000) : LoFit (N + 1) (askL c l k s n nm).1 (askL c l k s n nm).2.1 := by
  have h1 : LoFit (N + 1) c l := h.up (Nat.le_succ _)
  unfold askL
  split
  · exact h1
  · split
    · unfold askN
      split
      · exact h1
      · rename_i hlt
        have hg := give_ok (c := c) (h := []) (b := false) (x := ⟨s, n, k == 7⟩) h.c0 h.c1
        refine ⟨fun x hx => ?_, ?_, hg.1, hg.2⟩
        · show LkSum (N + 1) x
          have hx : x ∈ (if (giveH c [] false ⟨s, n, k == 7⟩).2.2.2.err = 0 then addL l ⟨nm, (giveH c [] false ⟨s, n, k == 7⟩).2.1, (giveH c [] false ⟨s, n, k == 7⟩).2.2.1, []⟩ else l) := hx
          split at hx
          · rcases addL_mem hx with e | e
            · rw [e]; exact giveH_new hs hm
            · exact h1.each x e
          · exact h1.each x hx
        · show (if (giveH c [] false ⟨s, n, k == 7⟩).2.2.2.err = 0 then addL l ⟨nm, (giveH c [] false ⟨s, n, k == 7⟩).2.1, (giveH c [] false ⟨s, n, k == 7⟩).2.2.1, []⟩ else l).length ≤ 256
          split
          · rw [addL_len]; omega
          · exact h.len
    · split
      · exact h1
      · rename_i i _ y hy
        have hym := h.each y (List.mem_of_getElem? hy)
        unfold askS
        split
        · exact h1
        · split
          · have hg := give_ok (c := c) (h := y.h) (b := y.wr) (x := ⟨s, n, k == 7⟩) h.c0 h.c1
            refine ⟨set_sum h1.each ⟨?_, give_mem hym.hi hs, hym.qi, hym.nm⟩, by show (l.set _ _).length ≤ 256; rw [List.length_set]; exact h.len, hg.1, hg.2⟩
            have := give_len (c := c) (h := y.h) (b := y.wr) (x := ⟨s, n, k == 7⟩)
            have := hym.sum
            show (giveH c y.h y.wr ⟨s, n, k == 7⟩).2.1.length + y.q.length ≤ N + 1
            omega
          · refine ⟨set_sum h1.each ⟨?_, hym.hi, fun a ha => ?_, hym.nm⟩, by show (l.set _ _).length ≤ 256; rw [List.length_set]; exact h.len, h.c0, h.c1⟩
            · show y.h.length + (y.q ++ [_]).length ≤ N + 1
              rw [List.length_append, List.length_singleton]
              have := hym.sum
              omega
            · rcases List.mem_append.1 ha with ha | ha
              · exact hym.qi a ha
              · rw [List.mem_singleton.1 ha]; exact ⟨hs, hn⟩
theorem out_sum {N : Nat} {c s : Int} {x : Lk} (h : LkSum N x) : LkSum N (outK x c s).2.1 := by
  unfold outK
  split
  · have h1 := srvH_sum (lessQ x.q s) c (dropL x.h s) x.wr
    have h2 := srvH_mem (lessQ x.q s) c (dropL x.h s) x.wr (fun a ha => h.hi a (List.mem_filter.1 ha).1) (fun a ha => h.qi a (List.mem_filter.1 ha).1)
    have h3 := dropL_le x.h s
    have h4 : (lessQ x.q s).length ≤ x.q.length := List.length_filter_le _ _
    have h5 := h.sum
    exact ⟨by show (srvH _ _ _ _).2.1.length + (srvH _ _ _ _).2.2.2.1.length ≤ N; omega, h2.1, h2.2, h.nm⟩
  · exact h
theorem out_c {c s : Int} {x : Lk} (h0 : 0 ≤ c) (h1 : c ≤ 18446744073709551615) : 0 ≤ (outK x c s).1 ∧ (outK x c s).1 ≤ 18446744073709551615 := by
  unfold outK
  split
  · exact srvH_ok _ _ _ _ h0 h1
  · exact ⟨h0, h1⟩
theorem outL_sum {N : Nat} (s : Int) : ∀ (l : List Lk) (c : Int), (∀ x ∈ l, LkSum N x) → 0 ≤ c → c ≤ 18446744073709551615 → (∀ x ∈ (outL l c s).2.1, LkSum N x) ∧ 0 ≤ (outL l c s).1 ∧ (outL l c s).1 ≤ 18446744073709551615
  | [], _, _, h0, h1 => ⟨fun x hx => (by cases hx), h0, h1⟩
  | x :: l, c, h, h0, h1 => by
    have hc := out_c (x := x) (s := s) h0 h1
    have ih := outL_sum s l (outK x c s).1 (fun y hy => h y (List.mem_cons_of_mem _ hy)) hc.1 hc.2
    unfold outL
    refine ⟨fun y hy => ?_, ih.2⟩
    rcases List.mem_cons.1 hy with e | e
    · rw [e]; exact out_sum (h x List.mem_cons_self)
    · exact ih.1 y e
theorem LoFit.gone {N : Nat} {c : Int} {l : List Lk} (h : LoFit N c l) (s : Int) : LoFit N (gonL c l s).1 (gonL c l s).2.1 := by
  have h1 := outL_sum s l c h.each h.c0 h.c1
  unfold gonL
  exact ⟨tidyL_sum h1.1, Nat.le_trans (List.length_filter_le _ _) (by rw [outL_len]; exact h.len), h1.2.1, h1.2.2⟩
theorem LoFit.rel {N : Nat} {c : Int} {l : List Lk} (h : LoFit N c l) (k s n : Int) (nm : ByteArray) : LoFit N (relL c l k s n nm).1 (relL c l k s n nm).2.1 := by
  unfold relL
  split
  · exact h
  · split
    · exact h
    · split
      · exact h
      · rename_i i _ y hy
        have hym := h.each y (List.mem_of_getElem? hy)
        split
        · exact h
        · have h1 := srvH_sum y.q c (dropL y.h s) y.wr
          have h2 := srvH_mem y.q c (dropL y.h s) y.wr (fun a ha => hym.hi a (List.mem_filter.1 ha).1) hym.qi
          have h3 := dropL_le y.h s
          have h4 := srvH_ok y.q c (dropL y.h s) y.wr h.c0 h.c1
          have h5 := hym.sum
          unfold relS
          refine ⟨tidyL_sum (set_sum h.each ⟨?_, h2.1, h2.2, hym.nm⟩), Nat.le_trans (List.length_filter_le _ _) (by rw [List.length_set]; exact h.len), h4.1, h4.2⟩
          show (srvH _ _ _ _).2.1.length + (srvH _ _ _ _).2.2.2.1.length ≤ N
          omega
end Go.Proofs.Ytmfadmhbkgemmaa
/-
  What layer 19's laws ask: has a command what commands of locks have; does a session wait. No condition but a size.
-/
namespace Go.Proofs.Ytmfadmhbkgemmaa
open Go.RowKit

def fitL (s n : Int) (nm : ByteArray) : Bool := decide (1 ≤ s) && decide (s ≤ 1073741824) && decide (1 ≤ n) && decide (n ≤ 1073741824) && decide ((1 : Int) ≤ (nm.size : Int)) && decide ((nm.size : Int) ≤ 64)
theorem fitL_yes {s n : Int} {nm : ByteArray} (h : fitL s n nm = true) : okI s ∧ okI n ∧ nm.size ≤ 1000 := by
  unfold fitL at h
  simp only [Bool.and_eq_true, decide_eq_true_eq] at h
  exact ⟨⟨by omega, by omega⟩, ⟨by omega, by omega⟩, by omega⟩
set_option maxHeartbeats 6400000 in
set_option maxRecDepth 100000 in
theorem fit_any (w : World) (k s n : Int) (nm : ByteArray) (m : Int) : Calls Try.prog 8 #[.agg (cmA k s n nm m)] w fun e w' => e = .returned (.bool (fitL s n nm)) ∧ Below w.heap.size w w' := by
  obtain ⟨V, hV⟩ : ∃ V, V = w.alloc (.cells (cmA k s n nm m) cmT) := ⟨_, rfl⟩
  have bV : Below w.heap.size w V := by rw [hV]; exact (Below.refl _ w).alloc (Nat.le_refl _) _
  have rV : V.heap[w.heap.size]? = some (.cells (cmA k s n nm m) cmT (0, 0)) := by rw [hV]; exact heap_alloc_new w _
  have HV : Hid (w.alloc (.cells #[.int .i64 k, .int .i64 s, .int .i64 n, .string nm, .int .i64 m] cmT) = V) := hV.symm
  have BV : Hid (Below w.heap.size w V) := bV
  have z1 : V.cell? ⟨w.heap.size, 1, none⟩ = some (.int .i64 s) := by simp [World.cell?, rV]
  have z2 : V.cell? ⟨w.heap.size, 2, none⟩ = some (.int .i64 n) := by simp [World.cell?, rV]
  have z3 : V.cell? ⟨w.heap.size, 3, none⟩ = some (.string nm) := by simp [World.cell?, rV]
  clear hV bV rV
  cases c0 : decide (1 ≤ s) with
  | false =>
    have e : fitL s n nm = false := by simp only [fitL, c0]; rfl
    have HE : Hid _ := e
    clear e
    go_enter Try.func8, Try.ntmps8
    go_upto_region 1 with fail
    rw [HV.out]
    go_wp2
    go_ret
    exact ⟨by rw [HE.out]; rfl, BV.out⟩
  | true =>
    cases c1 : decide (s ≤ 1073741824) with
    | false =>
      have e : fitL s n nm = false := by simp only [fitL, c0, c1]; rfl
      have HE : Hid _ := e
      clear e
      go_enter Try.func8, Try.ntmps8
      go_upto_region 1 with fail
      rw [HV.out]
      go_wp2
      go_ret
      exact ⟨by rw [HE.out]; rfl, BV.out⟩
    | true =>
      cases c2 : decide (1 ≤ n) with
      | false =>
        have e : fitL s n nm = false := by simp only [fitL, c0, c1, c2]; rfl
        have HE : Hid _ := e
        clear e
        go_enter Try.func8, Try.ntmps8
        go_upto_region 1 with fail
        rw [HV.out]
        go_wp2
        go_ret
        exact ⟨by rw [HE.out]; rfl, BV.out⟩
      | true =>
        cases c3 : decide (n ≤ 1073741824) with
        | false =>
          have e : fitL s n nm = false := by simp only [fitL, c0, c1, c2, c3]; rfl
          have HE : Hid _ := e
          clear e
          go_enter Try.func8, Try.ntmps8
          go_upto_region 1 with fail
          rw [HV.out]
          go_wp2
          go_ret
          exact ⟨by rw [HE.out]; rfl, BV.out⟩
        | true =>
          cases c4 : decide ((1 : Int) ≤ (nm.size : Int)) with
          | false =>
            have d4 : decide (1 ≤ nm.size) = false := decide_eq_false (by have := of_decide_eq_false c4; omega)
            have e : fitL s n nm = false := by simp only [fitL, c0, c1, c2, c3, c4]; rfl
            have HE : Hid _ := e
            clear e
            go_enter Try.func8, Try.ntmps8
            go_upto_region 1 with fail
            rw [HV.out]
            go_wp2
            go_ret
            exact ⟨by rw [HE.out]; rfl, BV.out⟩
          | true =>
            have d4 : decide (1 ≤ nm.size) = true := decide_eq_true (by have := of_decide_eq_true c4; omega)
            cases c5 : decide ((nm.size : Int) ≤ 64) with
            | false =>
              have d5 : decide (nm.size ≤ 64) = false := decide_eq_false (by have := of_decide_eq_false c5; omega)
              have e : fitL s n nm = false := by simp only [fitL, c0, c1, c2, c3, c4, c5]; rfl
              have HE : Hid _ := e
              clear e
              go_enter Try.func8, Try.ntmps8
              go_upto_region 1 with fail
              rw [HV.out]
              go_wp2
              go_ret
              exact ⟨by rw [HE.out]; rfl, BV.out⟩
            | true =>
              have d5 : decide (nm.size ≤ 64) = true := decide_eq_true (by have := of_decide_eq_true c5; omega)
              have e : fitL s n nm = true := by simp only [fitL, c0, c1, c2, c3, c4, c5]; rfl
              have HE : Hid _ := e
              clear e
              go_enter Try.func8, Try.ntmps8
              go_upto_region 1 with fail
              rw [HV.out]
              go_wp2
              go_ret
              exact ⟨by rw [HE.out]; rfl, BV.out⟩
end Go.Proofs.Ytmfadmhbkgemmaa
