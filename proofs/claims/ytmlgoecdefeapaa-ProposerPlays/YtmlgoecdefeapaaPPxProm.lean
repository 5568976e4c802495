/-
  Package proposer: a promise heard, as the document's plain data. The conditions: those of PxTop; at most a million entries, their slots near, their texts of at most 2^48 bytes; the row that was handed in lies apart from the proposer's own blocks.
-/
import Derived.Test.YtmlgoecdefeapaaPPxProp
namespace Go.Proofs.Ytmlgoecdefeapaa
open Go.RowKit

theorem lookM_fold (f : Int) : ∀ (es : List En) (l : List (Int × En)) (L : List En), (∀ s, lookM l s = bestE L s) → ∀ s, lookM (es.foldl (hearB f) l) s = bestE (insA f L es) s
  | [], _, _, h, s => h s
  | e :: es, l, L, h, s => by
    show lookM (es.foldl (hearB f) (hearB f l e)) s = bestE (es.foldl (insP f) (insP f L e)) s
    refine lookM_fold f es _ _ (fun t => ?_) s
    rw [lookM_hear, bestE_insP', h]
theorem fold_mem {f : Int} {x : Int × En} : ∀ {es : List En} {l : List (Int × En)}, x ∈ es.foldl (hearB f) l → (x.2 ∈ es ∧ x.1 = x.2.slot ∧ f ≤ x.1) ∨ x ∈ l
  | [], _, h => Or.inr h
  | e :: es, l, h => by
    rcases fold_mem (es := es) (l := hearB f l e) h with ⟨h1, h2⟩ | h1
    · exact Or.inl ⟨List.mem_cons_of_mem _ h1, h2⟩
    · rcases hearB_mem h1 with ⟨rfl, h3⟩ | h3
      · exact Or.inl ⟨List.mem_cons_self, rfl, h3⟩
      · exact Or.inr h3
/-- A promise counted. -/
def countX (f : Int) (p : Px) (who : Int) (es : List En) : Px := ⟨p.who ++ [who], es.foldl (hearB f) p.best, p.vf, p.vl, p.last, p.rows, p.acc⟩
theorem rel_count {q : Pp} {p : Px} (h : RelE q p) (who : Int) (es : List En) : RelE (countP q who es) (countX q.f p who es) := by
  refine ⟨lookM_fold q.f es _ _ h.best, ?_, h.rows, h.acc, fun x hx => ?_, h.vals, h.l⟩
  · show p.who ++ [who] = q.who ++ [who]
    rw [h.who]
  · rcases fold_mem hx with ⟨_, h1, h2⟩ | h1
    · exact ⟨h2, h1⟩
    · exact h.keys x h1
theorem names_fold {p : Px} (h : Names p.best) {f : Int} {es : List En} (he : ∀ e ∈ es, e.cmd.name.size ≤ 281474976710656) : Names (es.foldl (hearB f) p.best) := fun x hx => by
  rcases fold_mem hx with ⟨h1, _⟩ | h1
  · exact he _ h1
  · exact h x h1
section
variable {w : World} {base X : Nat} {S : Nat → Prop} {q : Pp}
set_option maxHeartbeats 12800000 in
set_option maxRecDepth 100000 in
theorem pprom_any (h : PS w base X S q) (hl : Lim q) (hn : q.n ≤ 9223372036854775807) (who : Int) (hw : inI who) (es : List En) (u : Value) (hu : RowAt enC w u es) (hlen : es.length ≤ 1000000) (hes : ∀ e ∈ es, e.cmd.name.size ≤ 281474976710656 ∧ e.slot ≤ q.f + 1000) (hblk : ∀ bk off n cap, 0 < n → u = .slice (some ⟨bk, off, none⟩) n cap → ¬ S bk) :
    Calls Try.prog 11 #[.pointer (some ⟨X, 0, none⟩), .int .i64 who, u] w (PPost w base X S (promP (maR q.n) q who es).1 (.bool (promP (maR q.n) q who es).2)) := by
  have HPS : Hid _ := h
  obtain ⟨p, mp, mb, ma, v, h, hR, hM⟩ := h.ex
  have x5 := h.cell 5 (.bool q.is) rfl
  by_cases hi : q.is = true
  · have e1 : promP (maR q.n) q who es = (q, false) := by
      unfold promP
      rw [if_pos (Or.inl hi)]
    rw [e1]
    have HF : Hid (PPost w base X S q (.bool false) (.returned (.bool false)) w) := ⟨S, rfl, HPS.out, Kept.refl _ _⟩
    rw [hi] at x5
    clear h hR hM hu hes hblk e1 hl hi
    go_enter Try.func11, Try.ntmps11
    go_wp2
    go_ret
    exact HF.out
  have hi' : q.is = false := by simpa using hi
  rw [hi'] at x5
  have hE := hR.early hi'
  have HA : Hid _ := xhas_any h who
  cases hb : (decide (0 ≤ who) && decide (who < q.n)) with
  | false =>
    have e1 : promP (maR q.n) q who es = (q, false) := by
      unfold promP
      rw [if_pos]
      rw [Bool.and_eq_false_iff, decide_eq_false_iff_not, decide_eq_false_iff_not] at hb
      omega
    rw [e1]
    have HF : Hid (PPost w base X S q (.bool false) (.returned (.bool false)) w) := ⟨S, rfl, HPS.out, Kept.refl _ _⟩
    rw [hb] at HA
    clear h hR hM hu hes hblk e1 hl hi hE hb hi'
    go_enter Try.func11, Try.ntmps11
    go_wp2_with (go_at_call 25; refine Calls.mono HA.out ?_; rintro r w1 ⟨rfl, rfl⟩)
    go_ret
    exact HF.out
  | true =>
    obtain ⟨M, rfl⟩ := hM hi'
    rw [hb] at HA
    have x3 := h.cell 3 (.map (some M)) rfl
    have HD : Hid _ := xadd_any (h.prom M rfl) hw
    by_cases hm : who ∈ p.who
    · have e1 : promP (maR q.n) q who es = (q, false) := by
        unfold promP
        rw [if_pos (Or.inr (Or.inr (Or.inr (by rw [← hE.who]; exact hm))))]
      rw [e1]
      have hd : decide (who ∉ p.who) = false := decide_eq_false (fun h2 => h2 hm)
      have HD2 : Hid (Calls Try.prog 26 #[.map (some M), .int .i64 who] w fun e w' => e = .returned (.bool false) ∧ PPost w base X S q (.bool false) (.returned (.bool false)) w') := by
        refine Calls.mono HD.out ?_
        rintro r w1 ⟨rfl, s1, g1⟩
        rw [hd]
        rw [if_pos hm] at s1
        obtain ⟨p1, k1⟩ := h.setP rfl s1 g1
        exact ⟨rfl, S, rfl, ⟨p, some M, mb, ma, v, p1, hR, fun _ => ⟨M, rfl⟩⟩, k1⟩
      clear h hR hM hu hes hblk e1 hl hi hE hb hi' HD hm hd
      go_enter Try.func11, Try.ntmps11
      go_wp2_with (first
        | (go_at_call 26; refine Calls.mono HD2.out ?_; rintro r w2 ⟨rfl, h2⟩; have H2 : Hid _ := h2; clear h2)
        | (go_at_call 25; refine Calls.mono HA.out ?_; rintro r w1 ⟨rfl, rfl⟩))
      go_ret
      exact H2.out
    · have hd : decide (who ∉ p.who) = true := decide_eq_true hm
      have ec := rel_count hE who es
      have en := names_fold hR.names (f := q.f) (es := es) (fun e he => (hes e he).1)
      obtain ⟨ua, uc, eu⟩ := hu.form
      have HU : Hid (∀ y, Kept w y S S → RowAt enC y u es) := fun y k => hu.keep k.size (fun bk off n cap h0 e => k.kept bk (hu.lt h0 e) (hblk bk off n cap h0 e))
      have HD2 : Hid (Calls Try.prog 26 #[.map (some M), .int .i64 who] w fun e w' => e = .returned (.bool true) ∧ PxAt w' base X S q.n q.b q.f false (countX q.f p who []) (some M) mb ma v ∧ Kept w w' S S) := by
        refine Calls.mono HD.out ?_
        rintro r w1 ⟨rfl, s1, g1⟩
        rw [hd]
        rw [if_neg hm] at s1
        rw [hi'] at h
        obtain ⟨p1, k1⟩ := h.setP rfl s1 g1
        exact ⟨rfl, p1, k1⟩
      have hpr : promP (maR q.n) q who es = if ((q.who.length : Int) + 1) < maR q.n then (countP q who es, false) else (readyP (countP q who es), true) := by
        unfold promP
        rw [if_neg]
        rw [Bool.and_eq_true, decide_eq_true_iff, decide_eq_true_iff] at hb
        rw [hi', ← hE.who]
        intro h2
        rcases h2 with h2 | h2 | h2 | h2
        · cases h2
        · omega
        · omega
        · exact hm h2
      obtain ⟨m, hmm⟩ : ∃ m, m = maR q.n := ⟨_, rfl⟩
      have HMJ : Hid _ := pmaj_any q.n hn
      rw [← hmm] at hpr ⊢ HMJ
      have HNO : Hid ((q.who.length : Int) + 1 < m → ∀ w', PxAt w' base X S q.n q.b q.f false (countX q.f p who es) (some M) mb ma v → Kept w w' S S → PPost w base X S (promP m q who es).1 (.bool (promP m q who es).2) (.returned (.bool false)) w') := fun hlt w' p' k' => by
        rw [hpr, if_pos hlt]
        refine ⟨S, rfl, ⟨countX q.f p who es, some M, mb, ma, v, ?_, ⟨en, fun _ => ec, fun h2 => ?_⟩, fun _ => ⟨M, rfl⟩⟩, k'⟩
        · show PxAt w' base X S q.n q.b q.f q.is _ _ _ _ _
          rw [hi']
          exact p'
        · have : q.is = true := h2
          rw [hi'] at this
          cases this
      have HYES : Hid (¬ (q.who.length : Int) + 1 < m → ∀ w1 w', PxAt w1 base X S q.n q.b q.f false (countX q.f p who es) (some M) mb ma v → Kept w w1 S S → StartPost w1 base X S q.n q.b q.f true (readyX q.b q.f (countX q.f p who es)) none mb ma (.returned (.tuple #[])) w' → PPost w base X S (promP m q who es).1 (.bool (promP m q who es).2) (.returned (.bool true)) w') := fun hlt w1 w' p1 k1 st => by
        rw [hpr, if_neg hlt]
        obtain ⟨S', v', _, p', k'⟩ := st.ex
        have hrr := rel_ready en ec p1.best.nodup
        exact ⟨S', rfl, ⟨readyX q.b q.f (countX q.f p who es), none, mb, ma, v', p', hrr, fun h2 => by cases h2⟩, k1.trans k'⟩
      have HST : Hid (∀ y, PxAt y base X S q.n q.b q.f false (countX q.f p who es) (some M) mb ma v → Calls Try.prog 29 #[.pointer (some ⟨X, 0, none⟩)] y (StartPost y base X S q.n q.b q.f true (readyX q.b q.f (countX q.f p who es)) none mb ma)) := fun y hy => by
        have a5 := hl.lo
        have a6 := hl.hi
        refine xstart_any hy ?_ (by omega) (by omega) (fun x hx => ?_)
        · have b1 := hy.lo X hy.inX
          have b2 := hy.bd X hy.inX
          omega
        · rcases fold_mem hx with ⟨h1, h2, _⟩ | h1
          · have := (hes _ h1).2
            omega
          · have h3 := lookM_some h.best.nodup (n := x.1) (c := x.2) h1
            rw [hE.best] at h3
            obtain ⟨h4, h5⟩ := bestE_mem h3
            have := hl.best _ h4
            omega
      obtain ⟨Nw, hNw⟩ : ∃ Nw : Nat, Nw = q.who.length + 1 := ⟨_, rfl⟩
      have HLN : Hid (∀ y, PxAt y base X S q.n q.b q.f false (countX q.f p who es) (some M) mb ma v → ∀ ty, (Builtin.len_ #[55] ty #[.map (some M)]).run Try.prog y = .ok (.int .i64 (Nw : Int)) y) := fun y hy ty => by
        have := MapOf.len mSet_is (hy.prom M rfl) ty
        rw [this]
        have e2 : (unitL (countX q.f p who es).who).length = Nw := by
          unfold unitL
          rw [List.length_map]
          show (p.who ++ [who]).length = Nw
          rw [hE.who, hNw]
          simp
        rw [e2]
      have HNW : Hid ((q.who.length : Int) + 1 = (Nw : Int)) := by show _ = _; omega
      have hNw0 : 0 < Nw := by omega
      rw [HNW.out] at HNO HYES
      have HEU : Hid _ := eu
      have HES : Hid _ := hes
      have HLI : Hid _ := hl
      subst eu
      clear h hR hM hu hes hblk hl hi hE hb hi' HD hm hd ec en hpr hmm hNw hNw0 HNW
      go_enter Try.func11, Try.ntmps11
      go_wp2_with (first
        | (go_at_call 26; refine Calls.mono HD2.out ?_; rintro r w2 ⟨rfl, p2, k2⟩; have P2 : Hid _ := p2; have K2 : Hid _ := k2; clear p2 k2)
        | (go_at_call 25; refine Calls.mono HA.out ?_; rintro r w1 ⟨rfl, rfl⟩))
      clear x5 x3 HA HD2
      go_loopw [34] (fun i wr => ∃ k : Nat, k ≤ es.length ∧ i = .int .i64 (k : Int) ∧ Hid (PxAt wr base X S q.n q.b q.f false (countX q.f p who (es.take k)) (some M) mb ma v) ∧ Hid (Kept w1 wr S S)) (fun i _ => es.length - (intOf i).toNat)
      case atStart => exact ⟨0, Nat.zero_le _, rfl, by rw [List.take_zero]; exact P2, K2⟩
      case round =>
        obtain ⟨k, hk, rfl, PR, KR⟩ := hrel
        clear P2 K2
        by_cases hkl : k < es.length
        · have t0 : decide ((k : Int) < (es.length : Int)) = true := decide_eq_true (by omega)
          have i1 : (k : Int) < (es.length : Int) := by omega
          have i2 : (0 : Int) ≤ (k : Int) := by omega
          have i3 : ((k : Int)).toNat = k := by omega
          obtain ⟨bk, off, cap', hvv, hcap, hbk, hc⟩ := (HU.out _ KR.out).cells enC_len (by omega)
          injection hvv with e1 e2 e3
          subst e1 e3
          obtain ⟨x, hx⟩ : ∃ x, x = es[k] := ⟨_, rfl⟩
          have z0 := hc k hkl 0 (.int .i64 x.slot) (by decide) (by rw [hx]; rfl)
          have z1 := hc k hkl 1 (.int .i64 x.ballot) (by decide) (by rw [hx]; rfl)
          have z2 := hc k hkl 2 (.int .i64 x.cmd.kind) (by decide) (by rw [hx]; rfl)
          have z3 := hc k hkl 3 (.int .i64 x.cmd.session) (by decide) (by rw [hx]; rfl)
          have z4 := hc k hkl 4 (.int .i64 x.cmd.seq) (by decide) (by rw [hx]; rfl)
          have z5 := hc k hkl 5 (.string x.cmd.name) (by decide) (by rw [hx]; rfl)
          have z6 := hc k hkl 6 (.int .i64 x.cmd.n) (by decide) (by rw [hx]; rfl)
          rw [Nat.add_zero] at z0
          have HH : Hid (∀ y, PxAt y base X S q.n q.b q.f false (countX q.f p who (es.take k)) (some M) mb ma v → Calls Try.prog 27 #[.pointer (some ⟨X, 0, none⟩), .agg (enA x)] y (PutPost y base X S q.n q.b q.f false (countX q.f p who (es.take (k + 1))) (some M) mb ma v)) := fun y hy => by
            have e5 : countX q.f p who (es.take (k + 1)) = ⟨p.who ++ [who], hearB q.f ((es.take k).foldl (hearB q.f) p.best) x, p.vf, p.vl, p.last, p.rows, p.acc⟩ := by
              unfold countX
              rw [List.take_succ_eq_append_getElem hkl, List.foldl_append, ← hx]
              rfl
            rw [e5]
            have hex := HES.out x (by rw [hx]; exact List.getElem_mem hkl)
            have a5 := HLI.out.lo
            have a6 := HLI.out.hi
            exact xhear_any hy x (fun h2 => ⟨by omega, by omega⟩) hex.1
          clear hc hx hcap hbk HEU HST HLN HYES HNO HMJ
          go_wp2_with (first
            | (go_at_call 27; refine Calls.mono (HH.out _ P6.out) ?_; rintro r w7 ⟨rfl, p7, k7⟩; have P7 : Hid _ := p7; have K7 : Hid (Kept w1 w7 S S) := K6.out.trans k7; clear p7 k7)
            | (show wpList _ _ _ (⟨_, Op.store 38 _ _, _, _, _, _⟩ :: _) _ _; refine store_row_g rfl 38 _ _ rfl wr.heap.size (enA x) rfl rfl 38 _ (heap_alloc_new wr _) sizeEnP rfl (by simp [Value.oneCell']) ?_; intro w6 h6 g6; have b6 : Below wr.heap.size wr w6 := ((Below.refl _ wr).alloc (Nat.le_refl _) _).grown g6 (by simp) (fun k hk => by have := Option.some.inj hk; omega); have P6 : Hid _ := PR.out.fresh b6; have K6 : Hid _ := KR.out.trans (Kept.of b6); have s0 := boxE h6 0 _ rfl; have s1 := boxE h6 1 _ rfl; have s2 := boxE h6 2 _ rfl; have s3 := boxE h6 3 _ rfl; have s4 := boxE h6 4 _ rfl; have s5 := boxE h6 5 _ rfl; have s6 := boxE h6 6 _ rfl; clear h6 g6 b6))
          go_roundw
          case rel => exact ⟨k + 1, hkl, by go_num, P7, K7⟩
          case measure => simp [intOf]; omega
        · have hke : k = es.length := by omega
          subst hke
          rw [List.take_length] at PR
          have t0 : decide ((es.length : Int) < (es.length : Int)) = false := decide_eq_false (by omega)
          have t1 : ¬ (es.length : Int) < (es.length : Int) := by omega
          have x3 := PR.out.cell 3 (.map (some M)) rfl
          have x0 := PR.out.cell 0 (.int .i64 q.n) rfl
          have ln := HLN.out _ PR.out.drew 3
          cases hc : decide ((Nw : Int) < m) with
          | true =>
            have HNO2 : Hid _ := HNO.out (by simpa using hc) _ PR.out.drew (KR.out.trans (Kept.of (undrew (Below.refl _ _))))
            clear HST HLN HYES HNO HU HES HLI HEU hkl hk
            go_wp2
            go_region_held3 (fun y => y.cell? ⟨X, 3, none⟩ = some (.map (some M)) ∧ y.cell? ⟨X, 0, none⟩ = some (.int .i64 q.n) ∧ (Builtin.len_ #[55] 3 #[.map (some M)]).run Try.prog y = .ok (.int .i64 (Nw : Int)) y) (go_keep) (first | (go_at_call 28; refine Calls.mono (HMJ.out _) ?_; rintro r w9 ⟨rfl, e9⟩; subst e9))
            all_goals go_wp2
            all_goals go_returns
            exact HNO2.out
          | false =>
            have HST2 : Hid _ := HST.out _ PR.out.drew
            have HY2 : Hid (∀ w', _) := fun w' st => HYES.out (by simpa using hc) _ w' PR.out.drew (KR.out.trans (Kept.of (undrew (Below.refl _ _)))) st
            clear HST HLN HYES HNO HU HES HLI HEU hkl hk
            go_wp2
            go_region_held3 (fun y => y.cell? ⟨X, 3, none⟩ = some (.map (some M)) ∧ y.cell? ⟨X, 0, none⟩ = some (.int .i64 q.n) ∧ (Builtin.len_ #[55] 3 #[.map (some M)]).run Try.prog y = .ok (.int .i64 (Nw : Int)) y) (go_keep) (first | (go_at_call 28; refine Calls.mono (HMJ.out _) ?_; rintro r w9 ⟨rfl, e9⟩; subst e9))
            all_goals go_wp2_with (go_at_call 29; refine Calls.mono HST2.out ?_; intro r w8 h8; have er : r = .returned (.tuple #[]) := (by obtain ⟨_, _, e, _⟩ := h8.ex; exact e); subst er; have H8 : Hid _ := h8; clear h8)
            all_goals go_returns
            exact HY2.out _ H8.out
end
end Go.Proofs.Ytmlgoecdefeapaa
