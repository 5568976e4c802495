/-
  Parts of the proof, laid together: StStable, FoRow, FoSearch. The conditions stand at each part.
-/
import Derived.Test.YtkngpfngfmbmjaaYStSymC
/-
  A row of entries sorted by their slots, those of one slot in the order in which they were: package slices at entries. The condition: fewer than 2^61 entries.
-/
namespace Go.Proofs.Ytkngpfngfmbmjaa
open Go.Shelf Go.RowKit Go.Lib Go.Sort
section
variable {w0 W : World} {blk off cap len : Nat} {d0 d : Array En}

theorem st_ins (R : RowK enC 7 w0 blk off d0) (hs0 : d0.size = len) (hs : d.size = len) (S : SWK enC 7 w0 blk off d W) (hsz : len < 4611686018427387904) (a b : Nat) (hab : a ≤ b) (hb : b ≤ len) :
    Calls Try.prog 63 #[.slice (some ⟨blk, off, none⟩) len cap, .int .i64 a, .int .i64 b, .func (.func 57) #[] #[]] W fun e w' => e = .returned (.tuple #[]) ∧ ∃ d' : Array En, d'.size = len ∧ Mrg (fun x : En => x.slot) (rd d) (rd d') a b ∧ SWK enC 7 w0 blk off d' w' := by
  have hH := S.holds R.hblk R.hH (by omega)
  have hcon := AnyQ.insertionSortCmpFunc Try.insE 7 Try.isAgg36 Try.sizeOf36 enC enC_len enC_one cfE 57 #[] blk off cap a b d W egE (cmpLaysE blk off d.size W) hH (S.lt R.hblk) hab (by omega) (by omega)
  rw [hs] at hcon
  refine hcon.mono ?_
  rintro e w' ⟨rfl, n, os, rfl⟩
  have hm := mrg_ins (key := (fun x : En => x.slot)) (ltOf cfE) ltE a b hab d (by omega)
  exact ⟨rfl, _, hm.2.trans hs, hm.1, S.on R.hblk n _ os hm.2⟩
set_option maxHeartbeats 12800000 in
set_option maxRecDepth 1000000 in
theorem st_stable (R : RowK enC 7 w0 blk off d0) (hs0 : d0.size = len) (hs : d.size = len) (S : SWK enC 7 w0 blk off d W) (hsz : len < 4611686018427387904) (hsz2 : len < 2305843009213693952) :
    Calls Try.prog 61 #[.slice (some ⟨blk, off, none⟩) len cap, .int .i64 len, .func (.func 57) #[] #[]] W fun e w' => e = .returned (.tuple #[]) ∧ ∃ d' : Array En, d'.size = len ∧ Mrg (fun x : En => x.slot) (rd d) (rd d') 0 len ∧ SWK enC 7 w0 blk off d' w' := by
  have S0 : Aside (SWK enC 7 w0 blk off d W) := S
  have R0 : Aside (RowK enC 7 w0 blk off d0) := R
  clear S R
  go_enter Try.func61, Try.ntmps61
  go_wp2
  go_loopg [7, 8] len (fun kx s7 s8 wr => ∃ (a b q : Nat) (dk : Array En), s7 = .int .i64 a ∧ s8 = .int .i64 b ∧ a + 20 = b ∧ a ≤ len ∧ len - a ≤ kx ∧ Hid (a = q * 20) ∧ dk.size = len ∧ Aside (SWK enC 7 w0 blk off dk wr) ∧ Hid (Stab (fun x : En => x.slot) (rd d) (rd dk) 0 len ∧ Blk (fun x : En => x.slot) (rd dk) 20 a))
  case atStart => exact ⟨0, 20, 0, d, rfl, rfl, rfl, by omega, by omega, (show Hid _ from (rfl : _ = _)), hs, S0, (show Hid _ from (⟨Stab.refl _ _ _, Blk.none _ _⟩ : _ ∧ _))⟩
  case round =>
    clear S0
    obtain ⟨a, b, q, dk, rfl, rfl, hab, hal, hkx, HQ, hds, S1, I⟩ := hrel
    by_cases hlt : b ≤ len
    · have hltz : (b : Int) ≤ (len : Int) := by omega
      obtain ⟨b2, hb2⟩ : ∃ b2, b + 20 = b2 := ⟨_, rfl⟩
      have qb : (b : Int) + 20 = (b2 : Int) := by omega
      have rb2 : IntKind.i64.wrap (b2 : Int) = (b2 : Int) := by rw [IntKind.wrap_i64]; omega
      go_wp2_with (go_at_call 63; refine (st_ins R0.out hs0 hds S1.out hsz a b (by omega) hlt).mono ?_; rintro e w2 ⟨rfl, d2, hs2, hh, ss⟩; have S2 : Aside _ := ss; have M2 : Hid _ := hh; clear ss hh)
      go_roundg (len - b)
      case measure => omega
      case rel => exact ⟨b, b2, q + 1, d2, rfl, rfl, hb2, hlt, Nat.le_refl _, (show Hid _ from (by show b = _; have := HQ.out; omega)), hs2, S2, (show Hid _ from (⟨I.out.1.trans (M2.out.st.wide (Nat.zero_le _) (by omega) hlt), I.out.2.step HQ.out (by omega) M2.out⟩ : _ ∧ _))⟩
    · have hltz : ¬ (b : Int) ≤ (len : Int) := by omega
      go_wp2_with (go_at_call 63; refine (st_ins R0.out hs0 hds S1.out hsz a len hal (Nat.le_refl _)).mono ?_; rintro e w2 ⟨rfl, d2, hs2, hh, ss⟩; have S2 : Aside _ := ss; have M2 : Hid _ := hh; clear ss hh)
      clear S1
      have I2 : Hid (Stab (fun x : En => x.slot) (rd d) (rd d2) 0 len ∧ Blk (fun x : En => x.slot) (rd d2) 20 len) := ⟨I.out.1.trans (M2.out.st.wide (Nat.zero_le _) hal (Nat.le_refl _)), I.out.2.step HQ.out (by omega) M2.out⟩
      clear I M2 HQ
      go_loopg [6] (2 * len) (fun kx s6 wr => ∃ (bs : Nat) (dk : Array En), s6 = .int .i64 bs ∧ 20 ≤ bs ∧ (bs = 20 ∨ bs < 2 * len) ∧ 2 * len - bs ≤ kx ∧ dk.size = len ∧ Aside (SWK enC 7 w0 blk off dk wr) ∧ Hid (Stab (fun x : En => x.slot) (rd d) (rd dk) 0 len ∧ Blk (fun x : En => x.slot) (rd dk) bs len))
      case atStart => exact ⟨20, d2, rfl, by omega, Or.inl rfl, by omega, hs2, S2, I2⟩
      case round =>
        clear S2 I2 hs2 hds hkx hltz hlt hab hal
        obtain ⟨bs, d3, rfl, hb1, hb2, hkx, hds, S1, I⟩ := hrel
        by_cases hlt : bs < len
        · have hltz : (bs : Int) < (len : Int) := by omega
          obtain ⟨t, ht⟩ : ∃ t, 2 * bs = t := ⟨_, rfl⟩
          have qt : 2 * (bs : Int) = (t : Int) := by omega
          have qt' : (bs : Int) * 2 = (t : Int) := by omega
          have rt : IntKind.i64.wrap (t : Int) = (t : Int) := by rw [IntKind.wrap_i64]; omega
          have HT : Hid (2 * bs = t) := ht
          have htb : t = bs + bs := by omega
          have HTB : Hid (t = bs + bs) := htb
          have tl : bs < t ∧ t < 2 * len := by omega
          clear ht htb
          go_wp2
          go_loopg [7, 8] len (fun kx s7 s8 wr => ∃ (a b q : Nat) (dk : Array En), s7 = .int .i64 a ∧ s8 = .int .i64 b ∧ a + t = b ∧ a ≤ len ∧ len - a ≤ kx ∧ Hid (a = q * t) ∧ dk.size = len ∧ Aside (SWK enC 7 w0 blk off dk wr) ∧ Hid (Stab (fun x : En => x.slot) (rd d) (rd dk) 0 len ∧ Blk (fun x : En => x.slot) (rd dk) t a ∧ Bln (fun x : En => x.slot) (rd dk) bs a len))
          case atStart => exact ⟨0, t, 0, d3, rfl, rfl, by omega, by omega, by omega, (show Hid _ from (by show 0 = 0 * t; omega)), hds, S1, (show Hid _ from (⟨I.out.1, Blk.none _ _, I.out.2.bln⟩ : _ ∧ _ ∧ _))⟩
          case round =>
            clear S1 I hds
            obtain ⟨a, b, q, dk, rfl, rfl, hab, hal, hka, HQ, hds, S1, I⟩ := hrel
            have HQ2 : Hid (a = 2 * q * bs) := by
              show a = 2 * q * bs
              rw [HQ.out, HTB.out, Nat.mul_add, Nat.mul_assoc, Nat.two_mul]
            obtain ⟨m, hm⟩ : ∃ m, a + bs = m := ⟨_, rfl⟩
            have qm : (a : Int) + (bs : Int) = (m : Int) := by omega
            have rm : IntKind.i64.wrap (m : Int) = (m : Int) := by rw [IntKind.wrap_i64]; omega
            by_cases hlb : b ≤ len
            · have hlbz : (b : Int) ≤ (len : Int) := by omega
              obtain ⟨b2, hb2⟩ : ∃ b2, b + t = b2 := ⟨_, rfl⟩
              have qb : (b : Int) + (t : Int) = (b2 : Int) := by omega
              have rb2 : IntKind.i64.wrap (b2 : Int) = (b2 : Int) := by rw [IntKind.wrap_i64]; omega
              have hmb : a < m ∧ m < b := by have := HTB.out; omega
              have k1 : Hid (Srt (fun x : En => x.slot) (rd dk) a m) := I.out.2.2.left HQ2.out (by omega) (by omega)
              have k2 : Hid (Srt (fun x : En => x.slot) (rd dk) m b) := by
                show Srt (fun x : En => x.slot) (rd dk) m b
                rw [← hm]
                exact I.out.2.2.right HQ2.out (by have := HTB.out; omega) hlb
              go_wp2_with (go_at_call 64; refine (st_sym R0.out hs0 hsz (b - a) _ dk a m b (Nat.le_refl _) hmb.1 hmb.2 hlb hds S1.out k1.out k2.out).mono ?_; rintro e w2 ⟨rfl, d4, hs2, hh, ss⟩; have S2 : Aside _ := ss; have M2 : Hid _ := hh; clear ss hh)
              go_roundg (len - b)
              case measure => omega
              case rel => exact ⟨b, b2, q + 1, d4, rfl, rfl, hb2, hlb, Nat.le_refl _, (show Hid _ from (by show b = _; rw [← hab, HQ.out, Nat.add_mul, Nat.one_mul])), hs2, S2, (show Hid _ from (⟨I.out.1.trans (M2.out.st.wide (Nat.zero_le _) (by omega) hlb), I.out.2.1.step HQ.out (by omega) M2.out, I.out.2.2.step (by omega) M2.out.st⟩ : _ ∧ _ ∧ _))⟩
            · have hlbz : ¬ (b : Int) ≤ (len : Int) := by omega
              have hbt : len < a + bs + bs := by have := HTB.out; omega
              by_cases hml : m < len
              · have hmlz : (m : Int) < (len : Int) := by omega
                have k1 : Hid (Srt (fun x : En => x.slot) (rd dk) a m) := I.out.2.2.left HQ2.out (by omega) (by omega)
                have k2 : Hid (Srt (fun x : En => x.slot) (rd dk) m len) := by
                  show Srt (fun x : En => x.slot) (rd dk) m len
                  rw [← hm]
                  exact I.out.2.2.right HQ2.out (by omega) (Nat.le_refl _)
                go_wp2_with (go_at_call 64; refine (st_sym R0.out hs0 hsz (len - a) _ dk a m len (Nat.le_refl _) (by omega) hml (Nat.le_refl _) hds S1.out k1.out k2.out).mono ?_; rintro e w2 ⟨rfl, d4, hs2, hh, ss⟩; have S2 : Aside _ := ss; have M2 : Hid _ := hh; clear ss hh)
                go_roundg (2 * len - t)
                case measure => omega
                case rel => exact ⟨t, d4, rfl, by omega, Or.inr (by omega), Nat.le_refl _, hs2, S2, (show Hid _ from (⟨I.out.1.trans (M2.out.st.wide (Nat.zero_le _) hal (Nat.le_refl _)), I.out.2.1.step HQ.out (by omega) M2.out⟩ : _ ∧ _))⟩
              · have hmlz : ¬ (m : Int) < (len : Int) := by omega
                go_wp2
                go_roundg (2 * len - t)
                case measure => omega
                case rel => exact ⟨t, dk, rfl, by omega, Or.inr (by omega), Nat.le_refl _, hds, S1, (show Hid _ from (⟨I.out.1, I.out.2.1.step HQ.out (by omega) (Mrg.same (I.out.2.2.left HQ2.out (by omega) (Nat.le_refl _)))⟩ : _ ∧ _))⟩
        · have hltz : ¬ (bs : Int) < (len : Int) := by omega
          go_wp2
          go_end0
          exact ⟨rfl, d3, hds, ⟨I.out.1, I.out.2.whole (by omega)⟩, S1.out⟩
theorem st_sort (R : RowK enC 7 w0 blk off d0) (hs0 : d0.size = len) (hs : d.size = len) (S : SWK enC 7 w0 blk off d W) (hsz : len < 4611686018427387904) (hsz2 : len < 2305843009213693952) :
    Calls Try.prog 58 #[.slice (some ⟨blk, off, none⟩) len cap, .func (.func 57) #[] #[]] W fun e w' => e = .returned (.tuple #[]) ∧ ∃ d' : Array En, d'.size = len ∧ Mrg (fun x : En => x.slot) (rd d) (rd d') 0 len ∧ SWK enC 7 w0 blk off d' w' := by
  have hcon := st_stable (cap := cap) R hs0 hs S hsz hsz2
  clear R S
  go_enter Try.func58, Try.ntmps58
  go_wp2_with (go_at_call 61; refine hcon.mono ?_; rintro e w2 ⟨rfl, hh⟩)
  go_end0
  exact ⟨rfl, hh⟩
end
end Go.Proofs.Ytkngpfngfmbmjaa
/-
  A row of entries of one's own, as the library's sort has it: there and back. No condition.
-/
namespace Go.Proofs.Ytkngpfngfmbmjaa
open Go.Shelf Go.RowKit Go.Lib Go.Sort

theorem flatE (l : List En) (j : Nat) (hj : j < l.length * 7) : (rowL enC l)[j]? = some (flatK enC 7 l.toArray)[j]! := by
  have hq : j / 7 < l.length := by omega
  have hm : j % 7 < 7 := Nat.mod_lt _ (by omega)
  have h2 := rowL_at enC_len l (j / 7) hq (j % 7) hm
  rw [show j / 7 * 7 + j % 7 = j by omega] at h2
  rw [h2, get_flatK _ _ _ _ (by simpa using hj)]
  have h3 : l.toArray[j / 7]! = l[j / 7] := by simp [hq]
  rw [h3, List.getElem?_eq_getElem (by simpa [enC] using hm)]
  simp [getElem!_pos, enC, hm]
theorem holdsE {w : World} {g : Nat} {cur : Array Value} {t : TypeId} {l : List En} (hb : w.heap[g]? = some (.cells cur t (0, 0))) (ht : cur.toList.take (l.length * 7) = rowL enC l) : HoldsK enC 7 w g 0 l.toArray := by
  intro j hj
  rw [size_flatK] at hj
  simp only [List.size_toArray] at hj
  refine ⟨?_, by simp [World.frozen?, hb]⟩
  have h1 : (cur.toList.take (l.length * 7))[j]? = (rowL enC l)[j]? := by rw [ht]
  rw [List.getElem?_take_of_lt hj, flatE l j hj] at h1
  simp only [World.cell?, hb, Nat.zero_add]
  simp only [Option.isSome_none, Bool.false_eq_true, if_false]
  rw [← Array.getElem?_toList, h1]
  rfl
theorem block_sort {w : World} {g n : Nat} {os : Array Obj} {d : Array En} {cur : Array Value} {t : TypeId} (hb : w.heap[g]? = some (.cells cur t (0, 0))) :
    (∃ cur', (sortWorldK enC 7 w g 0 n d os).heap[g]? = some (.cells cur' t (0, 0)) ∧ cur'.size = cur.size) ∧ w.grownBy (sortWorldK enC 7 w g 0 n d os) (some g) := by
  have hlt := lt_of_block hb
  refine ⟨?_, rfl, rfl, rfl, ?_, fun k hk hne => ?_⟩
  · unfold sortWorldK
    rw [heap_grow_old _ _ (by simpa [putRowK, putRow, mapBlock, Sort.ahead] using hlt)]
    refine ⟨putCells id 0 (flatK enC 7 d) cur, ?_, by simp [putCells]⟩
    simp [putRowK, putRow, mapBlock, Sort.ahead, Array.getElem?_modify, hb, onCells]
  · simp [sortWorldK, grow, putRowK, putRow, mapBlock, Sort.ahead]
  · unfold sortWorldK
    rw [heap_grow_old _ _ (by simpa [putRowK, putRow, mapBlock, Sort.ahead] using hk)]
    have hkg : ¬ g = k := fun e => hne (by rw [e])
    simp [putRowK, putRow, mapBlock, Sort.ahead, Array.getElem?_modify, hkg]
/-- The row behind a sort. -/
theorem own_of_holds {w : World} {base g cap : Nat} {cur : Array Value} {L : List En} (hb : w.heap[g]? = some (.cells cur 36 (0, 0))) (hbg : base ≤ g) (hc : L.length ≤ cap) (hm : cap ≤ maxLen) (hs : cur.size = cap * 7) (hH : HoldsK enC 7 w g 0 L.toArray) : OwnEn w base (.slice (some ⟨g, 0, none⟩) L.length cap) L := by
  refine ⟨rowL_length enC_len L, Or.inr ⟨g, cap, cur, rfl, hbg, hb, hc, hm, hs, ?_⟩⟩
  have hle : L.length * 7 ≤ cur.toList.length := by
    show _ ≤ cur.size
    rw [hs]
    exact Nat.mul_le_mul_right _ hc
  apply List.ext_getElem?
  intro j
  by_cases hj : j < L.length * 7
  · rw [List.getElem?_take_of_lt hj, flatE L j hj]
    have h1 := (hH j (by rw [size_flatK]; simpa using hj)).1
    simp only [World.cell?, hb, Nat.zero_add] at h1
    simp only [Option.isSome_none, Bool.false_eq_true, if_false] at h1
    rw [← Array.getElem?_toList] at h1
    rw [h1]
    rfl
  · rw [List.getElem?_eq_none (by rw [List.length_take]; omega), List.getElem?_eq_none (by rw [rowL_length enC_len]; omega)]
/-- A row of one's own, sorted. -/
theorem sort_entries (w : World) (base : Nat) (v : Value) (es : List En) (ho : OwnEn w base v es) (h0 : es ≠ []) (hl : es.length < 2305843009213693952) :
    Calls Try.prog 58 #[v, .func (.func 57) #[] #[]] w fun e w' => e = .returned (.tuple #[]) ∧ ∃ L : List En, L.length = es.length ∧ L.Pairwise (fun x y => x.slot ≤ y.slot) ∧ (∀ k, ofS k L = ofS k es) ∧ OwnEn w' base v L ∧ w.grownBy w' v.ownBlock := by
  rcases ho.2 with ⟨_, e0⟩ | ⟨g, cap, cur, rfl, hbg, hb, hc, hm, hs, htk⟩
  · exact absurd (List.eq_nil_of_length_eq_zero e0) h0
  · have hH := holdsE hb htk
    have R : RowK enC 7 w g 0 es.toArray := ⟨enC_len, enC_one, hH, lt_of_block hb⟩
    have hcon := st_sort (cap := cap) (len := es.length) R (by simp) (by simp) (SWK.start hH) (by omega) hl
    refine hcon.mono ?_
    rintro e w' ⟨rfl, d', hs', hM, hS⟩
    obtain ⟨h1, h2⟩ := of_mrg (d := es.toArray) (g := d') (n := es.length) (by simp) hs' hM
    have hH' := hS.holds (lt_of_block hb) hH (by simpa using hs')
    obtain ⟨n, os, rfl⟩ := hS
    obtain ⟨⟨cur', hb', hsz'⟩, hg⟩ := block_sort (n := n) (os := os) (d := d') hb
    have e3 : d'.toList.length = es.length := by rw [Array.length_toList, hs']
    refine ⟨rfl, d'.toList, e3, h1, by simpa using h2, ?_, hg⟩
    have := own_of_holds (base := base) (cap := cap) (L := d'.toList) hb' hbg (by omega) hm (by rw [hsz', hs]) (by simpa using hH')
    rw [e3] at this
    exact this
end Go.Proofs.Ytkngpfngfmbmjaa
/-
  Where an entry has its place among those that rise: package slices at entries. The condition: fewer than 2^60 entries.
-/
namespace Go.Proofs.Ytkngpfngfmbmjaa
open Go.Shelf Go.RowKit Go.Lib Go.Sort

theorem box_grow {w : World} {c : Nat} {o : Obj} (h : w.heap[c]? = some o) (n : Nat) (os : Array Obj) : (grow (w.drewN n) os).heap[c]? = some o := by
  have : c < w.heap.size := by
    rcases Nat.lt_or_ge c w.heap.size with h1 | h1
    · exact h1
    · rw [Array.getElem?_eq_none h1] at h
      cases h
  rw [heap_grow_old _ _ (by exact this)]
  exact h
theorem box_load {w : World} {c : Nat} {e : En} (P : Program) (h : w.heap[c]? = some (.cells (enC e).toArray 36 (0, 0))) (n : Nat) (os : Array Obj) : Sem.run P (loadCellsFrom ⟨c, 0, none⟩ 0 7 #[]) (grow (w.drewN n) os) = .ok (enC e).toArray (grow (w.drewN n) os) := by
  refine run_loadCellsFrom_list P _ _ _ 7 (enC_len e) fun j v hj => ?_
  have h2 := box_grow h n os
  have h3 : (⟨c, 0, none⟩ : Addr).add j = ⟨c, j, none⟩ := by rw [Addr.add_mid, Nat.zero_add]
  rw [h3]
  simp only [World.cell?, h2]
  simpa using hj
section
variable {w : World} {base : Nat} {v : Value} {es : List En}
/-- What a search finds. -/
structure Found (es : List En) (e : En) (k : Nat) (b : Bool) : Prop where
  le : k ≤ es.length
  below : ∀ x ∈ es.take k, x.slot < e.slot
  above : ∀ x ∈ es.drop k, ¬ x.slot < e.slot
  yes : b = true → ∃ h : k < es.length, es[k].slot = e.slot
  no : b = false → ∀ h : k < es.length, es[k].slot ≠ e.slot
theorem up_le {es : List En} (h : UpS es) {i j : Nat} (hij : i < j) (hj : j < es.length) : es[i].slot < es[j].slot := List.pairwise_iff_getElem.1 h i j (by omega) hj hij
set_option maxHeartbeats 12800000 in
set_option maxRecDepth 1000000 in
theorem bsf_some (w0 : World) (blk off cap : Nat) (es : List En) (e : En) (hH : HoldsK enC 7 w0 blk off es.toArray) (hblk : blk < w0.heap.size) (hu : UpS es) (hsz : es.length < 1152921504606846976) :
    Calls Try.prog 56 #[.slice (some ⟨blk, off, none⟩) es.length cap, .agg (enA e), .func (.func 57) #[] #[]] w0 fun r w' => (∃ (k : Nat) (b : Bool), r = .returned (.tuple #[.int .i64 k, .bool b]) ∧ Found es e k b) ∧ SWK enC 7 w0 blk off es.toArray w' := by
  obtain ⟨c, hc⟩ : ∃ c, c = w0.heap.size := ⟨_, rfl⟩
  obtain ⟨W, hW⟩ : ∃ W, W = w0.alloc (.cells (enA e) 36) := ⟨_, rfl⟩
  have S0 : Aside (SWK enC 7 w0 blk off es.toArray W) := by rw [hW]; exact (SWK.start hH).alloc _
  have BX : Hid (W.heap[c]? = some (.cells (enC e).toArray 36 (0, 0))) := by rw [hW, hc]; exact heap_alloc_new w0 _
  have R : RowK enC 7 w0 blk off es.toArray := ⟨enC_len, enC_one, hH, hblk⟩
  have HC : Aside (CmpLays Try.prog 57 #[] enC 7 cfE blk off es.toArray.size w0) := cmpLaysE _ _ _ _
  have LB : Hid (∀ w : World, w.heap[c]? = some (.cells (enC e).toArray 36 (0, 0)) → ∀ n os, Sem.run Try.prog (loadCellsFrom ⟨c, 0, none⟩ 0 7 #[]) (grow (w.drewN n) os) = .ok (enC e).toArray (grow (w.drewN n) os)) := fun w h n os => box_load _ h n os
  have HW : Hid (w0.alloc (.cells (enA e) 36) = W) := hW.symm
  have HCC : Hid (w0.heap.size = c) := hc.symm
  have HU : Hid (UpS es) := hu
  clear hW hc hH hu
  have mixed : Try.prog.follows Departure.mixedOrders = true := by kernel_rfl
  have FG := Try.func56
  have aE := Try.isAgg36
  have zE := Try.sizeOf36
  have en0 : ∀ args w, (callFunc 57 args).run Try.prog w = .ok (.enter 57 args) w := enters_of Try.func57 (by kernel_rfl) rfl
  have t0 := Try.underlying0; have a0 := Try.isAgg0; have z0 := Try.sizeOf0; have v0 := Try.zeroValue0
  have t3 := Try.underlying3; have a3 := Try.isAgg3; have z3 := Try.sizeOf3; have v3 := Try.zeroValue3
  have t4 := Try.underlying4; have a4 := Try.isAgg4; have z4 := Try.sizeOf4; have v4 := Try.zeroValue4
  have t22 := Try.underlying22; have a22 := Try.isAgg22; have z22 := Try.sizeOf22; have v22 := Try.zeroValue22
  have t5 := Try.underlying97; have a5 := Try.isAgg97; have z5 := Try.sizeOf97; have v5 := Try.zeroValue97
  have t6 := Try.underlying92; have a6 := Try.isAgg92; have z6 := Try.sizeOf92; have v6 := Try.zeroValue92
  have hu22 := run_underlying t22; have hu3 := run_underlying t3; have hu6 := run_underlying t6
  generalize Try.prog = P at *
  obtain ⟨k, hk⟩ : ∃ k, k = 7 := ⟨_, rfl⟩
  rw [← hk] at zE R S0 HC LB ⊢
  have HK : Hid (k = 7) := hk
  clear hk
  go_enter FG, Try.ntmps56
  go_wp2_with fail
  rw [HW.out, HCC.out]
  go_loopg [9, 10] es.length (fun kx s9 s10 wr => ∃ lo hi : Nat, s9 = .int .i64 lo ∧ s10 = .int .i64 hi ∧ lo ≤ hi ∧ hi ≤ es.length ∧ hi - lo ≤ kx ∧ Aside (SWK enC k w0 blk off es.toArray wr) ∧ Hid (wr.heap[c]? = some (.cells (enC e).toArray 36 (0, 0))) ∧ Hid ((∀ t (h : t < es.length), t < lo → es[t].slot < e.slot) ∧ ∀ t (h : t < es.length), hi ≤ t → ¬ es[t].slot < e.slot))
  case atStart => exact ⟨0, es.length, rfl, rfl, Nat.zero_le _, Nat.le_refl _, Nat.le_refl _, S0, BX, (show Hid _ from (⟨fun t h c => absurd c (Nat.not_lt_zero _), fun t h c => by omega⟩ : _ ∧ _))⟩
  case round =>
    clear S0 BX
    obtain ⟨lo, hi, rfl, rfl, hlh, hin, hg, S1, BX, I⟩ := hrel
    by_cases hlt : lo < hi
    · have hltz : (lo : Int) < (hi : Int) := by omega
      obtain ⟨h, hh1, hh2, qh⟩ : ∃ h, lo ≤ h ∧ h < hi ∧ ((lo : Int) + (hi : Int)) / 2 = (h : Int) := ⟨(lo + hi) / 2, by omega, by omega, by omega⟩
      have rh : IntKind.i64.wrap (h : Int) = (h : Int) := by rw [IntKind.wrap_i64]; omega
      have hge : Hid (es.toArray[h]! = es[h]'(by omega)) := by show _ = _; simp [show h < es.length by omega]
      by_cases hc : (es[h]'(by omega)).slot < e.slot
      · have HCC2 : Hid ((es[h]'(by omega)).slot < e.slot) := hc
        obtain ⟨h', hh'⟩ : ∃ h', h + 1 = h' := ⟨_, rfl⟩
        have qh' : (h : Int) + 1 = (h' : Int) := by omega
        clear hc
        have ea1 : ((h : Int)).toNat = h := by omega
        have pa1 : (0 : Int) ≤ (h : Int) := by omega
        have ba1 : (h : Int) < (es.length : Int) := by omega
        have ra1 : IntKind.i64.wrap ((h : Int)) = (h : Int) := by rw [IntKind.wrap_i64]; omega
        obtain ⟨x1, hx1⟩ : ∃ z, z = es.toArray[h]! := ⟨_, rfl⟩
        have l1a := S1.out.ld R rfl P (h) (by simp; omega)
        have l1b := fun n os => LB.out _ BX.out n os
        rw [← hx1] at l1a
        have hc1 := S1.out.cmp HC.out rfl x1 e
        have hv1 : cfE x1 e < 0 := by rw [hx1, hge.out, cfE_neg]; exact HCC2.out
        have hd1 : decide (cfE x1 e < 0) = true := decide_eq_true hv1
        clear hx1
        go_wp2_with fail
        go_quiet_grown (first | (go_at_fn 57; refine Calls.grown_of (hc1 _ _)))
        have S2 : Aside (SWK enC k w0 blk off es.toArray (grow (wr.drewN nq) osq)) := S1.out.grown nq osq
        have BX2 : Hid ((grow (wr.drewN nq) osq).heap[c]? = _) := box_grow BX.out nq osq
        clear l1a l1b hc1 S1 BX
        generalize grow (wr.drewN nq) osq = w2 at S2 BX2 ⊢
        clear nq osq
        go_wp2
        go_roundg (hi - h')
        case measure => omega
        case rel =>
          refine ⟨h', hi, by first | rfl | go_num, rfl, by omega, hin, Nat.le_refl _, S2, BX2, (show Hid _ from (⟨fun t ht c => ?_, I.out.2⟩ : _ ∧ _))⟩
          by_cases c3 : t = h
          · subst c3
            exact HCC2.out
          · have := up_le HU.out (i := t) (j := h) (by omega) (by omega)
            have := HCC2.out
            omega
      · have HCC2 : Hid (¬ (es[h]'(by omega)).slot < e.slot) := hc
        clear hc
        have ea2 : ((h : Int)).toNat = h := by omega
        have pa2 : (0 : Int) ≤ (h : Int) := by omega
        have ba2 : (h : Int) < (es.length : Int) := by omega
        have ra2 : IntKind.i64.wrap ((h : Int)) = (h : Int) := by rw [IntKind.wrap_i64]; omega
        obtain ⟨x2, hx2⟩ : ∃ z, z = es.toArray[h]! := ⟨_, rfl⟩
        have l2a := S1.out.ld R rfl P (h) (by simp; omega)
        have l2b := fun n os => LB.out _ BX.out n os
        rw [← hx2] at l2a
        have hc2 := S1.out.cmp HC.out rfl x2 e
        have hv2 : ¬ cfE x2 e < 0 := by rw [hx2, hge.out, cfE_neg]; exact HCC2.out
        have hd2 : decide (cfE x2 e < 0) = false := decide_eq_false hv2
        clear hx2
        go_wp2_with fail
        go_quiet_grown (first | (go_at_fn 57; refine Calls.grown_of (hc2 _ _)))
        have S2 : Aside (SWK enC k w0 blk off es.toArray (grow (wr.drewN nq) osq)) := S1.out.grown nq osq
        have BX2 : Hid ((grow (wr.drewN nq) osq).heap[c]? = _) := box_grow BX.out nq osq
        clear l2a l2b hc2 S1 BX
        generalize grow (wr.drewN nq) osq = w2 at S2 BX2 ⊢
        clear nq osq
        go_wp2
        go_roundg (h - lo)
        case measure => omega
        case rel =>
          refine ⟨lo, h, rfl, by first | rfl | go_num, hh1, by omega, Nat.le_refl _, S2, BX2, (show Hid _ from (⟨I.out.1, fun t ht c => ?_⟩ : _ ∧ _))⟩
          by_cases c3 : t = h
          · subst c3
            exact HCC2.out
          · have := up_le HU.out (i := h) (j := t) (by omega) ht
            have := HCC2.out
            omega
    · have hltz : ¬ (lo : Int) < (hi : Int) := by omega
      obtain rfl : lo = hi := by omega
      have FD : Hid (∀ b : Bool, (b = true → ∃ h : lo < es.length, es[lo].slot = e.slot) → (b = false → ∀ h : lo < es.length, es[lo].slot ≠ e.slot) → Found es e lo b) := fun b h1 h2 => ⟨hin, fun x hx => by
          obtain ⟨i, hi, rfl⟩ := List.mem_take_iff_getElem.1 hx
          exact I.out.1 i (by omega) (by omega), fun x hx => by
          obtain ⟨i, hi, rfl⟩ := List.mem_drop_iff_getElem.1 hx
          exact I.out.2 (lo + i) (by omega) (by omega), h1, h2⟩
      clear hlt hlh
      by_cases hn : lo < es.length
      · have hnz : (lo : Int) < (es.length : Int) := by omega
        have h := lo
        have hge : Hid (es.toArray[lo]! = es[lo]) := by show _ = _; simp [hn]
        by_cases hc : es[lo].slot = e.slot
        · have HCC2 : Hid (es[lo].slot = e.slot) := hc
          clear hc
          have ea3 : ((lo : Int)).toNat = lo := by omega
          have pa3 : (0 : Int) ≤ (lo : Int) := by omega
          have ba3 : (lo : Int) < (es.length : Int) := by omega
          have ra3 : IntKind.i64.wrap ((lo : Int)) = (lo : Int) := by rw [IntKind.wrap_i64]; omega
          obtain ⟨x3, hx3⟩ : ∃ z, z = es.toArray[lo]! := ⟨_, rfl⟩
          have l3a := S1.out.ld R rfl P (lo) (by simp; omega)
          have l3b := fun n os => LB.out _ BX.out n os
          rw [← hx3] at l3a
          have hc3 := S1.out.cmp HC.out rfl x3 e
          have hv3 : cfE x3 e = 0 := by rw [hx3, hge.out, cfE_zero]; exact HCC2.out
          have hd3 : (cfE x3 e == 0) = true := by rw [hv3]; rfl
          clear hx3
          go_wp2_with fail
          go_quiet_grown (first | (go_at_fn 57; refine Calls.grown_of (hc3 _ _)))
          have S2 : Aside (SWK enC k w0 blk off es.toArray (grow (wr.drewN nq) osq)) := S1.out.grown nq osq
          have BX2 : Hid ((grow (wr.drewN nq) osq).heap[c]? = _) := box_grow BX.out nq osq
          clear l3a l3b hc3 S1 BX
          generalize grow (wr.drewN nq) osq = w2 at S2 BX2 ⊢
          clear nq osq
          go_wp2
          go_ret2
          exact ⟨⟨lo, true, rfl, FD.out true (fun _ => ⟨hn, HCC2.out⟩) (fun h => by cases h)⟩, S2.out⟩
        · have HCC2 : Hid (¬ es[lo].slot = e.slot) := hc
          clear hc
          have ea4 : ((lo : Int)).toNat = lo := by omega
          have pa4 : (0 : Int) ≤ (lo : Int) := by omega
          have ba4 : (lo : Int) < (es.length : Int) := by omega
          have ra4 : IntKind.i64.wrap ((lo : Int)) = (lo : Int) := by rw [IntKind.wrap_i64]; omega
          obtain ⟨x4, hx4⟩ : ∃ z, z = es.toArray[lo]! := ⟨_, rfl⟩
          have l4a := S1.out.ld R rfl P (lo) (by simp; omega)
          have l4b := fun n os => LB.out _ BX.out n os
          rw [← hx4] at l4a
          have hc4 := S1.out.cmp HC.out rfl x4 e
          have hv4 : ¬ cfE x4 e = 0 := by rw [hx4, hge.out, cfE_zero]; exact HCC2.out
          have hd4 : (cfE x4 e == 0) = false := by simpa using hv4
          clear hx4
          go_wp2_with fail
          go_quiet_grown (first | (go_at_fn 57; refine Calls.grown_of (hc4 _ _)))
          have S2 : Aside (SWK enC k w0 blk off es.toArray (grow (wr.drewN nq) osq)) := S1.out.grown nq osq
          have BX2 : Hid ((grow (wr.drewN nq) osq).heap[c]? = _) := box_grow BX.out nq osq
          clear l4a l4b hc4 S1 BX
          generalize grow (wr.drewN nq) osq = w2 at S2 BX2 ⊢
          clear nq osq
          go_wp2
          go_ret2
          exact ⟨⟨lo, false, rfl, FD.out false (fun h => by cases h) (fun _ _ => HCC2.out)⟩, S2.out⟩
      · have hnz : ¬ (lo : Int) < (es.length : Int) := by omega
        go_wp2_with fail
        go_big_region_o
        all_goals go_wp2
        go_ret2
        exact ⟨⟨lo, false, rfl, FD.out false (fun h => by cases h) (fun _ h => absurd h hn)⟩, S1.out.drew⟩
end
end Go.Proofs.Ytkngpfngfmbmjaa
