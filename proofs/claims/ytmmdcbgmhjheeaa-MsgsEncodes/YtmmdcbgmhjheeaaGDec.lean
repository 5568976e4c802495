/-
  Package msgs: Decode, for every text: the message or the error. No condition.
-/
import Derived.Test.YtmmdcbgmhjheeaaGDecC
namespace Go.Proofs.Ytmmdcbgmhjheeaa
open Go.RowKit


def outH (s : ByteArray) : Option (List En × St) := if inB (readH (s, false)).1.n 0 4096 = true then readEs (readH (s, false)).1.n.toNat (readH (s, false)).2 else none
theorem outH_eq {s s9 : ByteArray} {b9 : Bool} {N : Nat} {hd : Hd} (HH : readH (s, false) = (hd, (s9, b9))) (hn : hd.n = zag N) : entsOut N (s9, b9) = outH s := by
  unfold entsOut outH
  rw [HH]
  simp only
  rw [hn]
/-- Decode. -/
theorem gdecode_any (s : ByteArray) (w : World) :
    Calls Try.prog 10 #[.string s] w fun e w' => ∃ v, e = .returned (.tuple #[.agg #[.int .i64 (decMT s).1.k, .int .i64 (decMT s).1.f, .int .i64 (decMT s).1.t, .int .i64 (decMT s).1.b, .int .i64 (decMT s).1.sl, .int .i64 (decMT s).1.ro, .int .i64 (decMT s).1.se, .int .i64 (decMT s).1.er, v, .int .i64 (decMT s).1.c.kind, .int .i64 (decMT s).1.c.session, .int .i64 (decMT s).1.c.seq, .string (decMT s).1.c.name, .int .i64 (decMT s).1.c.n, .int .i64 (decMT s).1.rs, .int .i64 (decMT s).1.rq, .int .i64 (decMT s).1.re, .int .u64 (decMT s).1.tk, .int .i64 (decMT s).1.rn, .string (decMT s).1.x], .int .i64 (decMT s).2]) ∧ EntAt w' v (decMT s).1.es ∧ Below w.heap.size w w' := by
  by_cases hz : s.size ≤ 524288
  · cases ho : outH s with
    | none => exact gdecode_e s w hz (fun N s9 b9 hd HH hn => (outH_eq HH hn).trans ho)
    | some p =>
      obtain ⟨l, sk, bk⟩ := p
      have hN : ∀ N s9 b9 hd, readH (s, false) = (hd, (s9, b9)) → hd.n = zag N → entsOut N (s9, b9) = some (l, sk, bk) := fun N s9 b9 hd HH hn => (outH_eq HH hn).trans ho
      cases hc : decC (readL (sk, bk)).1.c with
      | none => exact gdecode_c s w hz hN hc
      | some cc =>
        by_cases hD : rD (readL (sk, bk)).2.1 (readL (sk, bk)).2.2 = 0
        · cases hM : witB (mkM (readH (s, false)).1 l cc (readL (sk, bk)).1) with
          | false => exact gdecode_w s w hz hN hc hD hM
          | true => exact gdecode_y s w hz hN hc hD hM
        · exact gdecode_d s w hz hN hc hD
  · exact gdecode_l s w (by omega)
end Go.Proofs.Ytmmdcbgmhjheeaa
