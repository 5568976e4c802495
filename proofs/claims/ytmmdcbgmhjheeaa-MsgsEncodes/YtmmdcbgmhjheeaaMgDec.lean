/-
  A text read as a message, by the document's own (package latchkeyref04): the whole. The condition: the text is no longer than a text of 64 bits' length.
-/
import Derived.Test.YtmmdcbgmhjheeaaMgDecL
namespace Go.Proofs.Ytmmdcbgmhjheeaa
open Go.RowKit

/-- Decode. -/
theorem mdecode_any (s : ByteArray) (hs : s.size ≤ 9223372036854775807) (w : World) :
    Calls Try.prog 11 #[.string s] w fun e w' => ∃ v, e = .returned (.tuple #[.agg #[.int .i64 (decMT s).1.k, .int .i64 (decMT s).1.f, .int .i64 (decMT s).1.t, .int .i64 (decMT s).1.b, .int .i64 (decMT s).1.sl, .int .i64 (decMT s).1.ro, .int .i64 (decMT s).1.se, .int .i64 (decMT s).1.er, v, .int .i64 (decMT s).1.c.kind, .int .i64 (decMT s).1.c.session, .int .i64 (decMT s).1.c.seq, .string (decMT s).1.c.name, .int .i64 (decMT s).1.c.n, .int .i64 (decMT s).1.rs, .int .i64 (decMT s).1.rq, .int .i64 (decMT s).1.re, .int .u64 (decMT s).1.tk, .int .i64 (decMT s).1.rn, .string (decMT s).1.x], .int .i64 (decMT s).2]) ∧ EntAt w' v (decMT s).1.es ∧ Below w.heap.size w w' := by
  cases hn : inB (readH (s, false)).1.n 0 4096 with
  | false => exact mdecode_a1 s hs w hn
  | true =>
    by_cases hz : s.size ≤ 524288
    · exact mdecode_l s hs w hn hz
    · exact mdecode_a2 s hs w hn (by omega)
end Go.Proofs.Ytmmdcbgmhjheeaa
