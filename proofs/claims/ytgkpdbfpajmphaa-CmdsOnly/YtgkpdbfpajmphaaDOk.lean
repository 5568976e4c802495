/-
  Package cmds answers as the document says: Check, Encode, Decode, EncodeEntry, DecodeEntry, in every world. The condition: a text that is decoded is no longer than a text of 64 bits' length.
-/
import Derived.Test.YtgkpdbfpajmphaaDDecE
import Derived.Test.YtgkpdbfpajmphaaCmRows
namespace Go.Proofs.Ytgkpdbfpajmphaa
open Go.RowKit

theorem cmdsOk_any : CmdsOk anyWorld where
  keep := fun _ _ => trivial
  check := fun K S Q N T w _ => check_any K S Q N T w
  encode := fun K S Q N T w _ => encode_any K S Q N T w
  decode := fun s w hs _ => decode_any s hs w
  encodeE := fun A B K S Q N T w _ => encodeE_any A B K S Q N T w
  decodeE := fun s w hs _ => decodeE_any s hs w
end Go.Proofs.Ytgkpdbfpajmphaa
