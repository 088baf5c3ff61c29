/- The walks of TreeConses, TreeParts, TreeOneWay. By an AI agent. -/
import Derived.Test.YtpiahjbpidcjpaaAwake
namespace Go.Proofs.Ytpiahjbpidcjpaa
open Go.RowKit Pl

theorem cat3 (a b : ByteArray) : ((49 :: (a.data.toList ++ b.data.toList)) == (({ data := #[49] } : ByteArray) ++ a ++ b).toList) = true := by
  rw [ByteArray.toList_eq, beq_iff_eq]
  simp
theorem rValid_is (b : Bool) (s : ByteArray) (w : World) (hs : s.size ≤ 281474976710656) (h : vld s.data.toList = b) :
    Calls Try.prog 22 #[.string s] w fun e w' => e = .returned (.bool b) ∧ w = w' := by
  rw [← h]; exact rValid_any s w hs

end Go.Proofs.Ytpiahjbpidcjpaa
