/- The contract of awake: the examples of the chapter hold. By an AI agent. -/
import Derived.Test.YtpiahjbpidcjpaaList
namespace Go.Proofs.Ytpiahjbpidcjpaa
open Go.RowKit Pl
theorem aw_valid (b : Bool) (l : List UInt8) (W : World) (hl : l.length ≤ 10) (h : vld l = b) : Calls Try.prog 65 #[.string (S l)] W fun e w' => e = .returned (.bool b) ∧ Below W.heap.size W w' := Valid_is b (S l) W (by rw [S_size]; omega) h

end Go.Proofs.Ytpiahjbpidcjpaa
