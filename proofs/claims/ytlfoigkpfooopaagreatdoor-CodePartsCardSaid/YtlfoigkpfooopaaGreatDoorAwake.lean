/- The contract of awake: the examples of the chapter hold. By an AI agent. -/
import Derived.Test.YtlfoigkpfooopaaGreatDoorList
namespace Go.Proofs.YtlfoigkpfooopaaGreatDoor
open Go.RowKit Pl

theorem aw_number (W : World) : Calls Tryz.prog 97 #[.int .i64 2] W fun e w' => e = .returned (.tuple #[.string ⟨#[49, 48, 49, 48, 48]⟩, .int .i64 0]) ∧ Below W.heap.size W w' := Number_yes 2 W (by omega)
theorem aw_head (W : World) : Calls Tryz.prog 102 #[.string ⟨#[49, 49, 48, 48, 49, 48, 48]⟩] W fun e w' => e = .returned (.tuple #[.string ⟨#[49, 48, 48]⟩, .int .i64 0]) ∧ Below W.heap.size W w' := Head_yes (S [49, 49, 48, 48, 49, 48, 48]) W (by decide)
theorem aw_tail (W : World) : Calls Tryz.prog 103 #[.string ⟨#[49, 49, 48, 48, 49, 48, 48]⟩] W fun e w' => e = .returned (.tuple #[.string ⟨#[49, 48, 48]⟩, .int .i64 0]) ∧ Below W.heap.size W w' := Tail_yes (S [49, 49, 48, 48, 49, 48, 48]) W (by decide)
theorem aw_list (W : World) (b : Nat) (h : StrAt W b 0 [[48], [49, 48, 48]]) : Calls Tryz.prog 30 #[.slice (some ⟨b, 0, none⟩) 2 2] W fun e w' => e = .returned (.tuple #[.string ⟨#[49, 48, 49, 49, 48, 48, 48]⟩, .int .i64 0]) ∧ Below W.heap.size W w' := List_yes W b 0 2 _ h (by decide) (by unfold AllV; decide) (by decide)
theorem aw_valid (b : Bool) (l : List UInt8) (W : World) (hl : l.length ≤ 10) (h : vld l = b) : Calls Tryz.prog 48 #[.string (S l)] W fun e w' => e = .returned (.bool b) ∧ Below W.heap.size W w' := Valid_is b (S l) W (by rw [S_size]; omega) h

end Go.Proofs.YtlfoigkpfooopaaGreatDoor
