/- The contract of awake: the examples of the chapter hold. By an AI agent. -/
import Derived.Test.YtkodkimdhalpcaaList
namespace Go.Proofs.Ytkodkimdhalpcaa
open Go.RowKit Pl

theorem aw_number (W : World) : Calls Try.prog 28 #[.int .i64 2] W fun e w' => e = .returned (.tuple #[.string ⟨#[49, 48, 49, 48, 48]⟩, .int .i64 0]) ∧ Below W.heap.size W w' := Number_yes 2 W (by omega)
theorem aw_head (W : World) : Calls Try.prog 11 #[.string ⟨#[49, 49, 48, 48, 49, 48, 48]⟩] W fun e w' => e = .returned (.tuple #[.string ⟨#[49, 48, 48]⟩, .int .i64 0]) ∧ Below W.heap.size W w' := Head_yes (S [49, 49, 48, 48, 49, 48, 48]) W (by decide)
theorem aw_tail (W : World) : Calls Try.prog 12 #[.string ⟨#[49, 49, 48, 48, 49, 48, 48]⟩] W fun e w' => e = .returned (.tuple #[.string ⟨#[49, 48, 48]⟩, .int .i64 0]) ∧ Below W.heap.size W w' := Tail_yes (S [49, 49, 48, 48, 49, 48, 48]) W (by decide)
theorem aw_list (W : World) (b : Nat) (h : StrAt W b 0 [[48], [49, 48, 48]]) : Calls Try.prog 30 #[.slice (some ⟨b, 0, none⟩) 2 2] W fun e w' => e = .returned (.tuple #[.string ⟨#[49, 48, 49, 49, 48, 48, 48]⟩, .int .i64 0]) ∧ Below W.heap.size W w' := List_yes W b 0 2 _ h (by decide) (by unfold AllV; decide) (by decide)
theorem aw_valid (b : Bool) (l : List UInt8) (W : World) (hl : l.length ≤ 10) (h : vld l = b) : Calls Try.prog 17 #[.string (S l)] W fun e w' => e = .returned (.bool b) ∧ Below W.heap.size W w' := Valid_is b (S l) W (by rw [S_size]; omega) h

set_option maxHeartbeats 800000 in
set_option maxRecDepth 100000 in
theorem awake_any (w : World) : Calls Try.prog 19 #[] w fun e w' => e = .returned (.bool true) ∧ Below w.heap.size w w' := by
  go_enter Try.func19, Try.ntmps19
  go_wp2_with fail
  refine (aw_number _).mono ?_
  rintro e w1 ⟨rfl, h1⟩
  go_wp2_with fail
  refine (aw_head _).mono ?_
  rintro e w2 ⟨rfl, h2⟩
  go_wp2_with fail
  refine (aw_tail _).mono ?_
  rintro e w3 ⟨rfl, h3⟩
  go_wp2_with fail
  refine (aw_list _ _ ?hs).mono ?_
  case hs =>
    refine ⟨by simp, fun k hk => ?_⟩
    match k, hk with
    | 0, _ => simp [World.cell?_alloc_at]
    | 1, _ => simp [World.cell?_alloc_at]
  rintro e w4 ⟨rfl, h4⟩
  have h5 : Below w3.heap.size w3 w4 := ((Below.refl _ w3).alloc (Nat.le_refl _) _).trans (h4.mono (by simp))
  clear h4
  go_wp2_with fail
  refine (aw_valid true [48] _ (by decide) (by decide)).mono ?_
  rintro e w6 ⟨rfl, h6⟩
  go_wp2_with fail
  refine (aw_valid false [49] _ (by decide) (by decide)).mono ?_
  rintro e w7 ⟨rfl, h7⟩
  go_wp2_with fail
  refine (aw_valid false [48, 48] _ (by decide) (by decide)).mono ?_
  rintro e w8 ⟨rfl, h8⟩
  go_wp2_with fail
  refine (aw_valid false [50] _ (by decide) (by decide)).mono ?_
  rintro e w9 ⟨rfl, h9⟩
  go_wp2_with fail
  refine (aw_valid false [] _ (by decide) (by decide)).mono ?_
  rintro e w10 ⟨rfl, h10⟩
  go_wp2_with fail
  go_ret
  exact ⟨rfl, bstep (bstep (bstep (bstep (bstep (bstep (bstep (bstep h1 h2) h3) h5) h6) h7) h8) h9) h10⟩
end Go.Proofs.Ytkodkimdhalpcaa
