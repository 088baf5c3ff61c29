/- Whether states are equal, or nothing. By an AI agent. -/
import Derived.Test.YtkpfocgcnehajaaAft
import Derived.Test.YtkpfocgcnehajaaLsts
namespace Go.Proofs.Ytkpfocgcnehajaa
open Go.RowKit Pl

set_option maxHeartbeats 400000 in
set_option maxRecDepth 100000 in
theorem none3_any (w : World) : Calls Try.prog 57 #[.agg #[.int .i64 0, .slice none 0 0]] w fun e w' => e = .returned (.bool true) ∧ Below w.heap.size w w' := by
  go_enter Try.func57, Try.ntmps57
  go_wp2
  go_ret
  exact ⟨rfl, (Below.refl _ _).alloc (Nat.le_refl _) _⟩
set_option maxHeartbeats 1600000 in
set_option maxRecDepth 100000 in
theorem SameState_yes (w : World) (a : Int) (b off cap b2 off2 cap2 : Nat) (ls : List (List UInt8)) (h1 : StrAt w b off ls) (h2 : StrAt w b2 off2 ls) (hm : ls.length ≤ 281474976710656) :
    Calls Try.prog 56 #[.agg #[.int .i64 a, .slice (some ⟨b, off, none⟩) ls.length cap], .agg #[.int .i64 a, .slice (some ⟨b2, off2, none⟩) ls.length cap2]] w fun e w' => e = .returned (.bool true) ∧ Below w.heap.size w w' := by
  have HS := Lib.hid fun W (hb : Below w.heap.size w W) => Same_yes W b off cap b2 off2 cap2 ls (h1.below hb) (h2.below hb) hm
  clear h1 h2 hm
  generalize ls.length = n at *
  go_enter Try.func56, Try.ntmps56
  go_wp2_with fail
  have hb : Below w.heap.size w ((w.alloc (.cells #[.int .i64 a, .slice (some ⟨b, off, none⟩) n cap] 78)).alloc (.cells #[.int .i64 a, .slice (some ⟨b2, off2, none⟩) n cap2] 78)) := ((Below.refl _ _).alloc (Nat.le_refl _) _).alloc (by simp) _
  refine (HS.out _ hb).mono ?_
  rintro e w1 ⟨rfl, h1⟩
  have h2 := bstep hb h1
  clear hb h1
  go_wp2
  go_ret
  exact ⟨rfl, h2⟩
end Go.Proofs.Ytkpfocgcnehajaa
