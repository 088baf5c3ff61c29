/- The law's awake: the examples of the chapter. By an AI agent. -/
import Derived.Test.YtpiahjbpidcjpaaDbl
namespace Go.Proofs.Ytpiahjbpidcjpaa
open Go.RowKit Pl

theorem add_at (g j : Nat) : (⟨g, 0, none⟩ : Addr).add j = ⟨g, j, none⟩ := by
  cases j with
  | zero => rfl
  | succ j => simp [Addr.add]
/-- a program that has just been written down -/
theorem lit_prog (w : World) (ps : List Ins) (h0 : 0 < ps.length) : ArgP (w.alloc (.cells (progV ps).toArray 57)) (.slice (some ⟨w.heap.size, 0, none⟩) ps.length ps.length) ps :=
  .inr ⟨h0, _, 0, _, rfl, progAt_of (by simp) fun j u hu => by
    rw [add_at, World.cell?_alloc_new]
    simpa using hu⟩
set_option maxHeartbeats 400000 in
set_option maxRecDepth 100000 in
theorem doubles_any (w : World) : Calls Try.prog 77 #[] w fun e w' => e = .returned (.slice (some ⟨w.heap.size, 0, none⟩) 2 2) ∧ w' = w.alloc (.cells (progV pDbl).toArray 57) := by
  go_enter Try.func77, Try.ntmps77
  go_wp2
  go_ret
  exact ⟨rfl, rfl⟩
theorem S_list (l : List UInt8) : (S l).data.toList = l := by simp
set_option maxHeartbeats 3200000 in
set_option maxRecDepth 100000 in
theorem awake3_any (w : World) : Calls Try.prog 21 #[] w fun e w' => e = .returned (.bool true) ∧ Below w.heap.size w w' := by
  have H1 := Lib.hid (fun W v h => Run_yes W v pTail (S [49, 48, 49, 48, 48]) 10 h pTail_valid (by decide) (by decide))
  have H2 := Lib.hid (fun W v h => Run_yes W v [] (S [49, 48, 48]) 0 h pNil_valid (by decide) (by decide))
  have H3 := Lib.hid (fun W v h => Run_yes W v pLoop (S [48]) 1000 h pLoop_valid (by decide) (by decide))
  have H4 := Lib.hid (fun W v h => Run_yes W v pDbl (S [48]) 1000 h pDbl_valid (by decide) (by decide))
  rw [S_list, run_tail] at H1
  rw [S_list, run_nil] at H2
  rw [S_list, run_loop] at H3
  rw [S_list, run_dbl] at H4
  go_enter Try.func21, Try.ntmps21
  go_wp2_with fail
  refine (H1.out _ _ (lit_prog w pTail (by decide))).mono ?_
  rintro e w1 ⟨rfl, hb1⟩
  have hB1 : Below w.heap.size w w1 := ((Below.refl _ _).alloc (Nat.le_refl _) _).trans (hb1.mono (by simp))
  clear hb1
  go_wp2_with fail
  refine (H2.out _ _ (.inl ⟨rfl, .inl rfl⟩)).mono ?_
  rintro e w2 ⟨rfl, hb2⟩
  have hB2 := hB1.trans (hb2.mono hB1.size)
  clear hb2 hB1
  go_wp2_with fail
  refine (H3.out _ _ (lit_prog w2 pLoop (by decide))).mono ?_
  rintro e w3 ⟨rfl, hb3⟩
  have hB3 : Below w.heap.size w w3 := (hB2.alloc hB2.size _).trans (hb3.mono (by have := hB2.size; simp; omega))
  clear hb3 hB2
  go_wp2_with fail
  refine (doubles_any w3).mono ?_
  rintro e w4 ⟨rfl, rfl⟩
  go_wp2_with fail
  refine (H4.out _ _ (lit_prog w3 pDbl (by decide))).mono ?_
  rintro e w5 ⟨rfl, hb5⟩
  have hB5 : Below w.heap.size w w5 := (hB3.alloc hB3.size _).trans (hb5.mono (by have := hB3.size; simp; omega))
  clear hb5 hB3
  go_wp2
  go_ret
  exact ⟨rfl, hB5⟩
end Go.Proofs.Ytpiahjbpidcjpaa
