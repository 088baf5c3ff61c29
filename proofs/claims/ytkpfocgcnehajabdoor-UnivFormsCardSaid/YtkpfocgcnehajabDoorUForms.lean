/- UnivForms: its walk. By an AI agent. -/
import Derived.Test.YtkpfocgcnehajabDoorUAwk
import Derived.Test.YtkpfocgcnehajabDoorSameP
namespace Go.Proofs.YtkpfocgcnehajabDoor
open Go.RowKit Go.Maps Pl

theorem regs_univL : regs univL = 11 := by kernel_rfl
theorem code_univL : (enc (codes univL)).length ≤ 100000 := by
  have h : decide ((enc (codes univL)).length ≤ 100000) = true := by kernel_rfl
  exact of_decide_eq_true h
theorem idx_104 (a : Int) : ∃ k : Nat, (wrap64 (a.tmod 104 + 104)).tmod 104 = (k : Int) ∧ k < 104 := by
  have h1 : -104 < a.tmod 104 := by
    exact Int.lt_tmod_of_pos a (b := 104) (by decide)
  have h2 := Int.tmod_lt_of_pos a (b := 104) (by decide)
  have h3 := Int.tmod_lt_of_pos (a.tmod 104 + 104) (b := 104) (by decide)
  have h4 := Int.tmod_nonneg 104 (a := a.tmod 104 + 104) (by omega)
  have hw : wrap64 (a.tmod 104 + 104) = a.tmod 104 + 104 := by unfold wrap64; omega
  rw [hw]
  exact ⟨((a.tmod 104 + 104).tmod 104).toNat, by omega, by omega⟩
set_option maxHeartbeats 3200000 in
set_option maxRecDepth 100000 in
theorem UnivForms_any (w : World) (a : Int) (hE : TabE w) :
    Calls Tryd.prog 3 #[.int .i64 a] w fun e w' => e = .returned (.bool true) ∧ Below w.heap.size w w' := by
  obtain ⟨k, hk, hk2⟩ := idx_104 a
  have HU := Lib.hid (fun W (hb : Below w.heap.size w W) => Universal_any W (hE.below hb))
  have HTW := Lib.hid (fun W v h => Twin_arg W v univL h (by rw [univL_len]; decide))
  have HV := Lib.hid (fun W v h => PV_arg W v univL true h (by rw [univL_len]; decide) (fun x hx => by have := PV_tree_le univL_valid hx; omega) (by simp [univL_valid]))
  have HRG := Lib.hid (fun W v h => Regs_arg W v univL h univL_valid)
  rw [regs_univL] at HRG
  have HCD := Lib.hid (fun W v h => Code_arg W v univL h univL_valid)
  have HSA := Lib.hid (fun W v v2 h1 h2 => PSame_arg W v v2 univL univL true h1 h2 (by rw [univL_len]; decide) (by simp))
  have HAW := Lib.hid (fun W (hb : Below w.heap.size w W) => awake6_any W (hE.below hb))
  have hcs : decide ((100000 : Int) < ((S (enc (codes univL))).size : Int)) = false := by rw [S_size, decide_eq_false_iff_not]; have := code_univL; omega
  generalize S (enc (codes univL)) = cs at *
  clear hE
  go_enter Tryd.func3, Tryd.ntmps3
  go_wp2_with fail
  refine (HU.out _ (Below.refl _ _)).mono ?_
  rintro e w1 ⟨g, cap, rfl, ho, hb⟩
  have HO1 := Lib.hid ho; have HB1 := Lib.hid hb
  clear ho hb
  go_wp2_with fail
  refine (HTW.out _ _ (own_argp HO1.out)).mono ?_
  rintro e w2 ⟨v2, rfl, ht, hb⟩
  have HT2 := Lib.hid ht; have D2 := Lib.hid hb
  clear ht hb
  go_wp2_with fail
  refine (HV.out _ _ ((own_argp HO1.out).below D2.out)).mono ?_
  rintro e w3 ⟨rfl, hb⟩
  rename_i hK
  have D3 := Lib.hid (bstep D2.out hb); have T3 := Lib.hid (own_below' HT2.out hb)
  clear hb
  dsimp only
  apply hK
  clear hK
  go_wp2_with fail
  refine (HRG.out _ _ ((own_argp HO1.out).below D3.out)).mono ?_
  rintro e w4 ⟨rfl, hb⟩
  rename_i hK
  have D4 := Lib.hid (bstep D3.out hb); have T4 := Lib.hid (own_below' T3.out hb)
  clear hb
  dsimp only
  apply hK
  clear hK
  go_wp2_with fail
  refine (HCD.out _ _ ((own_argp HO1.out).below D4.out)).mono ?_
  rintro e w5 ⟨rfl, hb⟩
  rename_i hK
  have D5 := Lib.hid (bstep D4.out hb); have T5 := Lib.hid (own_below' T4.out hb)
  have B5 := Lib.hid (bstep HB1.out (bstep D4.out hb))
  have hown := own_below' HO1.out (bstep D4.out hb)
  have GB : Hid (w.heap.size ≤ g ∧ g < w1.heap.size) := Lib.hid (HO1.out.lt g rfl)
  clear hb
  have e0 : ∃ u, w5.cell? ⟨g, k * 5, none⟩ = some u := by rw [hown.cellAt (k * 5) (by omega)]; exact ⟨_, List.getElem?_eq_getElem (by rw [hown.1]; omega)⟩
  have e1 : ∃ u, w5.cell? ⟨g, k * 5 + 1, none⟩ = some u := by rw [hown.cellAt (k * 5 + 1) (by omega)]; exact ⟨_, List.getElem?_eq_getElem (by rw [hown.1]; omega)⟩
  have e2 : ∃ u, w5.cell? ⟨g, k * 5 + 2, none⟩ = some u := by rw [hown.cellAt (k * 5 + 2) (by omega)]; exact ⟨_, List.getElem?_eq_getElem (by rw [hown.1]; omega)⟩
  have e3 : ∃ u, w5.cell? ⟨g, k * 5 + 3, none⟩ = some u := by rw [hown.cellAt (k * 5 + 3) (by omega)]; exact ⟨_, List.getElem?_eq_getElem (by rw [hown.1]; omega)⟩
  have e4 : ∃ u, w5.cell? ⟨g, k * 5 + 4, none⟩ = some u := by rw [hown.cellAt (k * 5 + 4) (by omega)]; exact ⟨_, List.getElem?_eq_getElem (by rw [hown.1]; omega)⟩
  have f0 := hown.frozenAt (k * 5); have f1 := hown.frozenAt (k * 5 + 1); have f2 := hown.frozenAt (k * 5 + 2); have f3 := hown.frozenAt (k * 5 + 3); have f4 := hown.frozenAt (k * 5 + 4)
  obtain ⟨u0, e0⟩ := e0; obtain ⟨u1, e1⟩ := e1; obtain ⟨u2, e2⟩ := e2; obtain ⟨u3, e3⟩ := e3; obtain ⟨u4, e4⟩ := e4
  clear hown
  have hk3 : (k : Int) < 104 := by omega
  have B6 := Lib.hid (Below.setCell (Below.setCell (Below.setCell (Below.setCell (Below.setCell B5.out (p := ⟨g, k * 5, none⟩) GB.out.1 (.int .i64 (-1))) (p := ⟨g, k * 5 + 1, none⟩) GB.out.1 (.int .i64 0)) (p := ⟨g, k * 5 + 2, none⟩) GB.out.1 (.int .i64 0)) (p := ⟨g, k * 5 + 3, none⟩) GB.out.1 (.int .i64 0)) (p := ⟨g, k * 5 + 4, none⟩) GB.out.1 (.string ⟨#[]⟩))
  have T6 := Lib.hid (ownsRow_setCell_below (ownsRow_setCell_below (ownsRow_setCell_below (ownsRow_setCell_below (ownsRow_setCell_below T5.out (a := ⟨g, k * 5, none⟩) GB.out.2 (.int .i64 (-1))) (a := ⟨g, k * 5 + 1, none⟩) GB.out.2 (.int .i64 0)) (a := ⟨g, k * 5 + 2, none⟩) GB.out.2 (.int .i64 0)) (a := ⟨g, k * 5 + 3, none⟩) GB.out.2 (.int .i64 0)) (a := ⟨g, k * 5 + 4, none⟩) GB.out.2 (.string ⟨#[]⟩))
  dsimp only
  apply hK
  clear hK
  go_wp2_with fail
  refine (HU.out _ B6.out).mono ?_
  rintro e w7 ⟨g2, cap2, rfl, ho, hb⟩
  have B7 := Lib.hid (bstep B6.out hb); have T7 := Lib.hid (own_below' T6.out hb); have O7 := Lib.hid (own_argp ho)
  clear ho hb e0 e1 e2 e3 e4 f0 f1 f2 f3 f4 B6 T6
  go_wp2_with fail
  refine (HSA.out _ _ _ O7.out (own_prog T7.out).2.1).mono ?_
  rintro e w8 ⟨rfl, hb⟩
  rename_i hK
  have B8 := Lib.hid (bstep B7.out hb)
  clear hb
  dsimp only
  apply hK
  clear hK
  go_wp2_with fail
  refine (HAW.out _ B8.out).mono ?_
  rintro e w9 ⟨rfl, hb⟩
  rename_i hK
  have B9 := Lib.hid (bstep B8.out hb)
  clear hb
  dsimp only
  apply hK
  clear hK
  go_wp2_with fail
  go_ret
  exact ⟨rfl, B9.out⟩
end Go.Proofs.YtkpfocgcnehajabDoor
