/- The statement SpecAgain, walked. By an AI agent. -/
import Derived.Test.YtmhoacnbmbhcjaaGreatDoorMetaW
import Derived.Test.YtmhoacnbmbhcjaaGreatDoorMetaO
import Derived.Test.YtmhoacnbmbhcjaaGreatDoorSp5
import Derived.Test.YtmhoacnbmbhcjaaGreatDoorKnowA
namespace Go.Proofs.YtmhoacnbmbhcjaaGreatDoor
open Go.RowKit Pl

theorem idx_11 (a : Int) : ∃ k : Nat, (wrap64 (a.tmod 11 + 11)).tmod 11 = (k : Int) ∧ k < 11 := by
  have h1 : -11 < a.tmod 11 := by
    exact Int.lt_tmod_of_pos a (b := 11) (by decide)
  have h2 := Int.tmod_lt_of_pos a (b := 11) (by decide)
  have h3 := Int.tmod_lt_of_pos (a.tmod 11 + 11) (b := 11) (by decide)
  have h4 := Int.tmod_nonneg 11 (a := a.tmod 11 + 11) (by omega)
  have hw : wrap64 (a.tmod 11 + 11) = a.tmod 11 + 11 := by unfold wrap64; omega
  rw [hw]
  exact ⟨((a.tmod 11 + 11).tmod 11).toNat, by omega, by omega⟩
set_option maxHeartbeats 3200000 in
set_option maxRecDepth 100000 in
theorem SpecAgain_any (w : World) (a : Int) :
    Calls Tryz.prog 12 #[.int .i64 a] w fun e w' => e = .returned (.bool true) ∧ Below w.heap.size w w' := by
  obtain ⟨k, hk, hk2⟩ := idx_11 a
  have HPV := Lib.hid (fun W v h => PV_arg W v metaL true h (by decide) (fun x hx => by have := pvalid_tree metaL_valid hx; omega) (by simp [metaL_valid]))
  have HT := Lib.hid (fun W v h => Twin_arg W v metaL h (by decide))
  have HS := Lib.hid (fun W u u2 h1 h2 => PSame_arg W u u2 metaL metaL true h1 h2 (by decide) (by simp))
  have hl1 : metaL.length = 11 := rfl
  have HL := Lib.hid hl1
  clear hl1
  go_enter Tryz.func12, Tryz.ntmps12
  go_wp2_with fail
  refine (Meta_any _).mono ?_
  rintro e w1 ⟨v1, rfl, ho1, h1⟩
  obtain ⟨g, cap, rfl, hg, _⟩ := (own_prog ho1).2.2 (by decide)
  have HA1 : Hid (ArgP w1 (.slice (some ⟨g, 0, none⟩) metaL.length cap) metaL) := Lib.hid ho1.arg
  have HO1 : Hid (w1.ownsRow w.heap.size 64 5 (.slice (some ⟨g, 0, none⟩) 11 cap) 11 (progV metaL)) := Lib.hid ho1
  have HB1 := Lib.hid h1
  have GB : Hid (w.heap.size ≤ g ∧ g < w1.heap.size) := Lib.hid (HO1.out.lt g rfl)
  clear ho1 h1 hg
  rw [HL.out] at HA1
  rw [HL.out]
  go_wp2_with fail
  refine (HT.out _ _ HA1.out).mono ?_
  rintro e w2 ⟨v2, rfl, ht, hb⟩
  have HT2 := Lib.hid ht; have D2 := Lib.hid hb
  have HA2 := Lib.hid (HA1.out.below hb)
  clear ht hb
  go_wp2_with fail
  refine (HPV.out _ _ HA2.out).mono ?_
  rintro e w5 ⟨rfl, hb⟩
  have T5 := Lib.hid (own_below' HT2.out hb)
  have B5 := Lib.hid (bstep HB1.out (bstep D2.out hb))
  have hown := own_below' HO1.out (bstep D2.out hb)
  clear hb
  have e0 : ∃ u, w5.cell? ⟨g, k * 5, none⟩ = some u := own_c5 hown _ (by omega)
  have e1 : ∃ u, w5.cell? ⟨g, k * 5 + 1, none⟩ = some u := own_c5 hown _ (by omega)
  have e2 : ∃ u, w5.cell? ⟨g, k * 5 + 2, none⟩ = some u := own_c5 hown _ (by omega)
  have e3 : ∃ u, w5.cell? ⟨g, k * 5 + 3, none⟩ = some u := own_c5 hown _ (by omega)
  have e4 : ∃ u, w5.cell? ⟨g, k * 5 + 4, none⟩ = some u := own_c5 hown _ (by omega)
  have f0 := hown.frozenAt (k * 5); have f1 := hown.frozenAt (k * 5 + 1); have f2 := hown.frozenAt (k * 5 + 2); have f3 := hown.frozenAt (k * 5 + 3); have f4 := hown.frozenAt (k * 5 + 4)
  obtain ⟨u0, e0⟩ := e0; obtain ⟨u1, e1⟩ := e1; obtain ⟨u2, e2⟩ := e2; obtain ⟨u3, e3⟩ := e3; obtain ⟨u4, e4⟩ := e4
  clear hown
  have hk3 : (k : Int) < 11 := by omega
  have B6 := Lib.hid (Below.setCell (Below.setCell (Below.setCell (Below.setCell (Below.setCell B5.out (p := ⟨g, k * 5, none⟩) GB.out.1 (.int .i64 (-1))) (p := ⟨g, k * 5 + 1, none⟩) GB.out.1 (.int .i64 0)) (p := ⟨g, k * 5 + 2, none⟩) GB.out.1 (.int .i64 0)) (p := ⟨g, k * 5 + 3, none⟩) GB.out.1 (.int .i64 0)) (p := ⟨g, k * 5 + 4, none⟩) GB.out.1 (.string ⟨#[]⟩))
  have T6 := Lib.hid (ownsRow_setCell_below (ownsRow_setCell_below (ownsRow_setCell_below (ownsRow_setCell_below (ownsRow_setCell_below T5.out (a := ⟨g, k * 5, none⟩) GB.out.2 (.int .i64 (-1))) (a := ⟨g, k * 5 + 1, none⟩) GB.out.2 (.int .i64 0)) (a := ⟨g, k * 5 + 2, none⟩) GB.out.2 (.int .i64 0)) (a := ⟨g, k * 5 + 3, none⟩) GB.out.2 (.int .i64 0)) (a := ⟨g, k * 5 + 4, none⟩) GB.out.2 (.string ⟨#[]⟩))
  go_wp2_with fail
  refine (Meta_any _).mono ?_
  rintro e w7 ⟨v7, rfl, ho, hb⟩
  have B7 := Lib.hid (bstep B6.out hb); have T7 := Lib.hid (own_below' T6.out hb); have O7 := Lib.hid (OwnP.arg ho)
  clear ho hb e0 e1 e2 e3 e4 f0 f1 f2 f3 f4 B6 T6
  go_wp2_with fail
  refine (HS.out _ _ _ O7.out (own_prog T7.out).2.1).mono ?_
  rintro e w8 ⟨rfl, hb⟩
  have B8 := Lib.hid (bstep B7.out hb)
  clear hb
  go_wp2_with fail
  refine (awake5_any _).mono ?_
  rintro e w9 ⟨rfl, hb⟩
  have B9 := Lib.hid (bstep B8.out hb)
  clear hb
  go_wp2_with fail
  go_ret
  exact ⟨rfl, B9.out⟩
end Go.Proofs.YtmhoacnbmbhcjaaGreatDoor
