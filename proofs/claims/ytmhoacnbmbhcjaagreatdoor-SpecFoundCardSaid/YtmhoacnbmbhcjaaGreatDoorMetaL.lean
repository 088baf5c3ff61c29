/- Package spec: the list that the reference makes, and the helper meta. By an AI agent. -/
import Derived.Test.YtmhoacnbmbhcjaaGreatDoorMetaW
import Derived.Test.YtmhoacnbmbhcjaaGreatDoorMetaO
import Derived.Test.YtmhoacnbmbhcjaaGreatDoorKnowP
import Derived.BigQuiet
namespace Go.Proofs.YtmhoacnbmbhcjaaGreatDoor
open Go.RowKit Pl

attribute [local go_sem] Oper.semAt_some
/-- the cells that List reads -/
theorem sup_cells {w : World} {g : Nat} (h : ProgAt w g 0 sup0) :
    w.cell? ⟨g, 5, none⟩ = some (.int .i64 2) ∧ w.cell? ⟨g, 6, none⟩ = some (.int .i64 0) ∧ w.cell? ⟨g, 7, none⟩ = some (.int .i64 1) ∧ w.cell? ⟨g, 8, none⟩ = some (.int .i64 0) ∧ w.cell? ⟨g, 9, none⟩ = some (.string (S [])) ∧
    w.cell? ⟨g, 10, none⟩ = some (.int .i64 0) ∧ w.cell? ⟨g, 11, none⟩ = some (.int .i64 1) ∧ w.cell? ⟨g, 12, none⟩ = some (.int .i64 0) ∧ w.cell? ⟨g, 13, none⟩ = some (.int .i64 0) ∧ w.cell? ⟨g, 14, none⟩ = some (.string (S [48])) := by
  obtain ⟨a1, a2, a3, a4, a5⟩ := h.2 1 (consI 0 1 0) rfl
  obtain ⟨b1, b2, b3, b4, b5⟩ := h.2 2 (setI 1 [48]) rfl
  exact ⟨a1, a2, a3, a4, a5, b1, b2, b3, b4, b5⟩
theorem code_sec2 (W : World) : Calls Tryz.prog 91 #[.agg #[.int .i64 2, .int .i64 0, .int .i64 1, .int .i64 0, .string (S [])]] W fun e w' => e = .returned (.string (S sec2)) ∧ Below W.heap.size W w' :=
  CO_step (consI 0 1 0) 0 1 (by decide) (by decide) (by decide) W
theorem code_sec3 (W : World) : Calls Tryz.prog 91 #[.agg #[.int .i64 0, .int .i64 1, .int .i64 0, .int .i64 0, .string (S [48])]] W fun e w' => e = .returned (.string (S sec3)) ∧ Below W.heap.size W w' :=
  CO_step (setI 1 [48]) 0 1 (by decide) (by decide) (by decide) W
theorem read_sec2 (W : World) : Calls Tryz.prog 30 #[.string (S sec2)] W (ConsOut 42 W s2T) := by
  have h := rRead_any (S sec2) W (by rw [S_list]; exact of_decide_eq_true (by kernel_rfl))
  rwa [S_list, rd_sec2] at h
theorem read_sec3 (W : World) : Calls Tryz.prog 30 #[.string (S sec3)] W (ConsOut 42 W s3T) := by
  have h := rRead_any (S sec3) W (by rw [S_list]; exact of_decide_eq_true (by kernel_rfl))
  rwa [S_list, rd_sec3] at h
theorem read_one (W : World) : Calls Tryz.prog 30 #[.string (S [49, 48, 48])] W (ConsOut 42 W oneT) := by
  have h := rRead_any (S [49, 48, 48]) W (by rw [S_list]; decide)
  rwa [S_list, rd_oneT] at h
theorem rnumber_one (W : World) : Calls Tryz.prog 92 #[.int .i64 1] W fun e w' => e = .returned (.string (S [49, 48, 48])) ∧ Below W.heap.size W w' := rNumber_yes 1 W (by decide)
set_option maxHeartbeats 3200000 in
set_option maxRecDepth 100000 in
theorem List_any (w : World) (t d : Tr) (x y : Value) (hx : NodeW 42 w t x) (hy : NodeW 42 w d y) (hl : (tx (listT t d)).length ≤ 2000000) :
    Calls Tryz.prog 43 #[x, y] w (ConsOut 42 w (listT t d)) := by
  have z1 := listT_size t d
  have z3 := tx_pair .nil (.pair oneT d)
  have z4 := tx_pair oneT d
  have z5 := tx_pair s2T (.pair s3T t)
  have z6 := tx_pair s3T t
  have z7 : (tx Tr.nil).length = 1 := rfl
  have y1 := sz_one; have y2 := sz_s2; have y3 := sz_s3
  obtain ⟨X, rfl⟩ := hx.one
  obtain ⟨Y, rfl⟩ := hy.one
  have HK1 := Lib.hid (fun W z (h : NodeW 42 W s3T z) (h2 : NodeW 42 W t (.pointer X)) => rCons_any W s3T t z _ h h2 (by omega) (by omega))
  have HK2 := Lib.hid (fun W z u (h : NodeW 42 W s2T z) (h2 : NodeW 42 W (.pair s3T t) u) => rCons_any W s2T (.pair s3T t) z u h h2 (by omega) (by omega))
  have HK3 := Lib.hid (fun W z (h : NodeW 42 W oneT z) (h2 : NodeW 42 W d (.pointer Y)) => rCons_any W oneT d z _ h h2 (by omega) (by omega))
  have HK4 := Lib.hid (fun W z (h : NodeW 42 W (.pair oneT d) z) => rCons_any W .nil (.pair oneT d) (.pointer none) z rfl h (by omega) (by omega))
  have HK5 := Lib.hid (fun W z u (h : NodeW 42 W (.pair .nil (.pair oneT d)) z) (h2 : NodeW 42 W (.pair s2T (.pair s3T t)) u) => rCons_any W (.pair .nil (.pair oneT d)) (.pair s2T (.pair s3T t)) z u h h2 (by omega) (by omega))
  have HX := Lib.hid hx; have HY := Lib.hid hy
  clear hx hy hl z1 z3 z4 z5 z6 z7 y1 y2 y3
  go_enter Tryz.func43, Tryz.ntmps43
  go_wp2_with fail
  refine (rhead5_any _ [48]).mono ?_
  rintro e w1 ⟨v1, rfl, ho1, h1⟩
  obtain ⟨g, cap, rfl, _, hp1⟩ := (own_prog (ps := sup0) ho1).2.2 (by decide)
  have HP1 : Hid (ProgAt w1 g 0 sup0) := Lib.hid hp1
  have HB1 := Lib.hid h1
  have HX1 := Lib.hid (NodeW.below HX.out h1); have HY1 := Lib.hid (NodeW.below HY.out h1)
  obtain ⟨c0, c1, c2, c3, c4, c5, c6, c7, c8, c9⟩ := sup_cells hp1
  have hl3 : sup0.length = 3 := rfl
  rw [hl3]
  clear ho1 h1 hp1 HX HY
  go_wp2_with fail
  go_region_held3 (fun w' => w'.cell? ⟨g, 5, none⟩ = some (.int .i64 2) ∧ w'.cell? ⟨g, 6, none⟩ = some (.int .i64 0) ∧ w'.cell? ⟨g, 7, none⟩ = some (.int .i64 1) ∧ w'.cell? ⟨g, 8, none⟩ = some (.int .i64 0) ∧ w'.cell? ⟨g, 9, none⟩ = some (.string (S [])) ∧
      w'.cell? ⟨g, 10, none⟩ = some (.int .i64 0) ∧ w'.cell? ⟨g, 11, none⟩ = some (.int .i64 1) ∧ w'.cell? ⟨g, 12, none⟩ = some (.int .i64 0) ∧ w'.cell? ⟨g, 13, none⟩ = some (.int .i64 0) ∧ w'.cell? ⟨g, 14, none⟩ = some (.string (S [48])))
    (first | exact sup_cells HP1.out | exact sup_cells HP2.out | exact sup_cells HP3.out | exact sup_cells HP4.out | exact sup_cells HP5.out | exact sup_cells HP6.out | exact sup_cells HP7.out | go_keep | assumption)
    (first
      | (go_at_call 91; (with_reducible refine (code_sec2 _).mono ?_); rintro e w2 ⟨rfl, h2⟩; have B2 : Hid (Below w1.heap.size w1 w2) := Lib.hid (by first | exact h2 | exact ((Below.refl _ w1).drew).trans h2); have HP2 := Lib.hid (HP1.out.below B2.out))
      | (go_at_call 91; (with_reducible refine (code_sec3 _).mono ?_); rintro e w4 ⟨rfl, h4⟩; have B4 : Hid (Below w3.heap.size w3 w4) := Lib.hid (by first | exact h4 | exact ((Below.refl _ w3).drew).trans h4); have HP4 := Lib.hid (HP3.out.below B4.out))
      | (go_at_call 30; (with_reducible refine (read_sec2 _).mono ?_); rintro e w3 ⟨v3, rfl, n3, h3⟩; obtain ⟨V3, rfl⟩ := n3.one; have B3 : Hid (Below w2.heap.size w2 w3) := Lib.hid (by first | exact h3 | exact ((Below.refl _ w2).drew).trans h3); have HP3 := Lib.hid (HP2.out.below B3.out); have N3 := Lib.hid n3)
      | (go_at_call 30; (with_reducible refine (read_sec3 _).mono ?_); rintro e w5 ⟨v5, rfl, n5, h5⟩; obtain ⟨V5, rfl⟩ := n5.one; have B5 : Hid (Below w4.heap.size w4 w5) := Lib.hid (by first | exact h5 | exact ((Below.refl _ w4).drew).trans h5); have HP5 := Lib.hid (HP4.out.below B5.out); have N5 := Lib.hid n5; have X5 := Lib.hid (NodeW.below (NodeW.below (NodeW.below (NodeW.below HX1.out B2.out) B3.out) B4.out) B5.out))
      | (go_at_call 31; (with_reducible refine (HK1.out _ _ (by first | exact N5.out | exact NodeW.below N5.out ((Below.refl _ _).drew)) (by first | exact X5.out | exact NodeW.below X5.out ((Below.refl _ _).drew))).mono ?_); rintro e w6 ⟨v6, rfl, n6, h6⟩; obtain ⟨V6, rfl⟩ := n6.one; have B6 : Hid (Below w5.heap.size w5 w6) := Lib.hid (by first | exact h6 | exact ((Below.refl _ w5).drew).trans h6); have HP6 := Lib.hid (HP5.out.below B6.out); have N6 := Lib.hid n6; have M6 := Lib.hid (NodeW.below (NodeW.below (NodeW.below N3.out B4.out) B5.out) B6.out))
      | (go_at_call 31; (with_reducible refine (HK2.out _ _ _ (by first | exact M6.out | exact NodeW.below M6.out ((Below.refl _ _).drew)) (by first | exact N6.out | exact NodeW.below N6.out ((Below.refl _ _).drew))).mono ?_); rintro e w7 ⟨v7, rfl, n7, h7⟩; obtain ⟨V7, rfl⟩ := n7.one; have B7 : Hid (Below w6.heap.size w6 w7) := Lib.hid (by first | exact h7 | exact ((Below.refl _ w6).drew).trans h7); have HP7 := Lib.hid (HP6.out.below B7.out); have N7 := Lib.hid n7))
  have HB7 := Lib.hid (bstep (bstep (bstep (bstep (bstep (bstep HB1.out B2.out) B3.out) B4.out) B5.out) B6.out) B7.out)
  have Y7 := Lib.hid (NodeW.below (NodeW.below (NodeW.below (NodeW.below (NodeW.below (NodeW.below HY1.out B2.out) B3.out) B4.out) B5.out) B6.out) B7.out)
  clear h2 h3 h4 h5 h6 h7 n3 n5 n6 n7 c0 c1 c2 c3 c4 c5 c6 c7 c8 c9
  go_wp2_with fail
  refine (rnumber_one _).mono ?_
  rintro e w8 ⟨rfl, h8⟩
  have HB8 := Lib.hid (bstep HB7.out h8); have Y8 := Lib.hid (NodeW.below Y7.out h8); have N8 := Lib.hid (NodeW.below N7.out h8)
  clear h8
  go_wp2_with fail
  refine (read_one _).mono ?_
  rintro e w9 ⟨v9, rfl, n9, h9⟩
  obtain ⟨V9, rfl⟩ := n9.one
  have HB9 := Lib.hid (bstep HB8.out h9); have Y9 := Lib.hid (NodeW.below Y8.out h9); have N9 := Lib.hid (NodeW.below N8.out h9); have O9 := Lib.hid n9
  clear h9 n9
  go_wp2_with fail
  refine (HK3.out _ _ O9.out Y9.out).mono ?_
  rintro e w10 ⟨v10, rfl, n10, h10⟩
  obtain ⟨V10, rfl⟩ := n10.one
  have HB10 := Lib.hid (bstep HB9.out h10); have N10 := Lib.hid (NodeW.below N9.out h10); have O10 := Lib.hid n10
  clear h10 n10
  go_wp2_with fail
  refine (HK4.out _ _ O10.out).mono ?_
  rintro e w11 ⟨v11, rfl, n11, h11⟩
  obtain ⟨V11, rfl⟩ := n11.one
  have HB11 := Lib.hid (bstep HB10.out h11); have N11 := Lib.hid (NodeW.below N10.out h11); have O11 := Lib.hid n11
  clear h11 n11
  go_wp2_with fail
  refine (HK5.out _ _ _ O11.out N11.out).mono ?_
  rintro e w12 ⟨v12, rfl, n12, h12⟩
  obtain ⟨V12, rfl⟩ := n12.one
  have HB12 := Lib.hid (bstep HB11.out h12); have O12 := Lib.hid n12
  clear h12 n12
  go_wp2_with fail
  go_ret
  exact ⟨_, rfl, O12.out, HB12.out⟩
end Go.Proofs.YtmhoacnbmbhcjaaGreatDoor
