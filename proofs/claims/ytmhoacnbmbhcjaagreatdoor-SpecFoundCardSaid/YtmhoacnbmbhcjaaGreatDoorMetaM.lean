/- Package spec: the helper meta. By an AI agent. -/
import Derived.Test.YtmhoacnbmbhcjaaGreatDoorMetaL
namespace Go.Proofs.YtmhoacnbmbhcjaaGreatDoor
open Go.RowKit Pl

/-- what the helper meta answers on the trees of a code and of the data -/
def MetaP (w : World) (t d : Tr) (e : Ending) (w' : World) : Prop :=
  Below w.heap.size w w' ∧ (((tx (listT t d)).length ≤ 2000000 ∧ ∃ X, e = .returned (.tuple #[.pointer X, .bool true, .bool false]) ∧ NodeW 42 w' (listT t d) (.pointer X)) ∨ e = .returned (.tuple #[.pointer none, .bool false, .bool true]))
set_option maxHeartbeats 3200000 in
set_option maxRecDepth 100000 in
theorem meta_any (w : World) (t d : Tr) (x y : Value) (hx : NodeW 42 w t x) (hy : NodeW 42 w d y) (ht : (tx t).length ≤ 2000000) (hd : (tx d).length ≤ 2000000) :
    Calls Tryz.prog 42 #[x, y] w (MetaP w t d) := by
  have HPV := Lib.hid (fun W v h => PV_arg W v metaL true h (by decide) (fun x hx => by have := pvalid_tree metaL_valid hx; omega) (by simp [metaL_valid]))
  have HLP := Lib.hid (fun W v (h : ArgP W v metaL) => Load_new W v metaL h metaL_valid)
  have HRP := Lib.hid (fun W a b v x o (hL : RL W a b v metaL) (h : ArgP W v metaL) (hn : NodeW 42 W (.pair t d) x) (hz : (tx (.pair t d)).length ≤ 2000000) (ho : out metaL 100 (first (.pair t d)) = o) => rRun_out W a b 100 v x metaL (.pair t d) o hL h metaL_valid hn hz (by decide) ho)
  have HMO := Lib.hid (meta_out t d)
  obtain ⟨X, rfl⟩ := hx.one
  obtain ⟨Y, rfl⟩ := hy.one
  have HCO := Lib.hid (fun W (h : NodeW 42 W t (.pointer X)) (h2 : NodeW 42 W d (.pointer Y)) => rCons_any W t d _ _ h h2 ht hd)
  have HX := Lib.hid hx; have HY := Lib.hid hy
  clear hx hy
  go_enter Tryz.func42, Tryz.ntmps42
  go_wp2_with fail
  refine (Meta_any _).mono ?_
  rintro e w1 ⟨v1, rfl, ho1, h1⟩
  have HA1 : Hid (ArgP w1 v1 metaL) := Lib.hid ho1.arg
  obtain ⟨a1, c1, rfl⟩ := HA1.out.form
  have hl1 : metaL.length = 11 := rfl
  rw [hl1] at HA1
  rw [hl1]
  have HB1 := Lib.hid h1
  have HX1 := Lib.hid (NodeW.below HX.out h1); have HY1 := Lib.hid (NodeW.below HY.out h1)
  clear ho1 h1 hl1
  go_wp2_with fail
  refine (HCO.out _ HX1.out HY1.out).mono ?_
  rintro e w2 ⟨v2, rfl, h2, hb⟩
  obtain ⟨B2, o2, x2, y2, rfl, ca, cb, cc, na, nb⟩ := h2
  have HB2 := Lib.hid (bstep HB1.out hb); have HA2 := Lib.hid (HA1.out.below hb)
  have HP2 : Hid (NodeW 42 w2 (.pair t d) (.pointer (some ⟨B2, o2, none⟩))) := Lib.hid ⟨B2, o2, x2, y2, rfl, ca, cb, cc, na, nb⟩
  have cc2 : w2.cell? ⟨B2, o2 + 2, none⟩ = some (.int .i64 ((tx (.pair t d)).length : Nat)) := cc.2
  have HC2 := Lib.hid cc2
  clear hb ca cb cc na nb
  by_cases hz : 2000000 < (tx (.pair t d)).length
  · have hz1 : decide ((2000000 : Int) < ((tx (.pair t d)).length : Int)) = true := by rw [decide_eq_true_eq]; omega
    clear hz
    generalize (tx (.pair t d)).length = L at cc2 hz1
    go_wp2_with fail
    refine (HPV.out _ _ HA2.out).mono ?_
    rintro e w3 ⟨rfl, h3⟩
    have c3 := cell_keep h3 cc2
    have HB3 := Lib.hid (bstep HB2.out h3); have HA3 := Lib.hid (HA2.out.below h3)
    clear h3 cc2
    go_wp2_with fail
    refine (HPV.out _ _ HA3.out).mono ?_
    rintro e w4 ⟨rfl, h4⟩
    have HB4 := Lib.hid (bstep HB3.out h4)
    clear h4 c3
    go_wp2_with fail
    go_ret3
    exact ⟨HB4.out, .inr rfl⟩
  · have hz1 : decide ((2000000 : Int) < ((tx (.pair t d)).length : Int)) = false := by rw [decide_eq_false_iff_not]; omega
    have HZ := Lib.hid (show (tx (.pair t d)).length ≤ 2000000 by omega)
    have hmo := HMO.out HZ.out
    have HM2 := Lib.hid hmo
    clear hz hmo
    generalize (tx (.pair t d)).length = L at cc2 hz1
    go_wp2_with fail
    refine (HPV.out _ _ HA2.out).mono ?_
    rintro e w3 ⟨rfl, h3⟩
    have c3 := cell_keep h3 cc2
    have C3 := Lib.hid (cell_keep h3 HC2.out)
    have HB3 := Lib.hid (bstep HB2.out h3); have HA3 := Lib.hid (HA2.out.below h3); have HP3 := Lib.hid (NodeW.below HP2.out h3)
    clear h3 cc2
    go_wp2_with fail
    refine (HLP.out _ _ HA3.out).mono ?_
    rintro e w4 ⟨m4, C4, rfl, hL, hb, hC⟩
    have HB4 := Lib.hid (bstep HB3.out hb); have HL4 := Lib.hid hL
    have HA4 := Lib.hid (HA3.out.below hb); have HP4 := Lib.hid (NodeW.below HP3.out hb); have C4 := Lib.hid (cell_keep hb C3.out)
    clear hb hL hC c3 hz1
    rcases HM2.out with ⟨ho, hsz⟩ | ⟨ho, hsz⟩
    · have HRA := Lib.hid (HRP.out _ _ _ _ _ _ HL4.out HA4.out HP4.out HZ.out ho)
      have HSZ := Lib.hid hsz
      clear ho hsz
      go_wp2_with fail
      refine HRA.out.mono ?_
      rintro e w5 ⟨hb, y5, rfl, hn5⟩
      obtain ⟨Y5, rfl⟩ := hn5.one
      have HB5 := Lib.hid (bstep HB4.out hb); have HY5 := Lib.hid hn5
      clear hb hn5
      go_wp2_with fail
      go_quiet (fail)
      go_wp2
      go_ret3
      exact ⟨bdrewN HB5.out _, .inl ⟨HSZ.out, _, rfl, NodeW.keep HY5.out (.drewN _ _ _)⟩⟩
    · have HRA := Lib.hid (HRP.out _ _ _ _ _ _ HL4.out HA4.out HP4.out HZ.out ho)
      have hz2 : decide ((200000 : Int) < ((tx (.pair t d)).length : Int)) = true := by rw [decide_eq_true_eq]; omega
      clear ho hsz
      go_wp2_with fail
      refine HRA.out.mono ?_
      rintro e w5 ⟨hb, rfl⟩
      have HB5 := Lib.hid (bstep HB4.out hb)
      have c5 := cell_keep hb C4.out
      clear hb
      generalize (tx (.pair t d)).length = L at c5 hz2
      go_wp2_with fail
      go_quiet (fail)
      go_wp2
      go_ret3
      exact ⟨bdrewN HB5.out _, .inr rfl⟩
end Go.Proofs.YtmhoacnbmbhcjaaGreatDoor
