/- UnivHeads: its walk. By an AI agent. -/
import Derived.Test.YtkpfocgcnehajabGreatDoorURuns
namespace Go.Proofs.YtkpfocgcnehajabGreatDoor
open Go.RowKit Go.Maps Pl

set_option maxHeartbeats 1000000 in
set_option maxRecDepth 100000 in
theorem UnivHeads_any (w : World) (p : Value) (ps : List Ins) (f : Int) (hE : TabE w) (hA : ArgP w p ps) (hl : ps.length ≤ 281474976710656) (hz : ∀ y ∈ ps, y.tree.length ≤ 281474976710656) :
    Calls Tryz.prog 10 #[p, .int .i64 f] w fun e w' => e = .returned (.bool true) ∧ Below w.heap.size w w' := by
  have HAW := Lib.hid (fun W (hb : Below w.heap.size w W) => awake6_any W (hE.below hb))
  by_cases hv : PValid ps
  · have HV := Lib.hid (PV_arg w p ps true hA hl hz (by simp [hv]))
    have HC := Lib.hid (fun W (h : ArgP W p ps) => Code_arg W p ps h hv)
    have HA := Lib.hid hA
    obtain ⟨pa, pc, rfl⟩ := hA.form
    by_cases hbig : 2000000 < (S (enc (codes ps))).size
    · have d1 : decide ((2000000 : Int) < ((S (enc (codes ps))).size : Int)) = true := by rw [decide_eq_true_eq]; omega
      generalize S (enc (codes ps)) = cs at *
      clear hE hA hv hl hz hbig
      go_enter Tryz.func10, Tryz.ntmps10
      go_wp2_with fail
      refine HV.out.mono ?_
      rintro e w1 ⟨rfl, hb⟩
      have B1 := Lib.hid hb
      clear hb
      go_wp2_with fail
      refine (HC.out _ (HA.out.below B1.out)).mono ?_
      rintro e w2 ⟨rfl, hb⟩
      have B2 := Lib.hid (bstep B1.out hb)
      clear hb
      go_wp2_with fail
      refine (HAW.out _ B2.out).mono ?_
      rintro e w13 ⟨rfl, hb⟩
      have B13 := Lib.hid (bstep B2.out hb)
      clear hb
      go_wp2_with fail
      go_ret
      exact ⟨rfl, B13.out⟩
    · have d1 : decide ((2000000 : Int) < ((S (enc (codes ps))).size : Int)) = false := by rw [decide_eq_false_iff_not]; omega
      have HUR := Lib.hid (fun W (hb : Below w.heap.size w W) (h : ArgP W (.slice pa ps.length pc) ps) => UnivRuns_any W _ ps (S (enc (codes ps))) f (hE.below hb) h hl hz (by omega))
      generalize S (enc (codes ps)) = cs at *
      clear hE hA hv hl hz hbig
      go_enter Tryz.func10, Tryz.ntmps10
      go_wp2_with fail
      refine HV.out.mono ?_
      rintro e w1 ⟨rfl, hb⟩
      have B1 := Lib.hid hb
      clear hb
      go_wp2_with fail
      refine (HC.out _ (HA.out.below B1.out)).mono ?_
      rintro e w2 ⟨rfl, hb⟩
      have B2 := Lib.hid (bstep B1.out hb)
      clear hb
      go_wp2_with fail
      refine (HC.out _ (HA.out.below B2.out)).mono ?_
      rintro e w3 ⟨rfl, hb⟩
      have B3 := Lib.hid (bstep B2.out hb)
      clear hb
      go_wp2_with fail
      refine (HUR.out _ B3.out (HA.out.below B3.out)).mono ?_
      rintro e w13 ⟨rfl, hb⟩
      have B13 := Lib.hid (bstep B3.out hb)
      clear hb
      go_wp2_with fail
      go_ret
      exact ⟨rfl, B13.out⟩
  · have HV := Lib.hid (PV_arg w p ps false hA hl hz (by simp [hv]))
    obtain ⟨pa, pc, rfl⟩ := hA.form
    clear hE hA hv hl hz
    go_enter Tryz.func10, Tryz.ntmps10
    go_wp2_with fail
    refine HV.out.mono ?_
    rintro e w1 ⟨rfl, hb⟩
    have B1 := Lib.hid hb
    clear hb
    go_wp2_with fail
    refine (HAW.out _ B1.out).mono ?_
    rintro e w13 ⟨rfl, hb⟩
    have B13 := Lib.hid (bstep B1.out hb)
    clear hb
    go_wp2_with fail
    go_ret
    exact ⟨rfl, B13.out⟩
end Go.Proofs.YtkpfocgcnehajabGreatDoor
