/- KnowSelf: Self returns the documented program, and once more so if what it returned was overwritten: the law returns true. No condition beyond the row's own (the listed variables hold what the program's text lays). By an AI agent. -/
import Derived.Test.YtmhoacnbmbhcjaaGreatDoorKnowSf
import Derived.Test.YtmhoacnbmbhcjaaGreatDoorLaid5
import Derived.Test.YtmhoacnbmbhcjaaGreatDoorCards
import Derived.Test.YtmhoacnbmbhcjaaGreatDoorTie
import Derived.SevenTiedAt
import Derived.Test.YtmhoacnbmbhcjaaGreatDoorFacts5
namespace Go.Proofs.YtmhoacnbmbhcjaaGreatDoor.knowSelf
open Go.ChangeShapes Go.WideShapes Go.ChangeAt Go.RowKit Go.WideMaps
open Go.ChangeMaps (open_string shut_string)

theorem own : ownKnob Tryz.prog.godebug = none := by kernel_rfl
theorem laidOut : laidOutB Tryz.prog = true := by kernel_rfl

set_option maxRecDepth 100000 in
theorem lifted (os : Os) (started : os.Started) (H : Type) (enc : TypeId × Value → H) :
    ReturnsInHanded {} Tryz.checked os 5 .any (fun w args => (Rows.knowSelfSpec.pre enc Tryz.prog Tryz.f5 Rows.knowSelfRow.domain false w args ∧ laidMetH Tryz.prog laid5 w) ∧ sizedMet enc Tryz.prog Tryz.f5 (OpenSpec.ofChange Rows.knowSelfSpec) false w args)
      (Rows.knowSelfSpec.post enc Tryz.prog Tryz.f5 false true false false) := by
  refine returnsInHanded_and_shaped (C := Tryz.checked) (X := fun w _ => laidMetH Tryz.prog laid5 w) (fun _ _ _ hh h => h.of_heap hh) own started (by kernel_rfl) Tryz.func5
    (ChangeSpec.witness_shaped (enc := enc) (C := Tryz.checked) (os := os) (X := fun w _ => laidMetH Tryz.prog laid5 w) false (laidWorld5 os) #[] 8 rfl (World.shaped_of_RefB (by kernel_rfl) (by kernel_rfl)) (by kernel_rfl) (by kernel_rfl) (by kernel_rfl) (laid_met5 os _)) ?_
  intro W base args ds gs before hval0 hW _ hsz0 hL hsh _
  have hsz : (DataW.weightsEach Tryz.prog (Tryz.f5.params.toList ++ Rows.knowSelfSpec.plain.varTypes Tryz.prog) (ds ++ gs)).all (· ≤ reachBytes) = true := hsz0
  clear hsz0
  have hval : ∀ (j : Nat) t v, Tryz.f5.params[j]? = some t → args[j]? = some v → Value.okWide Tryz.prog W .any base t v := hval0
  have hW' := hW
  obtain ⟨p, q, hA0, hV, rfl, _, _⟩ := hW
  have hA : DataW.TrodAll enc Tryz.prog W 0 (fun _ => true) true Tryz.f5.params.toList args.toList ds p := hA0
  rw [Tryz.params5] at hA hval hsz
  obtain ⟨hargs, rfl, rfl⟩ := trodAll_nil hA
  obtain rfl : args = #[] := by cases args; simp_all
  clear hargs
  obtain ⟨rfl, rfl⟩ := trodVars_none hV
  clear hA0 hval0
  refine (KnowSelf_any W    ).mono fun e W' ⟨he, hnx⟩ => ?_
  subst he
  refine ⟨_, rfl, _, _, _, [] ++ [], [], [], hW', ?_, ?_, rfl, hnx.frame _, fun h => by cases h⟩
  · exact trodAll_mk1 (shut_bool Tryz.underlying4 _)
  · exact rfl

theorem c1 : (Rows.knowSelfRow.inPlace == Tryz.pinned.checked.prog.inPlace 5) = true := by kernel_rfl
theorem c2 : (Rows.knowSelfRow.unfollowed == Tryz.pinned.checked.prog.unfollowed 5) = true := by kernel_rfl
theorem c3 : (Rows.knowSelfRow.recurses == Tryz.pinned.checked.prog.recurses 5) = true := by kernel_rfl
theorem c4 : (Rows.knowSelfRow.named == Tryz.pinned.checked.prog.varsNamed 5) = true := by kernel_rfl
theorem c5 : false = Rows.knowSelfRow.goesBy Tryz.pinned.checked.prog := by kernel_rfl
theorem closed : joinedFacts Tryz.pinned.checked.prog 5 Tryz.f5 Rows.knowSelfSpec Rows.knowSelfRow = true := by
  unfold joinedFacts
  rw [c1, c2, c3, c4, facts.laidOut, facts.rowed, facts.keys, facts.heard, facts.enter, facts.lifts]
  kernel_rfl
theorem inst : Tryz.f5.isInstance Tryz.pinned.checked.prog Rows.knowSelfRow.origin Rows.knowSelfRow.targs := of_decide_eq_true (by kernel_rfl)
theorem wrap : Tryz.f5.isWrapper Tryz.pinned.checked.prog Rows.knowSelfRow.wrapper Rows.knowSelfRow.mainSum := by unfold Func.isWrapper; first | (rw [if_pos (by decide +kernel)]; kernel_rfl) | (rw [if_neg (by decide +kernel)]; exact ⟨rfl, rfl⟩)
theorem row_holds : Rows.KnowSelfSaid :=
  OpenClaim.holds_of_wide 5 Tryz.f5 rfl rfl rfl rfl rfl rfl rfl ⟨rfl, rfl, rfl, rfl, rfl⟩ rfl rfl rfl rfl rfl (by kernel_rfl) Tryz.func5 closed inst wrap
    (fun os started H enc _ => lifted os started H enc)
theorem holds : Rows.KnowSelfCardSaid :=
  Claim7.holds_tied_plain_at .later [] [.data, .data, .data, .sentinel, .sentinel] true Rows.knowSelfCard.stood.harness true
    row_holds (fun _ h => by cases h) (by kernel_rfl) (fun _ h => by cases h) knowSelf_row_tie rfl ⟨rfl, rfl⟩ (by kernel_rfl) rfl
    (fun f fn hf hfn => by
      obtain rfl : f = 5 := Option.some.inj ((show Tryz.prog.funcNamed "narcissus/narcissuslaw07.KnowSelf" = some 5 by kernel_rfl).symm.trans hf) |>.symm
      obtain rfl : fn = Tryz.f5 := (Option.some.inj (Tryz.func5.symm.trans hfn)).symm
      exact ⟨facts.looks, fun j t ht => by
        rw [Tryz.params5] at ht
        simp at ht⟩)
    c5
end Go.Proofs.YtmhoacnbmbhcjaaGreatDoor.knowSelf
