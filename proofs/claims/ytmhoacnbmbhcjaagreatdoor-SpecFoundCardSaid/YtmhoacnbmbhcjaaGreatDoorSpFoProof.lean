/- SpecFound, for any program and any string: what is found on the pair of a program's code and the data is the code of the program that Spec returns. No condition beyond the row's own (the listed variables hold what the program's text lays). By an AI agent. -/
import Derived.Test.YtmhoacnbmbhcjaaGreatDoorSpFo
import Derived.Test.YtmhoacnbmbhcjaaGreatDoorLaid5
import Derived.Test.YtmhoacnbmbhcjaaGreatDoorOpenQ
import Derived.Test.YtmhoacnbmbhcjaaGreatDoorCards
import Derived.Test.YtmhoacnbmbhcjaaGreatDoorTie
import Derived.SevenTiedAt
import Derived.Test.YtmhoacnbmbhcjaaGreatDoorFacts5
namespace Go.Proofs.YtmhoacnbmbhcjaaGreatDoor.specFound
open Go.ChangeShapes Go.WideShapes Go.ChangeAt Go.RowKit Go.WideMaps
open Go.ChangeMaps (open_string shut_string)

theorem own : ownKnob Tryz.prog.godebug = none := by kernel_rfl
theorem laidOut : laidOutB Tryz.prog = true := by kernel_rfl

set_option maxRecDepth 100000 in
theorem lifted (os : Os) (started : os.Started) (H : Type) (enc : TypeId × Value → H) :
    ReturnsInHanded {} Tryz.checked os 11 .any (fun w args => (Rows.specFoundSpec.pre enc Tryz.prog Tryz.f11 Rows.specFoundRow.domain false w args ∧ laidMetH Tryz.prog laid5 w) ∧ sizedMet enc Tryz.prog Tryz.f11 (OpenSpec.ofChange Rows.specFoundSpec) false w args)
      (Rows.specFoundSpec.post enc Tryz.prog Tryz.f11 false true false false) := by
  refine returnsInHanded_and_shaped (C := Tryz.checked) (X := fun w _ => laidMetH Tryz.prog laid5 w) (fun _ _ _ hh h => h.of_heap hh) own started (by kernel_rfl) Tryz.func11
    (ChangeSpec.witness_shaped (enc := enc) (C := Tryz.checked) (os := os) (X := fun w _ => laidMetH Tryz.prog laid5 w) false (laidWorld5 os) #[.slice none 0 0, .string ByteArray.empty] 8 rfl (World.shaped_of_RefB (by kernel_rfl) (by kernel_rfl)) (by kernel_rfl) (by kernel_rfl) (by kernel_rfl) (laid_met5 os _)) ?_
  intro W base args ds gs before hval0 hW _ hsz0 hL hsh _
  have hsz : (DataW.weightsEach Tryz.prog (Tryz.f11.params.toList ++ Rows.specFoundSpec.plain.varTypes Tryz.prog) (ds ++ gs)).all (· ≤ reachBytes) = true := hsz0
  clear hsz0
  have hval : ∀ (j : Nat) t v, Tryz.f11.params[j]? = some t → args[j]? = some v → Value.okWide Tryz.prog W .any base t v := hval0
  have hW' := hW
  obtain ⟨p, q, hA0, hV, rfl, _, _⟩ := hW
  have hA : DataW.TrodAll enc Tryz.prog W 0 (fun _ => true) true Tryz.f11.params.toList args.toList ds p := hA0
  rw [Tryz.params11] at hA hval hsz
  obtain ⟨v0, v1, d0, d1, p0, p1, rfl, rfl, rfl, h0, h1⟩ := trodAll_two hA
  obtain ⟨rfl, rfl⟩ := trodVars_none hV
  obtain ⟨s0, len0, cap0, rfl⟩ := okWide_slice Tryz.underlying23 (hval 0 23 v0 rfl rfl)
  have h0k := h0
  obtain ⟨fuel0, hf0⟩ := h0
  obtain ⟨a1, rfl, rfl, rfl, w1⟩ := open_string Tryz.underlying9 (hval 1 9 v1 rfl rfl) h1
  clear hA0 hval0
  simp only [List.append_nil] at hW'
  have hlt0 : ∀ x ∈ p0, x.block < W.heap.size := fun x hx => hW'.lt x (by simp [hx])
  obtain ⟨ps0, hl0, ha0, hz0⟩ := open_prog hf0 hlt0 (fun n hn => by
    have := of_decide_eq_true (List.all_eq_true.1 hsz n (DataW.weights_mem_each (j := 0) rfl rfl n hn))
    simpa [reachBytes] using this)
  have r1 : a1.size ≤ 140737488351232 := by
    have := sized_string hsz (j := 1) (t := 9) rfl rfl
    simpa [reachBytes] using this
  refine (SpecFound_any W (env_of_laid5 hL hsh) _ a1 ps0 ha0 (by omega) (fun x hx => by have := hz0 x hx; omega) (by omega)).mono fun e W' ⟨he, hnx⟩ => ?_
  subst he
  refine ⟨_, rfl, _, _, _, [] ++ [], p0, [], hW', ?_, ?_, rfl, hnx.frame _, fun h => by cases h⟩
  · exact trodAll_mk1 (shut_bool Tryz.underlying4 _)
  · have hmk := trodAll_mk2 (Below.trod laidOut (by kernel_rfl) (of_decide_eq_true (by kernel_rfl)) h0k hnx hlt0) (shut_string Tryz.underlying9 w1)
    simp only [List.append_nil] at hmk
    exact hmk

theorem c1 : (Rows.specFoundRow.inPlace == Tryz.pinned.checked.prog.inPlace 11) = true := by kernel_rfl
theorem c2 : (Rows.specFoundRow.unfollowed == Tryz.pinned.checked.prog.unfollowed 11) = true := by kernel_rfl
theorem c3 : (Rows.specFoundRow.recurses == Tryz.pinned.checked.prog.recurses 11) = true := by kernel_rfl
theorem c4 : (Rows.specFoundRow.named == Tryz.pinned.checked.prog.varsNamed 11) = true := by kernel_rfl
theorem c5 : false = Rows.specFoundRow.goesBy Tryz.pinned.checked.prog := by kernel_rfl
theorem closed : joinedFacts Tryz.pinned.checked.prog 11 Tryz.f11 Rows.specFoundSpec Rows.specFoundRow = true := by
  unfold joinedFacts
  rw [c1, c2, c3, c4, facts.laidOut, facts.rowed, facts.keys, facts.heard, facts.enter, facts.lifts]
  kernel_rfl
theorem inst : Tryz.f11.isInstance Tryz.pinned.checked.prog Rows.specFoundRow.origin Rows.specFoundRow.targs := of_decide_eq_true (by kernel_rfl)
theorem wrap : Tryz.f11.isWrapper Tryz.pinned.checked.prog Rows.specFoundRow.wrapper Rows.specFoundRow.mainSum := by unfold Func.isWrapper; first | (rw [if_pos (by decide +kernel)]; kernel_rfl) | (rw [if_neg (by decide +kernel)]; exact ⟨rfl, rfl⟩)
theorem row_holds : Rows.SpecFoundSaid :=
  OpenClaim.holds_of_wide 11 Tryz.f11 rfl rfl rfl rfl rfl rfl rfl ⟨rfl, rfl, rfl, rfl, rfl⟩ rfl rfl rfl rfl rfl (by kernel_rfl) Tryz.func11 closed inst wrap
    (fun os started H enc _ => lifted os started H enc)
theorem holds : Rows.SpecFoundCardSaid :=
  Claim7.holds_tied_plain_at .later [] [.data, .data, .data, .sentinel, .sentinel] true Rows.specFoundCard.stood.harness true
    row_holds (fun _ h => by cases h) (by kernel_rfl) (fun _ h => by cases h) specFound_row_tie rfl ⟨rfl, rfl⟩ (by kernel_rfl) rfl
    (fun f fn hf hfn => by
      obtain rfl : f = 11 := Option.some.inj ((show Tryz.prog.funcNamed "narcissus/narcissuslaw05.SpecFound" = some 11 by kernel_rfl).symm.trans hf) |>.symm
      obtain rfl : fn = Tryz.f11 := (Option.some.inj (Tryz.func11.symm.trans hfn)).symm
      exact ⟨facts.looks, fun j t ht => by
        rw [Tryz.params11] at ht
        have h3 : t = 23 ∨ t = 9 := by
          rcases j with _ | _ | j
          · have := ht.symm; simp at this; subst this; simp
          · have := ht.symm; simp at this; subst this; simp
          · simp at ht
        rcases h3 with rfl | rfl
        · exact (show Tryz.prog.wantsStandIn 23 = false by kernel_rfl)
        · exact (show Tryz.prog.wantsStandIn 9 = false by kernel_rfl)⟩)
    c5
end Go.Proofs.YtmhoacnbmbhcjaaGreatDoor.specFound
