/- KnowDifferent, for any two programs: for different ones what Know returns is different, for equal ones it is equal: the law returns true, and its arguments read as they did. No condition beyond the row's own (the listed variables hold what the program's text lays). By an AI agent. -/
import Derived.Test.YtmhoacnbmbhcjaaGreatDoorKnowSf
import Derived.Test.YtmhoacnbmbhcjaaGreatDoorLaid5
import Derived.Test.YtmhoacnbmbhcjaaGreatDoorOpenQ
import Derived.Test.YtmhoacnbmbhcjaaGreatDoorCards
import Derived.Test.YtmhoacnbmbhcjaaGreatDoorTie
import Derived.SevenTiedAt
import Derived.Test.YtmhoacnbmbhcjaaGreatDoorFacts5
namespace Go.Proofs.YtmhoacnbmbhcjaaGreatDoor.knowDifferent
open Go.ChangeShapes Go.WideShapes Go.ChangeAt Go.RowKit Go.WideMaps
open Go.ChangeMaps (open_string shut_string)

theorem own : ownKnob Tryz.prog.godebug = none := by kernel_rfl
theorem laidOut : laidOutB Tryz.prog = true := by kernel_rfl

set_option maxRecDepth 100000 in
theorem lifted (os : Os) (started : os.Started) (H : Type) (enc : TypeId × Value → H) :
    ReturnsInHanded {} Tryz.checked os 9 .any (fun w args => (Rows.knowDifferentSpec.pre enc Tryz.prog Tryz.f9 Rows.knowDifferentRow.domain false w args ∧ laidMetH Tryz.prog laid5 w) ∧ sizedMet enc Tryz.prog Tryz.f9 (OpenSpec.ofChange Rows.knowDifferentSpec) false w args)
      (Rows.knowDifferentSpec.post enc Tryz.prog Tryz.f9 false true false false) := by
  refine returnsInHanded_and_shaped (C := Tryz.checked) (X := fun w _ => laidMetH Tryz.prog laid5 w) (fun _ _ _ hh h => h.of_heap hh) own started (by kernel_rfl) Tryz.func9
    (ChangeSpec.witness_shaped (enc := enc) (C := Tryz.checked) (os := os) (X := fun w _ => laidMetH Tryz.prog laid5 w) false (laidWorld5 os) #[.slice none 0 0, .slice none 0 0] 8 rfl (World.shaped_of_RefB (by kernel_rfl) (by kernel_rfl)) (by kernel_rfl) (by kernel_rfl) (by kernel_rfl) (laid_met5 os _)) ?_
  intro W base args ds gs before hval0 hW _ hsz0 hL hsh _
  have hsz : (DataW.weightsEach Tryz.prog (Tryz.f9.params.toList ++ Rows.knowDifferentSpec.plain.varTypes Tryz.prog) (ds ++ gs)).all (· ≤ reachBytes) = true := hsz0
  clear hsz0
  have hval : ∀ (j : Nat) t v, Tryz.f9.params[j]? = some t → args[j]? = some v → Value.okWide Tryz.prog W .any base t v := hval0
  have hW' := hW
  obtain ⟨p, q, hA0, hV, rfl, _, _⟩ := hW
  have hA : DataW.TrodAll enc Tryz.prog W 0 (fun _ => true) true Tryz.f9.params.toList args.toList ds p := hA0
  rw [Tryz.params9] at hA hval hsz
  obtain ⟨v0, v1, d0, d1, p0, p1, rfl, rfl, rfl, h0, h1⟩ := trodAll_two hA
  obtain ⟨rfl, rfl⟩ := trodVars_none hV
  obtain ⟨s0, len0, cap0, rfl⟩ := okWide_slice Tryz.underlying23 (hval 0 23 v0 rfl rfl)
  have h0k := h0
  obtain ⟨fuel0, hf0⟩ := h0
  obtain ⟨s1, len1, cap1, rfl⟩ := okWide_slice Tryz.underlying23 (hval 1 23 v1 rfl rfl)
  have h1k := h1
  obtain ⟨fuel1, hf1⟩ := h1
  clear hA0 hval0
  have hlt0 : ∀ x ∈ p0, x.block < W.heap.size := fun x hx => hW'.lt x (by simp [hx])
  have hlt1 : ∀ x ∈ p1, x.block < W.heap.size := fun x hx => hW'.lt x (by simp [hx])
  obtain ⟨ps0, hl0, ha0, hz0⟩ := open_prog hf0 hlt0 (fun n hn => by
    have := of_decide_eq_true (List.all_eq_true.1 hsz n (DataW.weights_mem_each (j := 0) rfl rfl n hn))
    simpa [reachBytes] using this)
  obtain ⟨ps1, hl1, ha1, hz1⟩ := open_prog hf1 hlt1 (fun n hn => by
    have := of_decide_eq_true (List.all_eq_true.1 hsz n (DataW.weights_mem_each (j := 1) rfl rfl n hn))
    simpa [reachBytes] using this)
  refine (KnowDifferent_any W  _ _ ps0 ps1 ha0 (by omega) (fun x hx => by have := hz0 x hx; omega) ha1 (by omega) (fun x hx => by have := hz1 x hx; omega)).mono fun e W' ⟨he, hnx⟩ => ?_
  subst he
  refine ⟨_, rfl, _, _, _, [] ++ [], p0 ++ p1, [], hW', ?_, ?_, rfl, hnx.frame _, fun h => by cases h⟩
  · exact trodAll_mk1 (shut_bool Tryz.underlying4 _)
  · exact trodAll_mk2 (Below.trod laidOut (by kernel_rfl) (of_decide_eq_true (by kernel_rfl)) h0k hnx hlt0) (Below.trod laidOut (by kernel_rfl) (of_decide_eq_true (by kernel_rfl)) h1k hnx hlt1)

theorem c1 : (Rows.knowDifferentRow.inPlace == Tryz.pinned.checked.prog.inPlace 9) = true := by kernel_rfl
theorem c2 : (Rows.knowDifferentRow.unfollowed == Tryz.pinned.checked.prog.unfollowed 9) = true := by kernel_rfl
theorem c3 : (Rows.knowDifferentRow.recurses == Tryz.pinned.checked.prog.recurses 9) = true := by kernel_rfl
theorem c4 : (Rows.knowDifferentRow.named == Tryz.pinned.checked.prog.varsNamed 9) = true := by kernel_rfl
theorem c5 : false = Rows.knowDifferentRow.goesBy Tryz.pinned.checked.prog := by kernel_rfl
theorem closed : joinedFacts Tryz.pinned.checked.prog 9 Tryz.f9 Rows.knowDifferentSpec Rows.knowDifferentRow = true := by
  unfold joinedFacts
  rw [c1, c2, c3, c4, facts.laidOut, facts.rowed, facts.keys, facts.heard, facts.enter, facts.lifts]
  kernel_rfl
theorem inst : Tryz.f9.isInstance Tryz.pinned.checked.prog Rows.knowDifferentRow.origin Rows.knowDifferentRow.targs := of_decide_eq_true (by kernel_rfl)
theorem wrap : Tryz.f9.isWrapper Tryz.pinned.checked.prog Rows.knowDifferentRow.wrapper Rows.knowDifferentRow.mainSum := by unfold Func.isWrapper; first | (rw [if_pos (by decide +kernel)]; kernel_rfl) | (rw [if_neg (by decide +kernel)]; exact ⟨rfl, rfl⟩)
theorem row_holds : Rows.KnowDifferentSaid :=
  OpenClaim.holds_of_wide 9 Tryz.f9 rfl rfl rfl rfl rfl rfl rfl ⟨rfl, rfl, rfl, rfl, rfl⟩ rfl rfl rfl rfl rfl (by kernel_rfl) Tryz.func9 closed inst wrap
    (fun os started H enc _ => lifted os started H enc)
theorem holds : Rows.KnowDifferentCardSaid :=
  Claim7.holds_tied_plain_at .later [] [.data, .data, .data, .sentinel, .sentinel] true Rows.knowDifferentCard.stood.harness true
    row_holds (fun _ h => by cases h) (by kernel_rfl) (fun _ h => by cases h) knowDifferent_row_tie rfl ⟨rfl, rfl⟩ (by kernel_rfl) rfl
    (fun f fn hf hfn => by
      obtain rfl : f = 9 := Option.some.inj ((show Tryz.prog.funcNamed "narcissus/narcissuslaw07.KnowDifferent" = some 9 by kernel_rfl).symm.trans hf) |>.symm
      obtain rfl : fn = Tryz.f9 := (Option.some.inj (Tryz.func9.symm.trans hfn)).symm
      exact ⟨facts.looks, fun j t ht => by
        rw [Tryz.params9] at ht
        have h3 : t = 23 := by
          rcases j with _ | _ | j
          · have := ht.symm; simp at this; subst this; simp
          · have := ht.symm; simp at this; subst this; simp
          · simp at ht
        rcases h3 with rfl
        · exact (show Tryz.prog.wantsStandIn 23 = false by kernel_rfl)⟩)
    c5
end Go.Proofs.YtmhoacnbmbhcjaaGreatDoor.knowDifferent
