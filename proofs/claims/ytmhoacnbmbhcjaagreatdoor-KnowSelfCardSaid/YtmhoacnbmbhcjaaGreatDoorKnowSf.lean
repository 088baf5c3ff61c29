/- The statements KnowSelf and KnowDifferent, walked. By an AI agent. -/
import Derived.Test.YtmhoacnbmbhcjaaGreatDoorKnowP
namespace Go.Proofs.YtmhoacnbmbhcjaaGreatDoor
open Go.RowKit Pl
set_option maxHeartbeats 1600000 in
set_option maxRecDepth 100000 in
theorem KnowSelf_any (w : World) :
    Calls Tryz.prog 5 #[] w fun e w' => e = .returned (.bool true) ∧ Below w.heap.size w w' := by
  have HS := Lib.hid (fun W u u2 h1 h2 => PSame_arg W u u2 (knowL pHead7) (knowL pHead7) true h1 h2 (by rw [knowL_len]; decide) (by simp))
  have HSP := Lib.hid (fun W B u h1 h2 => spoil_any W B u (knowL pHead7) h1 h2 (by rw [knowL_len]; decide))
  go_enter Tryz.func5, Tryz.ntmps5
  go_wp2
  go_loopw [1] (fun i wr => ∃ k : Nat, k ≤ 2 ∧ i = .int .i64 k ∧ Hid (Below w.heap.size w wr)) (fun i _ => 2 - (intOf i).toNat)
  case atStart => exact ⟨0, by decide, rfl, Lib.hid (Below.refl _ _)⟩
  case round =>
    obtain ⟨k, hk, rfl, HBR⟩ := hrel
    by_cases hlt : k < 2
    · have hk1 : (k : Int) < 2 := by omega
      go_wp2_with fail
      refine (Self_own _).mono ?_
      rintro e w1 ⟨v1, rfl, ho1, h1⟩
      have HB1 := Lib.hid (bstep HBR.out h1); have HO1 := Lib.hid ho1
      have HSZ : Hid (wr.heap.size ≤ w1.heap.size) := Lib.hid h1.size
      obtain ⟨a1, c1, rfl⟩ := ho1.arg.form
      clear ho1 h1
      generalize (knowL pHead7).length = n1 at *
      go_wp2_with fail
      refine (rSelf_any _).mono ?_
      rintro e w2 ⟨v2, rfl, ha2, h2⟩
      have HB2 := Lib.hid (bstep HB1.out h2); have HO2 := Lib.hid (HO1.out.below h2); have HA2 := Lib.hid ha2
      have HSZ2 := Lib.hid (Nat.le_trans HSZ.out h2.size)
      clear ha2 h2
      go_wp2_with fail
      refine (HS.out _ _ _ HO2.out.arg HA2.out).mono ?_
      rintro e w3 ⟨rfl, h3⟩
      have HB3 := Lib.hid (bstep HB2.out h3); have HO3 := Lib.hid (HO2.out.below h3)
      have HSZ3 := Lib.hid (Nat.le_trans HSZ2.out h3.size)
      clear h3
      go_wp2_with fail
      refine (HSP.out _ wr.heap.size _ HO3.out HSZ3.out).mono ?_
      rintro e w4 ⟨rfl, h4⟩
      have HB4 := Lib.hid (HB3.out.trans (h4.mono HBR.out.size))
      clear h4
      go_wp2_with fail
      go_roundw
      case rel => exact ⟨k + 1, by omega, by go_num, HB4⟩
      case measure => simp [intOf]; omega
    · obtain rfl : k = 2 := by omega
      go_wp2_with fail
      refine (awake7_any _).mono ?_
      rintro e w6 ⟨rfl, h6⟩
      have HB6 := Lib.hid (bstep HBR.out h6)
      clear h6
      go_wp2_with fail
      go_ret
      exact ⟨rfl, HB6.out⟩
set_option maxHeartbeats 3200000 in
set_option maxRecDepth 100000 in
theorem KnowDifferent_any (w : World) (v u : Value) (p q : List Ins) (hp : ArgP w v p) (pl : p.length * 48 ≤ 140737488355328) (pz : ∀ x ∈ p, x.tree.length ≤ 281474976710656) (hq : ArgP w u q) (ql : q.length * 48 ≤ 140737488355328) (qz : ∀ x ∈ q, x.tree.length ≤ 281474976710656) :
    Calls Tryz.prog 9 #[v, u] w fun e w' => e = .returned (.bool true) ∧ Below w.heap.size w w' := by
  have HSM := Lib.hid (fun m => Small_any m _ w.heap.size 0 1 [p] (lit_pieces w [v] [p] ⟨hp, trivial⟩) (by simp) (by intro x hx; simp at hx; subst hx; exact ⟨by omega, pz⟩))
  have HSN := Lib.hid (fun m W (h : ArgP W u q) => Small_any m _ W.heap.size 0 1 [q] (lit_pieces W [u] [q] ⟨h, trivial⟩) (by simp) (by intro x hx; simp at hx; subst hx; exact ⟨by omega, qz⟩))
  have HK1 := Lib.hid (fun W h => Know_own W v p h (by omega) pz)
  have HK2 := Lib.hid (fun W h => Know_own W u q h (by omega) qz)
  obtain ⟨bb, hbb⟩ : ∃ bb : Bool, bb = true ↔ p = q := by
    by_cases h : p = q
    · exact ⟨true, by simp [h]⟩
    · exact ⟨false, by simp [h]⟩
  have HS1 := Lib.hid (fun W a b h1 h2 => PSame_arg W a b (resL 0 (knowL p)) (resL 0 (knowL q)) bb h1 h2 (by have := know_len p; have h9 := resL_len 0 (knowL p); rw [knowL_len] at h9; omega) (hbb.trans know_inj.symm))
  have HS2 := Lib.hid (fun W a b h1 h2 => PSame_arg W a b p q bb h1 h2 (by omega) hbb)
  have HP := Lib.hid hp; have HQ := Lib.hid hq
  have hd1 := knowDue_cases p
  have hd2 := knowDue_cases q
  obtain ⟨pa, pc, rfl⟩ := hp.form
  obtain ⟨qa, qc, rfl⟩ := hq.form
  clear hp pl pz hq ql qz hbb
  have HB0 := Lib.hid (alloc_below w (.cells #[.slice pa p.length pc] 23))
  generalize p.length = n1 at *
  generalize q.length = n2 at *
  generalize knowDue p = d1 at *
  generalize knowDue q = d2 at *
  have HD1 := Lib.hid hd1; have HD2 := Lib.hid hd2
  clear hd1 hd2
  go_enter Tryz.func9, Tryz.ntmps9
  go_wp2_with fail
  refine (HSM.out _).mono ?_
  rintro e w1 ⟨⟨r, rfl⟩, h1⟩
  have HB1 := Lib.hid (bstep HB0.out h1)
  clear h1
  cases r with
  | false =>
    go_wp2_with fail
    refine (awake7_any _).mono ?_
    rintro e w2 ⟨rfl, h2⟩
    have HB2 := Lib.hid (bstep HB1.out h2)
    clear h2
    go_wp2_with fail
    go_ret
    exact ⟨rfl, HB2.out⟩
  | true =>
    go_wp2_with fail
    refine (HSN.out _ _ (HQ.out.below HB1.out)).mono ?_
    rintro e w2 ⟨⟨r, rfl⟩, h2⟩
    have HB2 := Lib.hid (bstep (HB1.out.alloc HB1.out.size (.cells #[.slice qa n2 qc] 23)) h2)
    clear h2
    cases r with
    | false =>
      go_wp2_with fail
      refine (awake7_any _).mono ?_
      rintro e w3 ⟨rfl, h3⟩
      have HB3 := Lib.hid (bstep HB2.out h3)
      clear h3
      go_wp2_with fail
      go_ret
      exact ⟨rfl, HB3.out⟩
    | true =>
      go_wp2_with fail
      refine (HK1.out _ (HP.out.below HB2.out)).mono ?_
      rintro e w3 ⟨h3, v3, rfl, ho3⟩
      have HB3 := Lib.hid (bstep HB2.out h3); have HA3 := Lib.hid ho3.arg
      clear h3 ho3
      go_wp2_with fail
      refine (HK2.out _ (HQ.out.below HB3.out)).mono ?_
      rintro e w4 ⟨h4, v4, rfl, ho4⟩
      have HB4 := Lib.hid (bstep HB3.out h4); have HA4 := Lib.hid ho4.arg
      have HA34 := Lib.hid (HA3.out.below h4)
      clear h4 ho4
      by_cases e1 : d1 = 0
      · subst e1
        by_cases e2 : d2 = 0
        · subst e2
          have HS1' := HS1.out _ _ _ HA34.out HA4.out
          have HS1H := Lib.hid HS1'
          clear HS1'
          go_wp2_with fail
          refine HS1H.out.mono ?_
          rintro e w5 ⟨rfl, h5⟩
          have HB5 := Lib.hid (bstep HB4.out h5)
          clear h5
          go_wp2_with fail
          refine (HS2.out _ _ _ (HP.out.below HB5.out) (HQ.out.below HB5.out)).mono ?_
          rintro e w6 ⟨rfl, h6⟩
          have HB6 := Lib.hid (bstep HB5.out h6)
          clear h6 HS1 HS2 HS1H
          cases bb with
          | true =>
            go_wp2_with fail
            refine (awake7_any _).mono ?_
            rintro e w7 ⟨rfl, h7⟩
            have HB7 := Lib.hid (bstep HB6.out h7)
            clear h7
            go_wp2_with fail
            go_ret
            exact ⟨rfl, HB7.out⟩
          | false =>
            go_wp2_with fail
            refine (awake7_any _).mono ?_
            rintro e w7 ⟨rfl, h7⟩
            have HB7 := Lib.hid (bstep HB6.out h7)
            clear h7
            go_wp2_with fail
            go_ret
            exact ⟨rfl, HB7.out⟩
        · have hne : (d2 != 0) = true := by simpa using e2
          clear e2
          go_wp2_with fail
          refine (awake7_any _).mono ?_
          rintro e w7 ⟨rfl, h7⟩
          have HB7 := Lib.hid (bstep HB4.out h7)
          clear h7
          go_wp2_with fail
          go_ret
          exact ⟨rfl, HB7.out⟩
      · have hne : (d1 != 0) = true := by simpa using e1
        clear e1
        go_wp2_with fail
        refine (awake7_any _).mono ?_
        rintro e w7 ⟨rfl, h7⟩
        have HB7 := Lib.hid (bstep HB4.out h7)
        clear h7
        go_wp2_with fail
        go_ret
        exact ⟨rfl, HB7.out⟩
end Go.Proofs.YtmhoacnbmbhcjaaGreatDoor
