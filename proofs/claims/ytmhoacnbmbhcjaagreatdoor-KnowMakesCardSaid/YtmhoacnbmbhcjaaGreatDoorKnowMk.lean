/- The statement KnowMakes, walked. By an AI agent. -/
import Derived.Test.YtmhoacnbmbhcjaaGreatDoorKnowA
namespace Go.Proofs.YtmhoacnbmbhcjaaGreatDoor
open Go.RowKit Pl
set_option maxHeartbeats 3200000 in
set_option maxRecDepth 100000 in
theorem knowMakes_yes (w : World) (v : Value) (q : List Ins) (h : ArgP w v q) (hl : q.length * 48 ≤ 140737488355328) (hz : ∀ x ∈ q, x.tree.length ≤ 281474976710656) (hp : PValid q) :
    Calls Tryz.prog 3 #[v] w fun e w' => e = .returned (.bool true) ∧ Below w.heap.size w w' := by
  have HSM := Lib.hid (fun m => Small_any m _ w.heap.size 0 1 [q] (lit_pieces w [v] [q] ⟨h, trivial⟩) (by simp) (by intro p hp; simp at hp; subst hp; exact ⟨by omega, hz⟩))
  have HT := Lib.hid (fun W h => twin_any W v q h hl)
  have HV := Lib.hid (fun W u h => PV_arg W u q true h (by omega) hz (by simp [hp]))
  have HK := Lib.hid (fun W h => Know_own W v q h (by omega) hz)
  have HSD := Lib.hid (fun W u u2 h1 h2 => PSame_arg W u u2 (resL (knowDue q) (knowL q)) (resL (knowDue q) (knowL q)) true h1 h2 (by have := know_len q; omega) (by simp))
  have HSP := Lib.hid (fun W B u h1 h2 => spoil_any W B u (resL (knowDue q) (knowL q)) h1 h2 (by have := know_len q; omega))
  have HSQ := Lib.hid (fun W u u2 h1 h2 => PSame_arg W u u2 q q true h1 h2 (by omega) (by simp))
  have HA := Lib.hid h
  have HMD := Lib.hid (fun W u h => Made_any W u q h (by have := hp.1; omega) (fun x hx => pvalid_tree hp hx) hp.2.2)
  rw [made_know hp] at HMD
  obtain ⟨a, c, rfl⟩ := h.form
  clear h hl hz hp
  have HB0 := Lib.hid (alloc_below w (.cells #[.slice a q.length c] 23))
  have HA0 := Lib.hid (HA.out.below HB0.out)
  generalize q.length = n at *
  generalize knowDue q = d at *
  go_enter Tryz.func3, Tryz.ntmps3
  go_wp2_with fail
  refine (HSM.out _).mono ?_
  rintro e w1 ⟨⟨r, rfl⟩, h1⟩
  have HB1 := Lib.hid (bstep HB0.out h1)
  have HA1 := Lib.hid (HA0.out.below h1)
  clear h1 HSM
  cases r with
  | false =>
    go_wp2_with fail
    refine (awake7_any _).mono ?_
    rintro e w2 ⟨rfl, h2⟩
    have HB2 := Lib.hid (bstep HB1.out h2)
    clear h2
    go_wp2_with fail
    go_ret
    exact ⟨rfl, HB2.out⟩
  | true =>
    go_wp2_with fail
    refine (HT.out _ HA1.out).mono ?_
    rintro e w2 ⟨v2, rfl, ha2, h2⟩
    obtain ⟨a2, c2, rfl⟩ := ha2.form
    have HB2 := Lib.hid (bstep HB1.out h2)
    have HQ2 := Lib.hid (HA1.out.below h2)
    have HA2 := Lib.hid ha2
    clear h2 ha2
    generalize q.length = n2 at *
    have HB2a := Lib.hid (HB2.out.alloc HB2.out.size (.cells #[] 64))
    have HQ2a := Lib.hid (HQ2.out.below (alloc_below w2 (.cells #[] 64)))
    have HA2a := Lib.hid (HA2.out.below (alloc_below w2 (.cells #[] 64)))
    go_wp2_with fail
    refine (HV.out _ _ HA2a.out).mono ?_
    rintro e w3 ⟨rfl, h3⟩
    have HB3 := Lib.hid (bstep HB2a.out h3)
    have HQ3 := Lib.hid (HQ2a.out.below h3)
    have HA3 := Lib.hid (HA2a.out.below h3)
    clear h3
    go_wp2_with fail
    refine (HMD.out _ _ HA3.out).mono ?_
    rintro e w4 ⟨h4, v4, rfl, ha4⟩
    have HB4 := Lib.hid (bstep HB3.out h4)
    have HQ4 := Lib.hid (HQ3.out.below h4)
    have HA4 := Lib.hid (HA3.out.below h4)
    have HD4 := Lib.hid ha4
    obtain ⟨d4, c4, rfl⟩ := ha4.form
    clear ha4 h4
    generalize (resL d (knowL q)).length = n4 at *
    go_wp2_with fail
    go_loopw [6] (fun i wr => ∃ k : Nat, k ≤ 2 ∧ i = .int .i64 k ∧ Hid (Below w4.heap.size w4 wr)) (fun i _ => 2 - (intOf i).toNat)
    case atStart => exact ⟨0, by decide, rfl, Lib.hid (Below.refl _ _)⟩
    case round =>
      obtain ⟨k, hk, rfl, HBR⟩ := hrel
      by_cases hlt : k < 2
      · have hk1 : (k : Int) < 2 := by omega
        go_wp2_with fail
        refine (HK.out _ (HQ4.out.below HBR.out)).mono ?_
        rintro e w5 ⟨h5, v5, rfl, ho5⟩
        have HB5 := Lib.hid (bstep HBR.out h5)
        have HSZ : Hid (wr.heap.size ≤ w5.heap.size) := Lib.hid h5.size
        obtain ⟨a5, c5, rfl⟩ := ho5.arg.form
        have HO5 := Lib.hid ho5
        clear h5 ho5
        generalize (resL d (knowL q)).length = n5 at *
        go_wp2_with fail
        refine (HSD.out _ _ _ HO5.out.arg (HD4.out.below HB5.out)).mono ?_
        rintro e w6 ⟨rfl, h6⟩
        have HB6 := Lib.hid (bstep HB5.out h6)
        have HO6 := Lib.hid (HO5.out.below h6)
        have HSZ6 := Lib.hid (Nat.le_trans HSZ.out h6.size)
        clear h6
        go_wp2_with fail
        refine (HSQ.out _ _ _ (HQ4.out.below HB6.out) (HA4.out.below HB6.out)).mono ?_
        rintro e w7 ⟨rfl, h7⟩
        have HB7 := Lib.hid (bstep HB6.out h7)
        have HO7 := Lib.hid (HO6.out.below h7)
        have HSZ7 := Lib.hid (Nat.le_trans HSZ6.out h7.size)
        clear h7
        go_wp2_with fail
        refine (HSP.out _ wr.heap.size _ HO7.out HSZ7.out).mono ?_
        rintro e w8 ⟨rfl, h8⟩
        have HB8 := Lib.hid (HB7.out.trans (h8.mono HBR.out.size))
        clear h8
        go_wp2_with fail
        go_roundw
        case rel => exact ⟨k + 1, by omega, by go_num, HB8⟩
        case measure => simp [intOf]; omega
      · obtain rfl : k = 2 := by omega
        go_wp2_with fail
        refine (HSQ.out _ _ _ (HQ4.out.below HBR.out) (HA4.out.below HBR.out)).mono ?_
        rintro e w5 ⟨rfl, h5⟩
        have HB5 := Lib.hid (bstep (bstep HB4.out HBR.out) h5)
        clear h5
        go_wp2_with fail
        refine (awake7_any _).mono ?_
        rintro e w6 ⟨rfl, h6⟩
        have HB6 := Lib.hid (bstep HB5.out h6)
        clear h6
        go_wp2_with fail
        go_ret
        exact ⟨rfl, HB6.out⟩
set_option maxHeartbeats 3200000 in
set_option maxRecDepth 100000 in
theorem knowMakes_form (w : World) (v : Value) (q : List Ins) (h : ArgP w v q) (hl : q.length * 48 ≤ 140737488355328) (hz : ∀ x ∈ q, x.tree.length ≤ 281474976710656) (hp : ¬ PValid q) :
    Calls Tryz.prog 3 #[v] w fun e w' => e = .returned (.bool true) ∧ Below w.heap.size w w' := by
  have HSM := Lib.hid (fun m => Small_any m _ w.heap.size 0 1 [q] (lit_pieces w [v] [q] ⟨h, trivial⟩) (by simp) (by intro p hp; simp at hp; subst hp; exact ⟨by omega, hz⟩))
  have HT := Lib.hid (fun W h => twin_any W v q h hl)
  have HV := Lib.hid (fun W u h => PV_arg W u q false h (by omega) hz (by simp [hp]))
  have HK := Lib.hid (fun W h => Know_own W v q h (by omega) hz)
  have HSD := Lib.hid (fun W u u2 h1 h2 => PSame_arg W u u2 (resL (knowDue q) (knowL q)) (resL (knowDue q) (knowL q)) true h1 h2 (by have := know_len q; omega) (by simp))
  have HSP := Lib.hid (fun W B u h1 h2 => spoil_any W B u (resL (knowDue q) (knowL q)) h1 h2 (by have := know_len q; omega))
  have HSQ := Lib.hid (fun W u u2 h1 h2 => PSame_arg W u u2 q q true h1 h2 (by omega) (by simp))
  have HA := Lib.hid h
  have HDE : Hid (resL (knowDue q) (knowL q) = []) := Lib.hid (by rw [knowDue_form hp]; rfl)
  have HD1 : Hid (knowDue q = 1) := Lib.hid (knowDue_form hp)
  obtain ⟨a, c, rfl⟩ := h.form
  clear h hl hz hp
  have HB0 := Lib.hid (alloc_below w (.cells #[.slice a q.length c] 23))
  have HA0 := Lib.hid (HA.out.below HB0.out)
  generalize q.length = n at *
  generalize knowDue q = d at *
  go_enter Tryz.func3, Tryz.ntmps3
  go_wp2_with fail
  refine (HSM.out _).mono ?_
  rintro e w1 ⟨⟨r, rfl⟩, h1⟩
  have HB1 := Lib.hid (bstep HB0.out h1)
  have HA1 := Lib.hid (HA0.out.below h1)
  clear h1 HSM
  cases r with
  | false =>
    go_wp2_with fail
    refine (awake7_any _).mono ?_
    rintro e w2 ⟨rfl, h2⟩
    have HB2 := Lib.hid (bstep HB1.out h2)
    clear h2
    go_wp2_with fail
    go_ret
    exact ⟨rfl, HB2.out⟩
  | true =>
    go_wp2_with fail
    refine (HT.out _ HA1.out).mono ?_
    rintro e w2 ⟨v2, rfl, ha2, h2⟩
    obtain ⟨a2, c2, rfl⟩ := ha2.form
    have HB2 := Lib.hid (bstep HB1.out h2)
    have HQ2 := Lib.hid (HA1.out.below h2)
    have HA2 := Lib.hid ha2
    clear h2 ha2
    generalize q.length = n2 at *
    have HB2a := Lib.hid (HB2.out.alloc HB2.out.size (.cells #[] 64))
    have HQ2a := Lib.hid (HQ2.out.below (alloc_below w2 (.cells #[] 64)))
    have HA2a := Lib.hid (HA2.out.below (alloc_below w2 (.cells #[] 64)))
    go_wp2_with fail
    refine (HV.out _ _ HA2a.out).mono ?_
    rintro e w3 ⟨rfl, h3⟩
    have HB3 := Lib.hid (bstep HB2a.out h3)
    have HQ3 := Lib.hid (HQ2a.out.below h3)
    have HA3 := Lib.hid (HA2a.out.below h3)
    clear h3
    have HD4 : Hid (ArgP w3 (.slice (some ⟨w2.heap.size, 0, none⟩) 0 0) (resL d (knowL q))) := Lib.hid (by rw [HDE.out]; exact .inl ⟨rfl, .inr ⟨_, _, rfl⟩⟩)
    have HB4 := HB3; have HA4 := HA3; have HQ4 := HQ3
    obtain rfl : d = 1 := HD1.out
    go_wp2_with fail
    go_loopw [6] (fun i wr => ∃ k : Nat, k ≤ 2 ∧ i = .int .i64 k ∧ Hid (Below w3.heap.size w3 wr)) (fun i _ => 2 - (intOf i).toNat)
    case atStart => exact ⟨0, by decide, rfl, Lib.hid (Below.refl _ _)⟩
    case round =>
      obtain ⟨k, hk, rfl, HBR⟩ := hrel
      by_cases hlt : k < 2
      · have hk1 : (k : Int) < 2 := by omega
        go_wp2_with fail
        refine (HK.out _ (HQ4.out.below HBR.out)).mono ?_
        rintro e w5 ⟨h5, v5, rfl, ho5⟩
        have HB5 := Lib.hid (bstep HBR.out h5)
        have HSZ : Hid (wr.heap.size ≤ w5.heap.size) := Lib.hid h5.size
        obtain ⟨a5, c5, rfl⟩ := ho5.arg.form
        have HO5 := Lib.hid ho5
        clear h5 ho5
        generalize (resL 1 (knowL q)).length = n5 at *
        go_wp2_with fail
        refine (HSD.out _ _ _ HO5.out.arg (HD4.out.below HB5.out)).mono ?_
        rintro e w6 ⟨rfl, h6⟩
        have HB6 := Lib.hid (bstep HB5.out h6)
        have HO6 := Lib.hid (HO5.out.below h6)
        have HSZ6 := Lib.hid (Nat.le_trans HSZ.out h6.size)
        clear h6
        go_wp2_with fail
        refine (HSQ.out _ _ _ (HQ4.out.below HB6.out) (HA4.out.below HB6.out)).mono ?_
        rintro e w7 ⟨rfl, h7⟩
        have HB7 := Lib.hid (bstep HB6.out h7)
        have HO7 := Lib.hid (HO6.out.below h7)
        have HSZ7 := Lib.hid (Nat.le_trans HSZ6.out h7.size)
        clear h7
        go_wp2_with fail
        refine (HSP.out _ wr.heap.size _ HO7.out HSZ7.out).mono ?_
        rintro e w8 ⟨rfl, h8⟩
        have HB8 := Lib.hid (HB7.out.trans (h8.mono HBR.out.size))
        clear h8
        go_wp2_with fail
        go_roundw
        case rel => exact ⟨k + 1, by omega, by go_num, HB8⟩
        case measure => simp [intOf]; omega
      · obtain rfl : k = 2 := by omega
        go_wp2_with fail
        refine (HSQ.out _ _ _ (HQ4.out.below HBR.out) (HA4.out.below HBR.out)).mono ?_
        rintro e w5 ⟨rfl, h5⟩
        have HB5 := Lib.hid (bstep (bstep HB4.out HBR.out) h5)
        clear h5
        go_wp2_with fail
        refine (awake7_any _).mono ?_
        rintro e w6 ⟨rfl, h6⟩
        have HB6 := Lib.hid (bstep HB5.out h6)
        clear h6
        go_wp2_with fail
        go_ret
        exact ⟨rfl, HB6.out⟩
theorem KnowMakes_any (w : World) (v : Value) (q : List Ins) (h : ArgP w v q) (hl : q.length * 48 ≤ 140737488355328) (hz : ∀ x ∈ q, x.tree.length ≤ 281474976710656) :
    Calls Tryz.prog 3 #[v] w fun e w' => e = .returned (.bool true) ∧ Below w.heap.size w w' := by
  by_cases hp : PValid q
  · exact knowMakes_yes w v q h hl hz hp
  · exact knowMakes_form w v q h hl hz hp
end Go.Proofs.YtmhoacnbmbhcjaaGreatDoor
