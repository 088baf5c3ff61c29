/- The reference's Fix; the statement KnowFixes, walked. By an AI agent. -/
import Derived.Test.YtmhoacnbmbhcjaaGreatDoorFix
namespace Go.Proofs.YtmhoacnbmbhcjaaGreatDoor
open Go.RowKit Go.Maps Pl

set_option maxHeartbeats 1600000 in
set_option maxRecDepth 100000 in
theorem rFix_regs (w : World) (v vu : Value) (t : List Ins) (h : ArgP w v t) (ht : PValid t) (hn : ¬ rn t ≤ 31) :
    Calls Tryz.prog 24 #[v, vu] w (RRes w (fixDue t) (knowL (fixL t))) := by
  have HR := Lib.hid (Regs_arg w v t h ht)
  rw [fixDue_regs ht hn]
  rw [← rn_eq] at HR
  have h31 : (31 : Int) < (rn t : Int) := by omega
  have h32 : rn t ≤ 32 := rn_le ht
  obtain ⟨a, c, rfl⟩ := h.form
  clear h ht hn
  generalize t.length = n at *
  generalize rn t = m at *
  go_enter Tryz.func24, Tryz.ntmps24
  go_wp2_with fail
  refine HR.out.mono ?_
  rintro e w1 ⟨rfl, h1⟩
  have HB := Lib.hid h1
  clear h1
  go_wp2_with fail
  go_ret2
  exact rres_no (by decide) HB.out
set_option maxHeartbeats 3200000 in
set_option maxRecDepth 100000 in
theorem rFix_made (w : World) (v vu : Value) (t : List Ins) (h : ArgP w v t) (hu : ArgP w vu univL) (ht : PValid t) (hn : rn t ≤ 31) :
    Calls Tryz.prog 24 #[v, vu] w (RRes w (fixDue t) (knowL (fixL t))) := by
  have HR := Lib.hid (Regs_arg w v t h ht)
  rw [← rn_eq] at HR
  have h0 := rn_pos t
  have hl := ht.1
  have HM := Lib.hid (fun W u (h : ArgP W u (fixL t)) => Made_any W u (fixL t) h (by rw [fixL_len]; omega) (fixL_tree ht) (allR_fix ht hn))
  rw [← fixDue_made ht hn] at HM
  have HLN := Lib.hid (fixL_len t)
  have HFE := Lib.hid (show ∀ k, k = rn t - 1 → (([tailI (rn t) 0, headI 0 0] ++ t) ++ clearL 1 k) ++ [consI 0 0 (rn t), setI (rn t) [48]] ++ univL = fixL t from fun k hk => by subst hk; rfl)
  have HAR := Lib.hid h; have HAU := Lib.hid hu
  have HUL : Hid (univL.length = 104) := Lib.hid univL_len
  obtain ⟨va, vc, rfl⟩ := h.form
  obtain ⟨ua, uc, rfl⟩ := hu.form
  have h31 : ¬ (31 : Int) < (rn t : Int) := by omega
  have HL4 := Lib.hid hl
  have HM1 := Lib.hid h0
  have HB0 := Lib.hid (Below.refl w.heap.size w)
  clear h hu ht hl
  generalize htn : t.length = n at *
  have HTN := Lib.hid htn
  clear htn
  generalize univL.length = n0 at *
  generalize rn t = m at *
  generalize knowL (fixL t) = ks at *
  generalize fixDue t = d at *
  go_enter Tryz.func24, Tryz.ntmps24
  go_wp2_with fail
  refine HR.out.mono ?_
  rintro e w1 ⟨rfl, h1⟩
  have HB1 := Lib.hid h1
  clear h1
  go_wp2_with fail
  refine (r7tail_is _ _ _).mono ?_
  rintro e w2 ⟨rfl, h2⟩
  have HB2 := Lib.hid (bstep HB1.out h2)
  clear h2
  go_wp2_with fail
  refine (r7head_is _ _ _).mono ?_
  rintro e w3 ⟨rfl, h3⟩
  have HB3 := Lib.hid (bstep HB2.out h3)
  clear h3
  have HO3 : Hid (OwnP (w3.alloc (.cells (progV [tailI m 0, headI 0 0]).toArray 64)) w.heap.size (.slice (some ⟨w3.heap.size, 0, none⟩) 2 2) [tailI m 0, headI 0 0]) := Lib.hid (World.ownsRow_lit w3 (progV [tailI m 0, headI 0 0]).toArray 2 HB3.out.size (by unfold maxLen; omega) rfl)
  have HB3a := Lib.hid (HB3.out.alloc HB3.out.size (.cells (progV [tailI m 0, headI 0 0]).toArray 64))
  have HA3 := Lib.hid (HAR.out.below HB3a.out)
  go_wp2_with (at_builtin; refine wpList_app_prog rfl _ _ rfl w.heap.size _ 2 (progV [tailI m 0, headI 0 0]) rfl HO3.out _ rfl t HA3.out (by have := HTN.out; have := HL4.out; omega) HB3a.out.size ?_; intro v' w' hown hgrow)
  have HB4 : Hid (Below w.heap.size w w') := Lib.hid (HB3a.out.grown hgrow HB3a.out.size (fun g h => (HO3.out.lt g h).1))
  have HO4 : Hid (OwnP w' w.heap.size v' (([tailI m 0, headI 0 0] ++ t) ++ clearL 1 0)) := Lib.hid (by
    have h9 := hown
    unfold OwnP
    rw [show clearL 1 0 = [] from rfl, List.append_nil, progV_app, List.length_append]
    exact h9)
  clear hown hgrow
  go_loopw [7, 8] (fun v i wr => ∃ k : Nat, k ≤ m - 1 ∧ i = .int .i64 ((1 : Int) + (k : Int)) ∧ Hid (OwnP wr w.heap.size v (([tailI m 0, headI 0 0] ++ t) ++ clearL 1 k)) ∧ Hid (Below w.heap.size w wr)) (fun _ i _ => ((m : Int) - intOf i).toNat)
  case atStart => exact ⟨0, Nat.zero_le _, by simp, HO4, HB4⟩
  case round =>
    clear HO4 HB4
    obtain ⟨k, hk, rfl, HO, HB⟩ := hrel
    by_cases hlt : k < m - 1
    · have hlt' : (1 : Int) + (k : Int) < (m : Int) := by omega
      have HL := Lib.hid (clearL_succ 1 k)
      have HN : Hid ((([tailI m 0, headI 0 0] ++ t) ++ clearL 1 k).length ≤ 5000) := Lib.hid (by rw [List.length_append, List.length_append, clearL_len, HTN.out]; have := HL4.out; show 2 + n + k ≤ 5000; omega)
      go_wp2_with fail
      refine (r7set_is _ _ _).mono ?_
      rintro e w5 ⟨rfl, h5⟩
      have HB5 := Lib.hid (bstep HB.out h5)
      have HO5 := Lib.hid (HO.out.below h5)
      clear h5
      go_wp2_with (at_builtin; refine wpList_app_prog rfl _ _ rfl w.heap.size _ (([tailI m 0, headI 0 0] ++ t) ++ clearL 1 k).length (progV (([tailI m 0, headI 0 0] ++ t) ++ clearL 1 k)) rfl (HO5.out.alloc _) _ rfl [setI ((1 : Int) + (k : Int)) [48]] (lit_prog _ [setI ((1 : Int) + (k : Int)) [48]] (by simp)) (by have := HN.out; simp only [List.length_cons, List.length_nil]; omega) (by have := HB5.out.size; simp; omega) ?_; intro v' w' hown hgrow)
      have HB6 : Hid (Below w.heap.size w w') := Lib.hid ((HB5.out.alloc HB5.out.size _).grown hgrow (by have := HB5.out.size; simp; omega) (fun g h => ((HO5.out.alloc (.cells (progV [setI ((1 : Int) + (k : Int)) [48]]).toArray 64)).lt g h).1))
      have HO6 : Hid (OwnP w' w.heap.size v' (([tailI m 0, headI 0 0] ++ t) ++ clearL 1 (k + 1))) := Lib.hid (by
        unfold OwnP; rw [HL.out, ← List.append_assoc, progV_app, List.length_append]; exact hown)
      clear hown hgrow
      go_wp2_with fail
      go_roundw
      case rel => exact ⟨k + 1, by omega, by go_num, HO6, HB6⟩
      case measure => simp [intOf]; omega
    · have hke : k = m - 1 := by omega
      have HKE := Lib.hid hke
      have hlt' : ¬ (1 : Int) + (k : Int) < (m : Int) := by omega
      have HN : Hid ((([tailI m 0, headI 0 0] ++ t) ++ clearL 1 k).length ≤ 5000) := Lib.hid (by rw [List.length_append, List.length_append, clearL_len, HTN.out]; have := HL4.out; show 2 + n + k ≤ 5000; omega)
      clear hke hk hlt
      generalize hL : ([tailI m 0, headI 0 0] ++ t) ++ clearL 1 k = L at *
      have HLE := Lib.hid hL
      clear hL
      go_wp2_with fail
      refine (r7cons_is _ _ _ _).mono ?_
      rintro e w5 ⟨rfl, h5⟩
      have HB5 := Lib.hid (bstep HB.out h5)
      have HO5 := Lib.hid (HO.out.below h5)
      clear h5
      go_wp2_with fail
      refine (r7set_is _ _ _).mono ?_
      rintro e w6 ⟨rfl, h6⟩
      have HB6 := Lib.hid (bstep HB5.out h6)
      have HO6 := Lib.hid (HO5.out.below h6)
      clear h6
      have HUN := Lib.hid univL_len
      go_wp2_with (first
        | (at_builtin; refine wpList_app_prog rfl _ _ rfl w.heap.size _ L.length (progV L) rfl (HO6.out.alloc _) _ rfl [consI 0 0 m, setI m [48]] (lit_prog _ [consI 0 0 m, setI m [48]] (by simp)) (by have := HN.out; simp only [List.length_cons, List.length_nil]; omega) (by have := HB6.out.size; simp; omega) ?_; intro v' w' hown hgrow)
        | (at_builtin; refine wpList_app_prog rfl _ _ rfl w.heap.size _ _ _ rfl hown _ rfl univL (HAU.out.below ((HB6.out.alloc HB6.out.size (.cells (progV [consI 0 0 m, setI m [48]]).toArray 64)).grown hgrow (by have := HB6.out.size; simp; omega) (fun g h => ((HO6.out.alloc (.cells (progV [consI 0 0 m, setI m [48]]).toArray 64)).lt g h).1))) (by have := HN.out; rw [HUN.out]; simp only [List.length_cons, List.length_nil]; omega) ((HB6.out.alloc HB6.out.size (.cells (progV [consI 0 0 m, setI m [48]]).toArray 64)).grown hgrow (by have := HB6.out.size; simp; omega) (fun g h => ((HO6.out.alloc (.cells (progV [consI 0 0 m, setI m [48]]).toArray 64)).lt g h).1)).size ?_; intro v2' w2' hown2 hgrow2))
      have HB7 : Hid (Below w.heap.size w w') := Lib.hid ((HB6.out.alloc HB6.out.size (.cells (progV [consI 0 0 m, setI m [48]]).toArray 64)).grown hgrow (by have := HB6.out.size; simp; omega) (fun g h => ((HO6.out.alloc (.cells (progV [consI 0 0 m, setI m [48]]).toArray 64)).lt g h).1))
      have HB8 : Hid (Below w.heap.size w w2') := Lib.hid (HB7.out.grown hgrow2 HB7.out.size (fun g h => (hown.lt g h).1))
      have HA8 : Hid (ArgP w2' _ (fixL t)) := Lib.hid (OwnP.arg (B := w.heap.size) (by
        rw [← HFE.out k HKE.out, HLE.out]
        unfold OwnP; rw [progV_app, progV_app, List.length_append, List.length_append]; exact hown2))
      clear hown hgrow hown2 hgrow2
      go_wp2_with fail
      refine (HM.out _ _ HA8.out).mono ?_
      rintro e w9 ⟨h9, v9, rfl, ha9⟩
      have HB9 := Lib.hid (bstep HB8.out h9)
      have HA9 := Lib.hid ha9
      clear h9 ha9
      obtain ⟨a9, c9, rfl⟩ := HA9.out.form
      generalize (resL d ks).length = n9 at *
      go_wp2_with fail
      go_ret2
      exact ⟨HB9.out, _, rfl, HA9.out⟩
theorem rFix_any (w : World) (v vu : Value) (t : List Ins) (h : ArgP w v t) (hu : ArgP w vu univL) (ht : PValid t) :
    Calls Tryz.prog 24 #[v, vu] w (RRes w (fixDue t) (knowL (fixL t))) := by
  by_cases hn : rn t ≤ 31
  · exact rFix_made w v vu t h hu ht hn
  · exact rFix_regs w v vu t h ht hn
end Go.Proofs.YtmhoacnbmbhcjaaGreatDoor

namespace Go.Proofs.YtmhoacnbmbhcjaaGreatDoor
open Go.RowKit Go.Maps Pl
set_option maxHeartbeats 3200000 in
set_option maxRecDepth 100000 in
theorem knowFixes_yes (w : World) (v : Value) (q : List Ins) (hE : TabE w) (h : ArgP w v q) (hl : q.length * 48 ≤ 140737488355328) (hz : ∀ x ∈ q, x.tree.length ≤ 281474976710656) (hp : PValid q) :
    Calls Tryz.prog 4 #[v] w fun e w' => e = .returned (.bool true) ∧ Below w.heap.size w w' := by
  have HSM := Lib.hid (fun m => Small_any m _ w.heap.size 0 1 [q] (lit_pieces w [v] [q] ⟨h, trivial⟩) (by simp) (by intro p hp; simp at hp; subst hp; exact ⟨by omega, hz⟩))
  have HT := Lib.hid (fun W h => twin_any W v q h hl)
  have HV := Lib.hid (fun W u h => PV_arg W u q true h (by omega) hz (by simp [hp]))
  have HK := Lib.hid (fun W (hb : Below w.heap.size w W) h => Fix_own W v q h (by omega) hz (hE.below hb))
  have HU := Lib.hid (fun W (hb : Below w.heap.size w W) => Universal_any W (hE.below hb))
  have HVU := Lib.hid (fun W v h => PV_arg W v univL true h (by rw [univL_len]; decide) (fun x hx => by have := pvalid_tree univL_valid hx; omega) (by simp [univL_valid]))
  have HTU := Lib.hid (fun W u h => twin_any W u univL h (by rw [univL_len]; decide))
  have HMD := Lib.hid (fun W u uu h hu => rFix_any W u uu q h hu hp)
  have HSD := Lib.hid (fun W u u2 h1 h2 => PSame_arg W u u2 (resL (fixDue q) (knowL (fixL q))) (resL (fixDue q) (knowL (fixL q))) true h1 h2 (by have := fix_len q; omega) (by simp))
  have HSP := Lib.hid (fun W B u h1 h2 => spoil_any W B u (resL (fixDue q) (knowL (fixL q))) h1 h2 (by have := fix_len q; omega))
  have HSQ := Lib.hid (fun W u u2 h1 h2 => PSame_arg W u u2 q q true h1 h2 (by omega) (by simp))
  have HA := Lib.hid h
  obtain ⟨a, c, rfl⟩ := h.form
  clear h hl hz hp hE
  have HB0 := Lib.hid (alloc_below w (.cells #[.slice a q.length c] 23))
  have HA0 := Lib.hid (HA.out.below HB0.out)
  generalize q.length = n at *
  generalize knowL (fixL q) = ks at *
  generalize fixDue q = d at *
  go_enter Tryz.func4, Tryz.ntmps4
  go_wp2_with fail
  refine (HSM.out _).mono ?_
  rintro e w1 ⟨⟨r, rfl⟩, h1⟩
  have HB1 := Lib.hid (bstep HB0.out h1)
  have HA1 := Lib.hid (HA0.out.below h1)
  clear h1 HSM
  cases r with
  | false =>
    go_wp2_with fail
    refine (awake7_any _).mono ?_
    rintro e w2 ⟨rfl, h2⟩
    have HB2 := Lib.hid (bstep HB1.out h2)
    clear h2
    go_wp2_with fail
    go_ret
    exact ⟨rfl, HB2.out⟩
  | true =>
    go_wp2_with fail
    refine (HT.out _ HA1.out).mono ?_
    rintro e w2 ⟨v2, rfl, ha2, h2⟩
    obtain ⟨a2, c2, rfl⟩ := ha2.form
    have HB2 := Lib.hid (bstep HB1.out h2)
    have HQ2 := Lib.hid (HA1.out.below h2)
    have HA2 := Lib.hid ha2
    clear h2 ha2
    generalize q.length = n2 at *
    go_wp2_with fail
    refine (HU.out _ HB2.out).mono ?_
    rintro e w22 ⟨g, cu, rfl, hou, hu⟩
    have HU22 := Lib.hid (own_argp hou)
    have HB22 := Lib.hid (bstep HB2.out hu); have HQ22 := Lib.hid (HQ2.out.below hu); have HA22 := Lib.hid (HA2.out.below hu)
    clear hou hu
    go_wp2_with fail
    refine (HVU.out _ _ HU22.out).mono ?_
    rintro e w25 ⟨rfl, h25⟩
    have HB25 := Lib.hid (bstep HB22.out h25); have HQ25 := Lib.hid (HQ22.out.below h25); have HA25 := Lib.hid (HA22.out.below h25); have HU25 := Lib.hid (HU22.out.below h25)
    clear h25
    have HB2a := Lib.hid (HB25.out.alloc HB25.out.size (.cells #[] 64))
    have HQ2a := Lib.hid (HQ25.out.below (alloc_below w25 (.cells #[] 64)))
    have HA2a := Lib.hid (HA25.out.below (alloc_below w25 (.cells #[] 64)))
    have HU2a := Lib.hid (HU25.out.below (alloc_below w25 (.cells #[] 64)))
    go_wp2_with fail
    refine (HV.out _ _ HA2a.out).mono ?_
    rintro e w3 ⟨rfl, h3⟩
    have HB3 := Lib.hid (bstep HB2a.out h3)
    have HQ3 := Lib.hid (HQ2a.out.below h3)
    have HA3 := Lib.hid (HA2a.out.below h3)
    have HU3 := Lib.hid (HU2a.out.below h3)
    clear h3
    go_wp2_with fail
    refine (HTU.out _ _ HU3.out).mono ?_
    rintro e w35 ⟨v35, rfl, ha35, h35⟩
    obtain ⟨a35, c35, rfl⟩ := ha35.form
    have HB35 := Lib.hid (bstep HB3.out h35)
    have HQ35 := Lib.hid (HQ3.out.below h35)
    have HA35 := Lib.hid (HA3.out.below h35)
    have HU35 := Lib.hid ha35
    clear ha35 h35
    generalize univL.length = n35 at *
    go_wp2_with fail
    refine (HMD.out _ _ _ HA35.out HU35.out).mono ?_
    rintro e w4 ⟨h4, v4, rfl, ha4⟩
    have HB4 := Lib.hid (bstep HB35.out h4)
    have HQ4 := Lib.hid (HQ35.out.below h4)
    have HA4 := Lib.hid (HA35.out.below h4)
    have HD4 := Lib.hid ha4
    obtain ⟨d4, c4, rfl⟩ := ha4.form
    clear ha4 h4
    generalize (resL d ks).length = n4 at *
    go_wp2_with fail
    go_loopw [7] (fun i wr => ∃ k : Nat, k ≤ 2 ∧ i = .int .i64 k ∧ Hid (Below w4.heap.size w4 wr)) (fun i _ => 2 - (intOf i).toNat)
    case atStart => exact ⟨0, by decide, rfl, Lib.hid (Below.refl _ _)⟩
    case round =>
      obtain ⟨k, hk, rfl, HBR⟩ := hrel
      by_cases hlt : k < 2
      · have hk1 : (k : Int) < 2 := by omega
        go_wp2_with fail
        refine (HK.out _ (bstep HB4.out HBR.out) (HQ4.out.below HBR.out)).mono ?_
        rintro e w5 ⟨h5, v5, rfl, ho5⟩
        have HB5 := Lib.hid (bstep HBR.out h5)
        have HSZ : Hid (wr.heap.size ≤ w5.heap.size) := Lib.hid h5.size
        obtain ⟨a5, c5, rfl⟩ := ho5.arg.form
        have HO5 := Lib.hid ho5
        clear h5 ho5
        generalize (resL d ks).length = n5 at *
        go_wp2_with fail
        refine (HSD.out _ _ _ HO5.out.arg (HD4.out.below HB5.out)).mono ?_
        rintro e w6 ⟨rfl, h6⟩
        have HB6 := Lib.hid (bstep HB5.out h6)
        have HO6 := Lib.hid (HO5.out.below h6)
        have HSZ6 := Lib.hid (Nat.le_trans HSZ.out h6.size)
        clear h6
        go_wp2_with fail
        refine (HSQ.out _ _ _ (HQ4.out.below HB6.out) (HA4.out.below HB6.out)).mono ?_
        rintro e w7 ⟨rfl, h7⟩
        have HB7 := Lib.hid (bstep HB6.out h7)
        have HO7 := Lib.hid (HO6.out.below h7)
        have HSZ7 := Lib.hid (Nat.le_trans HSZ6.out h7.size)
        clear h7
        go_wp2_with fail
        refine (HSP.out _ wr.heap.size _ HO7.out HSZ7.out).mono ?_
        rintro e w8 ⟨rfl, h8⟩
        have HB8 := Lib.hid (HB7.out.trans (h8.mono HBR.out.size))
        clear h8
        go_wp2_with fail
        go_roundw
        case rel => exact ⟨k + 1, by omega, by go_num, HB8⟩
        case measure => simp [intOf]; omega
      · obtain rfl : k = 2 := by omega
        go_wp2_with fail
        refine (HSQ.out _ _ _ (HQ4.out.below HBR.out) (HA4.out.below HBR.out)).mono ?_
        rintro e w5 ⟨rfl, h5⟩
        have HB5 := Lib.hid (bstep (bstep HB4.out HBR.out) h5)
        clear h5
        go_wp2_with fail
        refine (awake7_any _).mono ?_
        rintro e w6 ⟨rfl, h6⟩
        have HB6 := Lib.hid (bstep HB5.out h6)
        clear h6
        go_wp2_with fail
        go_ret
        exact ⟨rfl, HB6.out⟩
set_option maxHeartbeats 3200000 in
set_option maxRecDepth 100000 in
theorem knowFixes_form (w : World) (v : Value) (q : List Ins) (hE : TabE w) (h : ArgP w v q) (hl : q.length * 48 ≤ 140737488355328) (hz : ∀ x ∈ q, x.tree.length ≤ 281474976710656) (hp : ¬ PValid q) :
    Calls Tryz.prog 4 #[v] w fun e w' => e = .returned (.bool true) ∧ Below w.heap.size w w' := by
  have HSM := Lib.hid (fun m => Small_any m _ w.heap.size 0 1 [q] (lit_pieces w [v] [q] ⟨h, trivial⟩) (by simp) (by intro p hp; simp at hp; subst hp; exact ⟨by omega, hz⟩))
  have HT := Lib.hid (fun W h => twin_any W v q h hl)
  have HV := Lib.hid (fun W u h => PV_arg W u q false h (by omega) hz (by simp [hp]))
  have HK := Lib.hid (fun W (hb : Below w.heap.size w W) h => Fix_own W v q h (by omega) hz (hE.below hb))
  have HU := Lib.hid (fun W (hb : Below w.heap.size w W) => Universal_any W (hE.below hb))
  have HVU := Lib.hid (fun W v h => PV_arg W v univL true h (by rw [univL_len]; decide) (fun x hx => by have := pvalid_tree univL_valid hx; omega) (by simp [univL_valid]))
  have HTU := Lib.hid (fun W u h => twin_any W u univL h (by rw [univL_len]; decide))
  have HDE : Hid (resL (fixDue q) (knowL (fixL q)) = []) := Lib.hid (by rw [fixDue_form hp]; rfl)
  have HD1 : Hid (fixDue q = 1) := Lib.hid (fixDue_form hp)
  have HSD := Lib.hid (fun W u u2 h1 h2 => PSame_arg W u u2 (resL (fixDue q) (knowL (fixL q))) (resL (fixDue q) (knowL (fixL q))) true h1 h2 (by have := fix_len q; omega) (by simp))
  have HSP := Lib.hid (fun W B u h1 h2 => spoil_any W B u (resL (fixDue q) (knowL (fixL q))) h1 h2 (by have := fix_len q; omega))
  have HSQ := Lib.hid (fun W u u2 h1 h2 => PSame_arg W u u2 q q true h1 h2 (by omega) (by simp))
  have HA := Lib.hid h
  obtain ⟨a, c, rfl⟩ := h.form
  clear h hl hz hp hE
  have HB0 := Lib.hid (alloc_below w (.cells #[.slice a q.length c] 23))
  have HA0 := Lib.hid (HA.out.below HB0.out)
  generalize q.length = n at *
  generalize knowL (fixL q) = ks at *
  generalize fixDue q = d at *
  go_enter Tryz.func4, Tryz.ntmps4
  go_wp2_with fail
  refine (HSM.out _).mono ?_
  rintro e w1 ⟨⟨r, rfl⟩, h1⟩
  have HB1 := Lib.hid (bstep HB0.out h1)
  have HA1 := Lib.hid (HA0.out.below h1)
  clear h1 HSM
  cases r with
  | false =>
    go_wp2_with fail
    refine (awake7_any _).mono ?_
    rintro e w2 ⟨rfl, h2⟩
    have HB2 := Lib.hid (bstep HB1.out h2)
    clear h2
    go_wp2_with fail
    go_ret
    exact ⟨rfl, HB2.out⟩
  | true =>
    go_wp2_with fail
    refine (HT.out _ HA1.out).mono ?_
    rintro e w2 ⟨v2, rfl, ha2, h2⟩
    obtain ⟨a2, c2, rfl⟩ := ha2.form
    have HB2 := Lib.hid (bstep HB1.out h2)
    have HQ2 := Lib.hid (HA1.out.below h2)
    have HA2 := Lib.hid ha2
    clear h2 ha2
    generalize q.length = n2 at *
    go_wp2_with fail
    refine (HU.out _ HB2.out).mono ?_
    rintro e w22 ⟨g, cu, rfl, hou, hu⟩
    have HU22 := Lib.hid (own_argp hou)
    have HB22 := Lib.hid (bstep HB2.out hu); have HQ22 := Lib.hid (HQ2.out.below hu); have HA22 := Lib.hid (HA2.out.below hu)
    clear hou hu
    go_wp2_with fail
    refine (HVU.out _ _ HU22.out).mono ?_
    rintro e w25 ⟨rfl, h25⟩
    have HB25 := Lib.hid (bstep HB22.out h25); have HQ25 := Lib.hid (HQ22.out.below h25); have HA25 := Lib.hid (HA22.out.below h25); have HU25 := Lib.hid (HU22.out.below h25)
    clear h25
    have HB2a := Lib.hid (HB25.out.alloc HB25.out.size (.cells #[] 64))
    have HQ2a := Lib.hid (HQ25.out.below (alloc_below w25 (.cells #[] 64)))
    have HA2a := Lib.hid (HA25.out.below (alloc_below w25 (.cells #[] 64)))
    have HU2a := Lib.hid (HU25.out.below (alloc_below w25 (.cells #[] 64)))
    go_wp2_with fail
    refine (HV.out _ _ HA2a.out).mono ?_
    rintro e w3 ⟨rfl, h3⟩
    have HB3 := Lib.hid (bstep HB2a.out h3)
    have HQ3 := Lib.hid (HQ2a.out.below h3)
    have HA3 := Lib.hid (HA2a.out.below h3)
    have HU3 := Lib.hid (HU2a.out.below h3)
    clear h3
    have HD4 : Hid (ArgP w3 (.slice (some ⟨w25.heap.size, 0, none⟩) 0 0) (resL d ks)) := Lib.hid (by rw [HDE.out]; exact .inl ⟨rfl, .inr ⟨_, _, rfl⟩⟩)
    have HB4 := HB3; have HA4 := HA3; have HQ4 := HQ3
    obtain rfl : d = 1 := HD1.out
    go_wp2_with fail
    go_loopw [7] (fun i wr => ∃ k : Nat, k ≤ 2 ∧ i = .int .i64 k ∧ Hid (Below w3.heap.size w3 wr)) (fun i _ => 2 - (intOf i).toNat)
    case atStart => exact ⟨0, by decide, rfl, Lib.hid (Below.refl _ _)⟩
    case round =>
      obtain ⟨k, hk, rfl, HBR⟩ := hrel
      by_cases hlt : k < 2
      · have hk1 : (k : Int) < 2 := by omega
        go_wp2_with fail
        refine (HK.out _ (bstep HB4.out HBR.out) (HQ4.out.below HBR.out)).mono ?_
        rintro e w5 ⟨h5, v5, rfl, ho5⟩
        have HB5 := Lib.hid (bstep HBR.out h5)
        have HSZ : Hid (wr.heap.size ≤ w5.heap.size) := Lib.hid h5.size
        obtain ⟨a5, c5, rfl⟩ := ho5.arg.form
        have HO5 := Lib.hid ho5
        clear h5 ho5
        generalize (resL 1 ks).length = n5 at *
        go_wp2_with fail
        refine (HSD.out _ _ _ HO5.out.arg (HD4.out.below HB5.out)).mono ?_
        rintro e w6 ⟨rfl, h6⟩
        have HB6 := Lib.hid (bstep HB5.out h6)
        have HO6 := Lib.hid (HO5.out.below h6)
        have HSZ6 := Lib.hid (Nat.le_trans HSZ.out h6.size)
        clear h6
        go_wp2_with fail
        refine (HSQ.out _ _ _ (HQ4.out.below HB6.out) (HA4.out.below HB6.out)).mono ?_
        rintro e w7 ⟨rfl, h7⟩
        have HB7 := Lib.hid (bstep HB6.out h7)
        have HO7 := Lib.hid (HO6.out.below h7)
        have HSZ7 := Lib.hid (Nat.le_trans HSZ6.out h7.size)
        clear h7
        go_wp2_with fail
        refine (HSP.out _ wr.heap.size _ HO7.out HSZ7.out).mono ?_
        rintro e w8 ⟨rfl, h8⟩
        have HB8 := Lib.hid (HB7.out.trans (h8.mono HBR.out.size))
        clear h8
        go_wp2_with fail
        go_roundw
        case rel => exact ⟨k + 1, by omega, by go_num, HB8⟩
        case measure => simp [intOf]; omega
      · obtain rfl : k = 2 := by omega
        go_wp2_with fail
        refine (HSQ.out _ _ _ (HQ4.out.below HBR.out) (HA4.out.below HBR.out)).mono ?_
        rintro e w5 ⟨rfl, h5⟩
        have HB5 := Lib.hid (bstep (bstep HB4.out HBR.out) h5)
        clear h5
        go_wp2_with fail
        refine (awake7_any _).mono ?_
        rintro e w6 ⟨rfl, h6⟩
        have HB6 := Lib.hid (bstep HB5.out h6)
        clear h6
        go_wp2_with fail
        go_ret
        exact ⟨rfl, HB6.out⟩
theorem KnowFixes_any (w : World) (hE : TabE w) (v : Value) (q : List Ins) (h : ArgP w v q) (hl : q.length * 48 ≤ 140737488355328) (hz : ∀ x ∈ q, x.tree.length ≤ 281474976710656) :
    Calls Tryz.prog 4 #[v] w fun e w' => e = .returned (.bool true) ∧ Below w.heap.size w w' := by
  by_cases hp : PValid q
  · exact knowFixes_yes w v q hE h hl hz hp
  · exact knowFixes_form w v q hE h hl hz hp
end Go.Proofs.YtmhoacnbmbhcjaaGreatDoor
