/- The statements KnowItself and KnowRuns, walked. By an AI agent. -/
import Derived.Test.YtmhoacnbmbhcjaaGreatDoorKnowP
namespace Go.Proofs.YtmhoacnbmbhcjaaGreatDoor
open Go.RowKit Pl
theorem self_codes : (enc (codes (knowL pHead7))).length ≤ 1000 := by
  have h : decide ((enc (codes (knowL pHead7))).length ≤ 1000) = true := by kernel_rfl
  exact of_decide_eq_true h
theorem out_head7 (K : Nat) (t : Tr) : out pHead7 (K + 1) (first t) = .ok (hdT t) 1 := out_head K t
theorem self_out {x : Tr} (hx : (tx x).length ≤ 1000000) : out (knowL pHead7) 100 (first x) = .ok (kT pHead7) 20 := by
  have h1 : (tx (.pair (kT pHead7) x)).length ≤ 2000000 := by
    have z := tx_pair (kT pHead7) x
    rw [tx_kT pHead7_valid knows_head] at z
    have := self_codes
    omega
  rw [show 100 = 81 + 19 from rfl, know_out pHead7_valid knows_head h1, show (81 : Nat) = 80 + 1 from rfl, out_head7]; rfl
set_option maxHeartbeats 1600000 in
set_option maxRecDepth 100000 in
theorem knowItself_no (w : World) (s : ByteArray) (hs : s.size ≤ 281474976710656) (hn : ¬ (s.size ≤ 1000000 ∧ vld s.data.toList = true)) :
    Calls Tryz.prog 8 #[.string s] w fun e w' => e = .returned (.bool true) ∧ Below w.heap.size w w' := by
  have HV := Lib.hid (fun W => rValid_any s W hs)
  by_cases h1 : s.size ≤ 1000000
  · have hv : vld s.data.toList = false := by
      cases h : vld s.data.toList with
      | false => rfl
      | true => exact absurd ⟨h1, h⟩ hn
    rw [hv] at HV
    have d1 : decide ((1000000 : Int) < (s.size : Int)) = false := by rw [decide_eq_false_iff_not]; omega
    clear hn hv h1 hs
    go_enter Tryz.func8, Tryz.ntmps8
    go_wp2_with fail
    refine (HV.out _).mono ?_
    rintro e w1 ⟨rfl, rfl⟩
    go_wp2_with fail
    refine (awake7_any _).mono ?_
    rintro e w2 ⟨rfl, h2⟩
    have HB := Lib.hid h2
    clear h2
    go_wp2_with fail
    go_ret
    exact ⟨rfl, HB.out⟩
  · have d1 : decide ((1000000 : Int) < (s.size : Int)) = true := by rw [decide_eq_true_eq]; omega
    clear hn h1 hs
    go_enter Tryz.func8, Tryz.ntmps8
    go_wp2_with fail
    refine (awake7_any _).mono ?_
    rintro e w2 ⟨rfl, h2⟩
    have HB := Lib.hid h2
    clear h2
    go_wp2_with fail
    go_ret
    exact ⟨rfl, HB.out⟩
set_option maxHeartbeats 1600000 in
set_option maxRecDepth 100000 in
theorem knowItself_yes (w : World) (s : ByteArray) (hs : s.size ≤ 1000000) (hv : vld s.data.toList = true) :
    Calls Tryz.prog 8 #[.string s] w fun e w' => e = .returned (.bool true) ∧ Below w.heap.size w w' := by
  have HV := Lib.hid (fun W => rValid_any s W (by omega))
  rw [hv] at HV
  have HR := Lib.hid (fun W => rRead_any s W hv)
  have htl : (tx (rd s.data.toList)).length ≤ 1000000 := by rw [tx_rd hv, len_eq]; exact hs
  have hpv := know_valid pHead7_valid knows_head
  have HC := Lib.hid (fun W v h => lCoded_yes W v (knowL pHead7) h hpv knows_head.2)
  have HLP := Lib.hid (fun W v (h : ArgP W v (knowL pHead7)) => Load_new W v (knowL pHead7) h hpv)
  have HRP := Lib.hid (fun W a b v x (hL : RL W a b v (knowL pHead7)) (h : ArgP W v (knowL pHead7)) (hn : NodeW 42 W (rd s.data.toList) x) => rRun_out W a b 100 v x (knowL pHead7) (rd s.data.toList) _ hL h hpv hn (by omega) (by decide) (self_out htl))
  have HEQ := Lib.hid (fun W X Z (h1 : NodeW 42 W (kT pHead7) X) (h2 : NodeW 42 W (kT pHead7) Z) => rEqual_same W (kT pHead7) X Z h1 h2 (by rw [tx_kT pHead7_valid knows_head]; have := self_codes; omega))
  have d1 : decide ((1000000 : Int) < (s.size : Int)) = false := by rw [decide_eq_false_iff_not]; omega
  clear hs hv htl hpv
  generalize rd s.data.toList = t at *
  go_enter Tryz.func8, Tryz.ntmps8
  go_wp2_with fail
  refine (HV.out _).mono ?_
  rintro e w1 ⟨rfl, rfl⟩
  go_wp2_with fail
  refine (Self_own _).mono ?_
  rintro e w1 ⟨v1, rfl, ho1, h1⟩
  have HB1 := Lib.hid h1; have HA1 := Lib.hid ho1.arg
  obtain ⟨a1, c1, rfl⟩ := ho1.arg.form
  clear ho1 h1
  generalize (knowL pHead7).length = n1 at *
  go_wp2_with fail
  refine (HC.out _ _ HA1.out).mono ?_
  rintro e w2 ⟨x2, rfl, hx2, h2⟩
  obtain ⟨X2, rfl⟩ := hx2.one
  have HB2 := Lib.hid (bstep HB1.out h2); have HX2 : Hid (NodeW 42 w2 (kT pHead7) (.pointer X2)) := Lib.hid hx2
  have HA2 := Lib.hid (HA1.out.below h2)
  clear hx2 h2
  go_wp2_with fail
  refine (HLP.out _ _ HA2.out).mono ?_
  rintro e w3 ⟨m3, C3, rfl, hL, hb, hC⟩
  have HB3 := Lib.hid (bstep HB2.out hb); have HL3 := Lib.hid hL
  have HA3 := Lib.hid (HA2.out.below hb); have HX3 := Lib.hid (NodeW.below HX2.out hb)
  clear hb hL hC
  go_wp2_with fail
  refine (HR.out _).mono ?_
  rintro e w4 ⟨v4, rfl, h4, hb⟩
  obtain ⟨V4, rfl⟩ := h4.one
  have HB4 := Lib.hid (bstep HB3.out hb); have HN4 := Lib.hid h4
  have HA4 := Lib.hid (HA3.out.below hb); have HX4 := Lib.hid (NodeW.below HX3.out hb); have HL4 := Lib.hid (HL3.out.below hb)
  clear hb h4
  go_wp2_with fail
  refine (HRP.out _ _ _ _ _ HL4.out HA4.out HN4.out).mono ?_
  rintro e w5 ⟨hb, y5, rfl, hn5⟩
  obtain ⟨Y5, rfl⟩ := hn5.one
  have HB5 := Lib.hid (bstep HB4.out hb); have HX5 := Lib.hid (NodeW.below HX4.out hb); have HY5 := Lib.hid hn5
  clear hb hn5
  go_wp2_with fail
  refine (HEQ.out _ _ _ HY5.out HX5.out).mono ?_
  rintro e w6 ⟨rfl, hb⟩
  have HB6 := Lib.hid (bstep HB5.out hb)
  clear hb
  go_wp2_with fail
  refine (awake7_any _).mono ?_
  rintro e w7 ⟨rfl, h7⟩
  have HB7 := Lib.hid (bstep HB6.out h7)
  clear h7
  go_wp2_with fail
  go_ret
  exact ⟨rfl, HB7.out⟩
theorem KnowItself_any (w : World) (s : ByteArray) (hs : s.size ≤ 281474976710656) :
    Calls Tryz.prog 8 #[.string s] w fun e w' => e = .returned (.bool true) ∧ Below w.heap.size w w' := by
  by_cases h : s.size ≤ 1000000 ∧ vld s.data.toList = true
  · exact knowItself_yes w s h.1 h.2
  · exact knowItself_no w s hs h
end Go.Proofs.YtmhoacnbmbhcjaaGreatDoor

namespace Go.Proofs.YtmhoacnbmbhcjaaGreatDoor
open Go.RowKit Pl

set_option maxHeartbeats 3200000 in
set_option maxRecDepth 100000 in
/-- the inputs that are not looked at -/
theorem knowRuns_no (w : World) (v : Value) (q : List Ins) (s : ByteArray) (h : ArgP w v q) (hl : q.length * 48 ≤ 140737488355328) (hz : ∀ x ∈ q, x.tree.length ≤ 281474976710656) (hs : s.size ≤ 281474976710656) (hn : ¬ PValid q ∨ vld s.data.toList = false) :
    Calls Tryz.prog 6 #[v, .string s] w fun e w' => e = .returned (.bool true) ∧ Below w.heap.size w w' := by
  have HSM := Lib.hid (fun m => Small_any m _ w.heap.size 0 1 [q] (lit_pieces w [v] [q] ⟨h, trivial⟩) (by simp) (by intro x hx; simp at hx; subst hx; exact ⟨by omega, hz⟩))
  obtain ⟨pv, hpv⟩ := pv_bool q
  have HPV := Lib.hid (fun W h => PV_arg W v q pv h (by omega) hz hpv)
  have HV := Lib.hid (fun W => rValid_any s W hs)
  have HN : Hid (pv = false ∨ vld s.data.toList = false) := Lib.hid (by
    rcases hn with h | h
    · left; cases pv with
      | false => rfl
      | true => exact absurd (hpv.1 rfl) h
    · exact .inr h)
  have HA := Lib.hid h
  obtain ⟨a, c, rfl⟩ := h.form
  have hs2 : s.size ≤ 9223372036854775807 := by omega
  clear h hl hz hs hn hpv
  have HB0 := Lib.hid (alloc_below w (.cells #[.slice a q.length c] 23))
  generalize q.length = n at *
  by_cases h1 : s.size ≤ 20000
  · have d1 : decide ((20000 : Int) < (s.size : Int)) = false := by rw [decide_eq_false_iff_not]; omega
    clear h1
    go_enter Tryz.func6, Tryz.ntmps6
    go_wp2_with fail
    refine (HSM.out _).mono ?_
    rintro e w1 ⟨⟨r, rfl⟩, h1⟩
    have HB1 := Lib.hid (bstep HB0.out h1)
    clear h1
    cases r with
    | false =>
      go_wp2_with fail
      refine (awake7_any _).mono ?_
      rintro e w2 ⟨rfl, h2⟩
      have HB2 := Lib.hid (bstep HB1.out h2)
      clear h2
      go_wp2_with fail
      go_ret
      exact ⟨rfl, HB2.out⟩
    | true =>
      go_wp2_with fail
      refine (HPV.out _ (HA.out.below HB1.out)).mono ?_
      rintro e w2 ⟨rfl, h2⟩
      have HB2 := Lib.hid (bstep HB1.out h2)
      clear h2
      cases pv with
      | false =>
        go_wp2_with fail
        refine (awake7_any _).mono ?_
        rintro e w3 ⟨rfl, h3⟩
        have HB3 := Lib.hid (bstep HB2.out h3)
        clear h3
        go_wp2_with fail
        go_ret
        exact ⟨rfl, HB3.out⟩
      | true =>
        have hv : vld s.data.toList = false := by
          rcases HN.out with h | h
          · cases h
          · exact h
        rw [hv] at HV
        clear hv
        go_wp2_with fail
        refine (HV.out _).mono ?_
        rintro e w3 ⟨rfl, rfl⟩
        go_wp2_with fail
        refine (awake7_any _).mono ?_
        rintro e w3 ⟨rfl, h3⟩
        have HB3 := Lib.hid (bstep HB2.out h3)
        clear h3
        go_wp2_with fail
        go_ret
        exact ⟨rfl, HB3.out⟩
  · have d1 : decide ((20000 : Int) < (s.size : Int)) = true := by rw [decide_eq_true_eq]; omega
    clear h1
    go_enter Tryz.func6, Tryz.ntmps6
    go_wp2_with fail
    refine (HSM.out _).mono ?_
    rintro e w1 ⟨⟨r, rfl⟩, h1⟩
    have HB1 := Lib.hid (bstep HB0.out h1)
    clear h1
    cases r with
    | false =>
      go_wp2_with fail
      refine (awake7_any _).mono ?_
      rintro e w2 ⟨rfl, h2⟩
      have HB2 := Lib.hid (bstep HB1.out h2)
      clear h2
      go_wp2_with fail
      go_ret
      exact ⟨rfl, HB2.out⟩
    | true =>
      go_wp2_with fail
      refine (awake7_any _).mono ?_
      rintro e w2 ⟨rfl, h2⟩
      have HB2 := Lib.hid (bstep HB1.out h2)
      clear h2
      go_wp2_with fail
      go_ret
      exact ⟨rfl, HB2.out⟩
set_option maxHeartbeats 3200000 in
set_option maxRecDepth 100000 in
theorem knowRuns_yes (w : World) (v : Value) (q : List Ins) (s : ByteArray) (h : ArgP w v q) (hq : PValid q) (hv : vld s.data.toList = true) :
    Calls Tryz.prog 6 #[v, .string s] w fun e w' => e = .returned (.bool true) ∧ Below w.heap.size w w' := by
  have hl := hq.1
  have hz : ∀ x ∈ q, x.tree.length ≤ 281474976710656 := fun x hx => by have := pvalid_tree hq hx; omega
  have hvs := vld_size hv
  have HSM := Lib.hid (fun m => Small_any m _ w.heap.size 0 1 [q] (lit_pieces w [v] [q] ⟨h, trivial⟩) (by simp) (by intro x hx; simp at hx; subst hx; exact ⟨by omega, hz⟩))
  have HPV := Lib.hid (fun W h => PV_arg W v q true h (by omega) hz (by simp [hq]))
  have HV := Lib.hid (fun W => rValid_any s W (by omega))
  rw [hv] at HV
  have HK := Lib.hid (fun W h => Know_valid W v q h hq)
  have HR := Lib.hid (fun W => rRead_any s W hv)
  have htl : (tx (rd s.data.toList)).length ≤ 2000000 := by rw [tx_rd hv, len_eq]; exact hvs
  have hdc := knowDue_cases q
  have HKN : Hid (knowDue q = 0 → KnowsP q) := Lib.hid (fun h0 => by
    by_cases hk : KnowsP q
    · exact hk
    · rw [knowDue_size hq hk] at h0; cases h0)
  have HN1 : Hid (knowDue q ≠ 1) := Lib.hid (by
    by_cases hk : KnowsP q
    · rw [knowDue_ok hq hk]; decide
    · rw [knowDue_size hq hk]; decide)
  have HCD := Lib.hid (fun W u (hk : KnowsP q) (h : ArgP W u (knowL q)) => lCoded_yes W u (knowL q) h (know_valid hq hk) hk.2)
  have HKT := Lib.hid (fun (hk : KnowsP q) => show (tx (kT q)).length ≤ 2000000 by rw [tx_kT hq hk]; exact hk.2.2)
  have HFO := Lib.hid (fun W u x y (hk : KnowsP q) (ha : ArgP W u (knowL q)) (hb : ArgP W v q) (hx : NodeW 42 W (rd s.data.toList) x) (hy : NodeW 42 W (.pair (kT q) (rd s.data.toList)) y) (hu : (tx (.pair (kT q) (rd s.data.toList))).length ≤ 2000000) => follows_yes W u v x y (knowL q) q (rd s.data.toList) (.pair (kT q) (rd s.data.toList)) 19 ha hb (know_valid hq hk) hq hx hy htl hu (by decide) (know_out hq hk hu 20000))
  have HCO := Lib.hid (fun W y z (hk : KnowsP q) (h : NodeW 42 W (kT q) y) (h2 : NodeW 42 W (rd s.data.toList) z) => rCons_any W (kT q) (rd s.data.toList) y z h h2 (HKT.out hk) htl)
  have HA := Lib.hid h
  obtain ⟨a, c, rfl⟩ := h.form
  have hs2 : s.size ≤ 2000000 := hvs
  clear h hl hz hq hv hvs htl
  have HB0 := Lib.hid (alloc_below w (.cells #[.slice a q.length c] 23))
  generalize q.length = n at *
  generalize rd s.data.toList = t at *
  have HDC := Lib.hid hdc
  clear hdc
  generalize knowDue q = d at *
  by_cases h1 : s.size ≤ 20000
  case neg =>
    have d1 : decide ((20000 : Int) < (s.size : Int)) = true := by rw [decide_eq_true_eq]; omega
    clear h1
    go_enter Tryz.func6, Tryz.ntmps6
    go_wp2_with fail
    refine (HSM.out _).mono ?_
    rintro e w1 ⟨⟨r, rfl⟩, h1⟩
    have HB1 := Lib.hid (bstep HB0.out h1)
    clear h1
    cases r with
    | false =>
      go_wp2_with fail
      refine (awake7_any _).mono ?_
      rintro e w2 ⟨rfl, h2⟩
      have HB2 := Lib.hid (bstep HB1.out h2)
      clear h2
      go_wp2_with fail
      go_ret
      exact ⟨rfl, HB2.out⟩
    | true =>
      go_wp2_with fail
      refine (awake7_any _).mono ?_
      rintro e w2 ⟨rfl, h2⟩
      have HB2 := Lib.hid (bstep HB1.out h2)
      clear h2
      go_wp2_with fail
      go_ret
      exact ⟨rfl, HB2.out⟩
  have d1 : decide ((20000 : Int) < (s.size : Int)) = false := by rw [decide_eq_false_iff_not]; omega
  clear h1
  go_enter Tryz.func6, Tryz.ntmps6
  go_wp2_with fail
  refine (HSM.out _).mono ?_
  rintro e w1 ⟨⟨r, rfl⟩, h1⟩
  have HB1 := Lib.hid (bstep HB0.out h1)
  clear h1
  cases r with
  | false =>
    go_wp2_with fail
    refine (awake7_any _).mono ?_
    rintro e w2 ⟨rfl, h2⟩
    have HB2 := Lib.hid (bstep HB1.out h2)
    clear h2
    go_wp2_with fail
    go_ret
    exact ⟨rfl, HB2.out⟩
  | true =>
    go_wp2_with fail
    refine (HPV.out _ (HA.out.below HB1.out)).mono ?_
    rintro e w2 ⟨rfl, h2⟩
    have HB2 := Lib.hid (bstep HB1.out h2)
    clear h2
    go_wp2_with fail
    refine (HV.out _).mono ?_
    rintro e w3 ⟨rfl, rfl⟩
    go_wp2_with fail
    refine (HK.out _ (HA.out.below HB2.out)).mono ?_
    rintro e w3 ⟨h3, v3, rfl, ho3⟩
    have HB3 := Lib.hid (bstep HB2.out h3)
    by_cases hd : d = 0
    · subst hd
      have HKS := Lib.hid (HKN.out rfl)
      have HA3 : Hid (ArgP w3 v3 (knowL q)) := Lib.hid ho3.arg
      obtain ⟨a3, c3, rfl⟩ := HA3.out.form
      clear h3 ho3
      generalize (knowL q).length = n3 at *
      go_wp2_with fail
      refine (HCD.out _ _ HKS.out HA3.out).mono ?_
      rintro e w4 ⟨x4, rfl, hx4, h4⟩
      obtain ⟨X4, rfl⟩ := hx4.one
      have HB4 := Lib.hid (bstep HB3.out h4); have HA4 := Lib.hid (HA3.out.below h4)
      have HX4 : Hid (NodeW 42 w4 (kT q) (.pointer X4)) := Lib.hid hx4
      clear hx4 h4
      go_wp2_with fail
      refine (HR.out _).mono ?_
      rintro e w5 ⟨v5, rfl, h5, hb⟩
      obtain ⟨V5, rfl⟩ := h5.one
      have HB5 := Lib.hid (bstep HB4.out hb); have HN5 := Lib.hid h5
      have HA5 := Lib.hid (HA4.out.below hb); have HX5 := Lib.hid (NodeW.below HX4.out hb)
      clear hb h5
      go_wp2_with fail
      refine (HCO.out _ _ _ HKS.out HX5.out HN5.out).mono ?_
      rintro e w6 ⟨v6, rfl, h6, hb⟩
      obtain ⟨B6, o6, x6, y6, rfl, ca, cb, cc, na, nb⟩ := h6
      have HB6 := Lib.hid (bstep HB5.out hb); have HA6 := Lib.hid (HA5.out.below hb); have HN6 := Lib.hid (NodeW.below HN5.out hb)
      have HP6 : Hid (NodeW 42 w6 (.pair (kT q) t) (.pointer (some ⟨B6, o6, none⟩))) := Lib.hid ⟨B6, o6, x6, y6, rfl, ca, cb, cc, na, nb⟩
      have cc6 : w6.cell? ⟨B6, o6 + 2, none⟩ = some (.int .i64 ((tx (.pair (kT q) t)).length : Nat)) := cc.2
      clear hb ca cb cc na nb
      by_cases hz : 2000000 < (tx (.pair (kT q) t)).length
      · have hz1 : decide ((2000000 : Int) < ((tx (.pair (kT q) t)).length : Int)) = true := by rw [decide_eq_true_eq]; omega
        clear hz
        generalize (tx (.pair (kT q) t)).length = L at cc6 hz1
        go_wp2_with fail
        refine (awake7_any _).mono ?_
        rintro e w7 ⟨rfl, h7⟩
        have HB7 := Lib.hid (bstep HB6.out h7)
        clear h7
        go_wp2_with fail
        go_ret
        exact ⟨rfl, HB7.out⟩
      · have hz1 : decide ((2000000 : Int) < ((tx (.pair (kT q) t)).length : Int)) = false := by rw [decide_eq_false_iff_not]; omega
        have HF := Lib.hid (HFO.out _ _ _ _ HKS.out HA6.out (HA.out.below HB6.out) HN6.out HP6.out (by omega))
        clear hz
        generalize (tx (.pair (kT q) t)).length = L at cc6 hz1
        go_wp2_with fail
        refine HF.out.mono ?_
        rintro e w7 ⟨rfl, h7⟩
        have HB7 := Lib.hid (bstep HB6.out h7)
        clear h7
        go_wp2_with fail
        refine (awake7_any _).mono ?_
        rintro e w8 ⟨rfl, h8⟩
        have HB8 := Lib.hid (bstep HB7.out h8)
        clear h8
        go_wp2_with fail
        go_ret
        exact ⟨rfl, HB8.out⟩
    · obtain rfl : d = 3 := by
        rcases HDC.out with h | h | h
        · exact absurd h hd
        · exact absurd h HN1.out
        · exact h
      obtain ⟨a3, c3, rfl⟩ := ho3.arg.form
      clear h3 ho3 hd
      generalize (resL 3 (knowL q)).length = n3 at *
      go_wp2_with fail
      refine (awake7_any _).mono ?_
      rintro e w7 ⟨rfl, h7⟩
      have HB7 := Lib.hid (bstep HB3.out h7)
      clear h7
      go_wp2_with fail
      go_ret
      exact ⟨rfl, HB7.out⟩
theorem KnowRuns_any (w : World) (v : Value) (s : ByteArray) (q : List Ins) (h : ArgP w v q) (hl : q.length * 48 ≤ 140737488355328) (hz : ∀ x ∈ q, x.tree.length ≤ 281474976710656) (hs : s.size ≤ 281474976710656) :
    Calls Tryz.prog 6 #[v, .string s] w fun e w' => e = .returned (.bool true) ∧ Below w.heap.size w w' := by
  by_cases hq : PValid q
  · cases hv : vld s.data.toList with
    | true => exact knowRuns_yes w v q s h hq hv
    | false => exact knowRuns_no w v q s h hl hz hs (.inr hv)
  · exact knowRuns_no w v q s h hl hz hs (.inl hq)
end Go.Proofs.YtmhoacnbmbhcjaaGreatDoor
