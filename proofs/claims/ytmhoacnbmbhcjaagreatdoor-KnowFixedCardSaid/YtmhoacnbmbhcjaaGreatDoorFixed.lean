/- The statement KnowFixed, walked. By an AI agent. -/
import Derived.Test.YtmhoacnbmbhcjaaGreatDoorFixO
import Derived.Test.YtmhoacnbmbhcjaaGreatDoorGrow
import Derived.Test.YtmhoacnbmbhcjaaGreatDoorRDec
namespace Go.Proofs.YtmhoacnbmbhcjaaGreatDoor
open Go.RowKit Go.Maps Pl

theorem tx_back {a b : Tr} (h : tx a = tx b) : a = b := by rw [← rd_tx a, h, rd_tx]
/-- the reference's Decode of any tree -/
theorem rDec_any (y : Tr) (hy : (tx y).length ≤ 2000000) (w : World) :
    Calls Tryz.prog 37 #[.string (S (tx y))] w fun e w' => Below w.heap.size w w' ∧ ∃ v, (e = .returned (.tuple #[v, .bool false]) ∨ (e = .returned (.tuple #[v, .bool true]) ∧ ∃ ps, PValid ps ∧ lst (codeL ps) = y ∧ ArgP w' v ps)) := by
  have hv : vld (S (tx y)).data.toList = true := by rw [S_list]; exact vld_tx hy
  by_cases h : ∃ ps, PValid ps ∧ enc (codes ps) = tx y
  · obtain ⟨ps, h1, h2⟩ := h
    exact (rDecode_hit (S (tx y)) ps w hv h1 (by rw [S_list]; exact h2)).mono fun e w' ⟨v, e1, e2, e3⟩ => ⟨e3, v, .inr ⟨e1, ps, h1, tx_back (by rw [tx_code h1.2.2, h2]), e2⟩⟩
  · exact (rDecode_miss (S (tx y)) w hv (fun ps h1 h2 => h ⟨ps, h1, by rw [h2, S_list]⟩)).mono fun e w' ⟨v, e1, e3⟩ => ⟨e3, v, .inl e1⟩
theorem lCoded_know (w : World) (v : Value) (q : List Ins) (h : ArgP w v (knowL q)) (hq : PValid q) (hk : KnowsP q) :
    Calls Tryz.prog 29 #[v] w fun e w' => ∃ x, e = .returned (.tuple #[x, .bool true]) ∧ NodeW 42 w' (kT q) x ∧ Below w.heap.size w w' :=
  lCoded_yes w v (knowL q) h (know_valid hq hk) hk.2
theorem wrap_q (Q : Nat) (h : Q ≤ 610000) : wrap64 ((Q : Nat) : Int) = ((Q : Nat) : Int) := by unfold wrap64; omega
theorem wrap_k (k m : Nat) (h : k ≤ 5000) (h2 : m ≤ 32) : wrap64 (wrap64 ((k : Int) + (m : Int)) + 22) = ((k + m + 22 : Nat) : Int) := by unfold wrap64; omega
theorem wrap_kq (k m Q : Nat) (h : k ≤ 5000) (h2 : m ≤ 32) (h3 : Q ≤ 610000) : wrap64 ((k : Int) + (m : Int) + 22 + (Q : Int)) = ((k + m + 22 + Q : Nat) : Int) := by unfold wrap64; omega
theorem fuel_b (k m Q : Nat) (h : k ≤ 5000) (h2 : m ≤ 32) (h3 : Q ≤ 610000) : k + m + 22 + Q ≤ 10000000 := by omega
set_option maxHeartbeats 3200000 in
set_option maxRecDepth 100000 in
/-- the inputs that are not looked at -/
theorem knowFixed_no (w : World) (v : Value) (q : List Ins) (s : ByteArray) (h : ArgP w v q) (hl : q.length * 48 ≤ 140737488355328) (hz : ∀ x ∈ q, x.tree.length ≤ 281474976710656) (hs : s.size ≤ 281474976710656) (hn : ¬ PValid q ∨ vld s.data.toList = false ∨ 2000 < s.size) :
    Calls Tryz.prog 7 #[v, .string s] w fun e w' => e = .returned (.bool true) ∧ Below w.heap.size w w' := by
  have HSM := Lib.hid (fun m => Small_any m _ w.heap.size 0 1 [q] (lit_pieces w [v] [q] ⟨h, trivial⟩) (by simp) (by intro x hx; simp at hx; subst hx; exact ⟨by omega, hz⟩))
  obtain ⟨pv, hpv⟩ := pv_bool q
  have HPV := Lib.hid (fun W h => PV_arg W v q pv h (by omega) hz hpv)
  have HV := Lib.hid (fun W => rValid_any s W hs)
  have HN : Hid (pv = false ∨ vld s.data.toList = false ∨ 2000 < s.size) := Lib.hid (by
    rcases hn with h | h
    · left; cases pv with
      | false => rfl
      | true => exact absurd (hpv.1 rfl) h
    · exact .inr h)
  have HA := Lib.hid h
  obtain ⟨a, c, rfl⟩ := h.form
  have hs2 : s.size ≤ 9223372036854775807 := by omega
  clear h hl hz hs hn hpv
  have HB0 := Lib.hid (alloc_below w (.cells #[.slice a q.length c] 23))
  generalize q.length = n at *
  by_cases h1 : s.size ≤ 2000
  · have d1 : decide ((2000 : Int) < (s.size : Int)) = false := by rw [decide_eq_false_iff_not]; omega
    have HN2 : Hid (pv = false ∨ vld s.data.toList = false) := Lib.hid (by rcases HN.out with h | h | h; exact .inl h; exact .inr h; omega)
    clear h1 HN
    go_enter Tryz.func7, Tryz.ntmps7
    go_wp2_with fail
    refine (HSM.out _).mono ?_
    rintro e w1 ⟨⟨r, rfl⟩, h1⟩
    have HB1 := Lib.hid (bstep HB0.out h1)
    clear h1
    cases r with
    | false =>
      go_wp2_with fail
      refine (awake7_any _).mono ?_
      rintro e w2 ⟨rfl, h2⟩
      have HB2 := Lib.hid (bstep HB1.out h2)
      clear h2
      go_wp2_with fail
      go_ret
      exact ⟨rfl, HB2.out⟩
    | true =>
      go_wp2_with fail
      refine (HPV.out _ (HA.out.below HB1.out)).mono ?_
      rintro e w2 ⟨rfl, h2⟩
      have HB2 := Lib.hid (bstep HB1.out h2)
      clear h2
      cases pv with
      | false =>
        go_wp2_with fail
        refine (awake7_any _).mono ?_
        rintro e w3 ⟨rfl, h3⟩
        have HB3 := Lib.hid (bstep HB2.out h3)
        clear h3
        go_wp2_with fail
        go_ret
        exact ⟨rfl, HB3.out⟩
      | true =>
        have hv : vld s.data.toList = false := by
          rcases HN2.out with h | h
          · cases h
          · exact h
        rw [hv] at HV
        clear hv
        go_wp2_with fail
        refine (HV.out _).mono ?_
        rintro e w3 ⟨rfl, rfl⟩
        go_wp2_with fail
        refine (awake7_any _).mono ?_
        rintro e w4 ⟨rfl, h4⟩
        have HB4 := Lib.hid (bstep HB2.out h4)
        clear h4
        go_wp2_with fail
        go_ret
        exact ⟨rfl, HB4.out⟩
  · have d1 : decide ((2000 : Int) < (s.size : Int)) = true := by rw [decide_eq_true_eq]; omega
    clear h1 HN
    go_enter Tryz.func7, Tryz.ntmps7
    go_wp2_with fail
    refine (HSM.out _).mono ?_
    rintro e w1 ⟨⟨r, rfl⟩, h1⟩
    have HB1 := Lib.hid (bstep HB0.out h1)
    clear h1
    cases r with
    | false =>
      go_wp2_with fail
      refine (awake7_any _).mono ?_
      rintro e w2 ⟨rfl, h2⟩
      have HB2 := Lib.hid (bstep HB1.out h2)
      clear h2
      go_wp2_with fail
      go_ret
      exact ⟨rfl, HB2.out⟩
    | true =>
      go_wp2_with fail
      refine (awake7_any _).mono ?_
      rintro e w2 ⟨rfl, h2⟩
      have HB2 := Lib.hid (bstep HB1.out h2)
      clear h2
      go_wp2_with fail
      go_ret
      exact ⟨rfl, HB2.out⟩
set_option maxHeartbeats 12800000 in
set_option maxRecDepth 100000 in
theorem knowFixed_yes (w : World) (v : Value) (t : List Ins) (s : ByteArray) (hE : TabE w) (h : ArgP w v t) (ht : PValid t) (hv : vld s.data.toList = true) (h2k : s.size ≤ 2000) :
    Calls Tryz.prog 7 #[v, .string s] w fun e w' => e = .returned (.bool true) ∧ Below w.heap.size w w' := by
  have hl := ht.1
  have hz : ∀ x ∈ t, x.tree.length ≤ 281474976710656 := fun x hx => by have := pvalid_tree ht hx; omega
  have HSM := Lib.hid (fun m => Small_any m _ w.heap.size 0 1 [t] (lit_pieces w [v] [t] ⟨h, trivial⟩) (by simp) (by intro x hx; simp at hx; subst hx; exact ⟨by omega, hz⟩))
  have HPV := Lib.hid (fun W h => PV_arg W v t true h (by omega) hz (by simp [ht]))
  have HV := Lib.hid (fun W => rValid_any s W (by omega))
  rw [hv] at HV
  have HFX := Lib.hid (fun W (hb : Below w.heap.size w W) h => Fix_own W v t h (by omega) hz (hE.below hb))
  have HRG := Lib.hid (fun W h => Regs_arg W v t h ht)
  rw [← rn_eq] at HRG
  have h32 := rn_le ht
  have HR := Lib.hid (fun W => rRead_any s W hv)
  have htl : (tx (rd s.data.toList)).length ≤ 2000 := by rw [tx_rd hv, len_eq]; exact h2k
  have hdd : (rn t ≤ 31 ∧ (fixDue t = 0 ∨ fixDue t = 3)) ∨ (rn t = 32 ∧ fixDue t = 8) := by
    by_cases hn : rn t ≤ 31
    · left; refine ⟨hn, ?_⟩
      rw [fixDue_made ht hn]; unfold madeDue; split <;> simp
    · right; exact ⟨by omega, fixDue_regs ht hn⟩
  have HKN : Hid (rn t ≤ 31 → fixDue t = 0 → PValid (fixL t) ∧ KnowsP (fixL t)) := Lib.hid (fun hn h0 => by
    rw [fixDue_made ht hn] at h0
    unfold madeDue at h0
    split at h0
    · rename_i hh; exact ⟨(fits_valid (allR_fix ht hn)).2 hh.1, hh.2⟩
    · cases h0)
  have HTT := Lib.hid ht
  have HA := Lib.hid h
  have HSZX := Lib.hid (fun W x (hn : NodeW 42 W (rd s.data.toList) x) => rSize_any 42 W (rd s.data.toList) x hn)
  have HLT := Lib.hid (fun W (h : ArgP W v t) => Load_new W v t h ht)
  obtain ⟨a, c, rfl⟩ := h.form
  have d1 : decide ((2000 : Int) < (s.size : Int)) = false := by rw [decide_eq_false_iff_not]; omega
  clear h hl hz hE hv h2k ht
  have HB0 := Lib.hid (alloc_below w (.cells #[.slice a t.length c] 23))
  generalize t.length = n at *
  generalize rd s.data.toList = X at *
  have HXL := Lib.hid htl
  have HDD := Lib.hid hdd
  clear hdd htl
  go_enter Tryz.func7, Tryz.ntmps7
  go_wp2_with fail
  refine (HSM.out _).mono ?_
  rintro e w1 ⟨⟨r, rfl⟩, h1⟩
  have HB1 := Lib.hid (bstep HB0.out h1)
  clear h1
  cases r with
  | false =>
    go_wp2_with fail
    refine (awake7_any _).mono ?_
    rintro e w2 ⟨rfl, h2⟩
    have HB2 := Lib.hid (bstep HB1.out h2)
    clear h2
    go_wp2_with fail
    go_ret
    exact ⟨rfl, HB2.out⟩
  | true =>
  go_wp2_with fail
  refine (HPV.out _ (HA.out.below HB1.out)).mono ?_
  rintro e w2 ⟨rfl, h2⟩
  have HB2 := Lib.hid (bstep HB1.out h2)
  clear h2
  go_wp2_with fail
  refine (HV.out _).mono ?_
  rintro e w3 ⟨rfl, rfl⟩
  go_wp2_with fail
  refine (HFX.out _ HB2.out (HA.out.below HB2.out)).mono ?_
  rintro e w3 ⟨h3, v3, rfl, ho3⟩
  have HB3 := Lib.hid (bstep HB2.out h3)
  have HA3 := Lib.hid ho3.arg
  obtain ⟨a3, c3, rfl⟩ := ho3.arg.form
  clear h3 ho3
  generalize hn3 : (resL (fixDue t) (knowL (fixL t))).length = n3 at *
  clear hn3
  generalize hd : fixDue t = d at *
  have HDE := Lib.hid hd
  clear hd
  generalize hm : rn t = m at *
  have HME := Lib.hid hm
  clear hm
  go_wp2_with fail
  refine (HRG.out _ (HA.out.below HB3.out)).mono ?_
  rintro e w4 ⟨rfl, h4⟩
  have HB4 := Lib.hid (bstep HB3.out h4)
  have HA4 := Lib.hid (HA3.out.below h4)
  clear h4
  rcases HDD.out with ⟨hm31, hd0 | hd3⟩ | ⟨hm32, hd8⟩
  case inr =>
    subst hm32
    subst hd8
    clear HA3 HA4 HKN HDD
    go_wp2_with fail
    refine (awake7_any _).mono ?_
    rintro e w5 ⟨rfl, h5⟩
    have HB5 := Lib.hid (bstep HB4.out h5)
    clear h5
    go_wp2_with fail
    go_ret
    exact ⟨rfl, HB5.out⟩
  case inl.inr =>
    subst hd3
    have hm9 : (m : Int) < 32 := by omega
    clear HA3 HA4 HKN HDD
    go_wp2_with fail
    refine (awake7_any _).mono ?_
    rintro e w5 ⟨rfl, h5⟩
    have HB5 := Lib.hid (bstep HB4.out h5)
    clear h5
    go_wp2_with fail
    go_ret
    exact ⟨rfl, HB5.out⟩
  subst hd0
  have hm9 : ((m : Int) == 32) = false := by rw [beq_eq_false_iff_ne]; omega
  obtain ⟨qv, hk⟩ := HKN.out hm31 rfl
  have HQV := Lib.hid qv; have HK := Lib.hid hk; have HM31 := Lib.hid hm31
  have HC := Lib.hid (fun W u h => lCoded_know W u (fixL t) h qv hk)
  have hkt : (tx (kT (fixL t))).length ≤ 2000000 := by rw [tx_kT qv hk]; exact hk.2.2
  have HSZC := Lib.hid (fun W x (hn : NodeW 42 W (kT (fixL t)) x) => rSize_any 42 W (kT (fixL t)) x hn)
  have HLM := Lib.hid (fun W u (h : ArgP W u (knowL (fixL t))) => Load_new W u (knowL (fixL t)) h (know_valid qv hk))
  have HRM := Lib.hid (fun W a b u x L o (hL : RL W a b u (knowL (fixL t))) (h : ArgP W u (knowL (fixL t))) (hn : NodeW 42 W X x) (hx : (tx X).length ≤ 2000000) (hk2 : L ≤ 10000000) (ho : out (knowL (fixL t)) L (first X) = o) => rRun_out W a b L u x (knowL (fixL t)) X o hL h (know_valid qv hk) hn hx hk2 ho)
  have HKO := Lib.hid (fun (hz : (tx (.pair (kT (fixL t)) X)).length ≤ 2000000) K => know_out qv hk hz K)
  have HNO := Lib.hid (fun (h : ∀ z k, out t 5000 (first (kT (fixL t))) ≠ .ok z k) => fix_nothing HTT.out (by rw [HME.out]; exact hm31) (x := X) hkt h 4981 (by decide))
  have HWA := Lib.hid (fun z k (h : out t 5000 (first (kT (fixL t))) = .ok z k) (hz : (tx (.pair z X)).length ≤ 2000000) => fix_waits HTT.out (by rw [HME.out]; exact hm31) hkt h hz)
  have HFO := Lib.hid (fun z k (h : out t 5000 (first (kT (fixL t))) = .ok z k) (hz : (tx (.pair z X)).length ≤ 2000000) F => fix_out HTT.out (by rw [HME.out]; exact hm31) (x := X) hkt h hz F)
  rw [HME.out] at HWA HFO
  have HRT := Lib.hid (fun W a b u x (hL : RL W a b u t) (h : ArgP W u t) (hn : NodeW 42 W (kT (fixL t)) x) => rRun_out W a b 5000 u x t (kT (fixL t)) _ hL h HTT.out hn hkt (by decide) rfl)
  have HYS := Lib.hid (fun z k (h : out t 5000 (first (kT (fixL t))) = .ok z k) => show (tx z).length ≤ 2000000 ∧ k ≤ 5000 by
    obtain ⟨st, h1, h2, _, h4⟩ := out_ok h
    rw [← h4]
    exact ⟨St.reg_le (h1.ok HTT.out (first_ok _ hkt)) 0, h2⟩)
  have HPC := Lib.hid (tx_pair (kT (fixL t)) X)
  have HA4' : Hid (ArgP w4 (.slice a3 n3 c3) (knowL (fixL t))) := HA4
  have HCL := Lib.hid hkt
  clear qv hk hkt HKN HFX hm31 HA3 HA4 HDD
  generalize knowL (fixL t) = ks at *
  generalize kT (fixL t) = C at *
  go_wp2_with fail
  refine (HC.out _ _ HA4'.out).mono ?_
  rintro e w5 ⟨x5, rfl, hx5, h5⟩
  obtain ⟨X5, rfl⟩ := hx5.one
  have HB5 := Lib.hid (bstep HB4.out h5)
  have HA5 := Lib.hid (HA4'.out.below h5)
  have HX5 : Hid (NodeW 42 w5 C (.pointer X5)) := Lib.hid hx5
  clear hx5 h5
  go_wp2_with fail
  refine (HR.out _).mono ?_
  rintro e w6 ⟨x6, rfl, hx6, h6⟩
  obtain ⟨X6, rfl⟩ := hx6.one
  have HB6 := Lib.hid (bstep HB5.out h6)
  have HA6 := Lib.hid (HA5.out.below h6)
  have HC6 := Lib.hid (NodeW.below HX5.out h6)
  have HX6 := Lib.hid hx6
  clear hx6 h6
  go_wp2_with fail
  refine (HSZC.out _ _ HC6.out).mono ?_
  rintro e w7 ⟨rfl, rfl⟩
  have hLx : (tx X).length ≤ 281474976710656 := by have := HXL.out; omega
  have hLc : (tx C).length ≤ 281474976710656 := by have := HCL.out; omega
  generalize hLc2 : (tx C).length = Lc at *
  generalize hLx2 : (tx X).length = Lx at *
  have HLC2 := Lib.hid hLc2; have HLX2 := Lib.hid hLx2
  clear hLc2 hLx2
  go_wp2_with fail
  refine (HSZX.out _ _ HX6.out).mono ?_
  rintro e w7 ⟨rfl, rfl⟩
  by_cases hbig : 2000000 < 1 + Lc + Lx
  case pos =>
    have d2 : decide ((2000000 : Int) < 1 + (Lc : Int) + (Lx : Int)) = true := by rw [decide_eq_true_eq]; omega
    clear hbig
    go_wp2_with fail
    refine (awake7_any _).mono ?_
    rintro e w7 ⟨rfl, h7⟩
    have HB7 := Lib.hid (bstep HB6.out h7)
    clear h7
    go_wp2_with fail
    go_ret
    exact ⟨rfl, HB7.out⟩
  have d2 : decide ((2000000 : Int) < 1 + (Lc : Int) + (Lx : Int)) = false := by rw [decide_eq_false_iff_not]; omega
  have HPZ : Hid ((tx (.pair C X)).length ≤ 2000000) := Lib.hid (by rw [HPC.out]; omega)
  clear hbig
  go_wp2_with fail
  refine (HLM.out _ _ HA6.out).mono ?_
  rintro e w7 ⟨m7, C7, rfl, hL7, hb7, hC7⟩
  have HB7 := Lib.hid (bstep HB6.out hb7); have HL7 := Lib.hid hL7
  have HA7 := Lib.hid (HA6.out.below hb7); have HC7 := Lib.hid (NodeW.below HC6.out hb7); have HX7 := Lib.hid (NodeW.below HX6.out hb7)
  clear hL7 hb7 hC7 d2
  go_wp2_with fail
  refine (HLT.out _ (HA.out.below HB7.out)).mono ?_
  rintro e w8 ⟨m8, C8, rfl, hL8, hb8, hC8⟩
  have HB8 := Lib.hid (bstep HB7.out hb8); have HT8 := Lib.hid hL8
  have HA8 := Lib.hid (HA7.out.below hb8); have HC8 := Lib.hid (NodeW.below HC7.out hb8); have HX8 := Lib.hid (NodeW.below HX7.out hb8); have HL8 := Lib.hid (HL7.out.below hb8)
  clear hL8 hb8 hC8
  go_wp2_with fail
  refine (HRT.out _ _ _ _ _ HT8.out (HA.out.below HB8.out) HC8.out).mono ?_
  rintro e w9 ⟨hb9, hm9o⟩
  have HB9 := Lib.hid (bstep HB8.out hb9)
  have HA9 := Lib.hid (HA8.out.below hb9); have HX9 := Lib.hid (NodeW.below HX8.out hb9); have HL9 := Lib.hid (HL8.out.below hb9)
  clear hb9
  generalize out t 5000 (first C) = o at *
  have hX2M : (tx X).length ≤ 2000000 := by rw [HLX2.out]; have := HXL.out; omega
  have HX2M := Lib.hid hX2M
  clear hX2M
  cases o with
  | size =>
    obtain rfl := hm9o
    have HN9 := Lib.hid (later_ne (m := 19) (HNO.out (fun z k h => by cases h)))
    rw [← HKO.out HPZ.out 4981] at HN9
    go_wp2_with fail
    refine (HRM.out _ _ _ _ _ 5000 _ HL9.out HA9.out HX9.out (by have := HXL.out; omega) (by decide) rfl).mono ?_
    rintro e w10 ⟨hb, hm⟩
    have HB10 := Lib.hid (bstep HB9.out hb)
    clear hb
    generalize hoo : out ks 5000 (first X) = o2 at *
    have HNN : Hid (∀ z k, o2 ≠ .ok z k) := Lib.hid (fun z k => HN9.out z k)
    clear hoo
    cases o2 with
    | ok z k => exact absurd rfl (HNN.out z k)
    | size =>
      obtain rfl := hm
      go_wp2_with fail
      refine (awake7_any _).mono ?_
      rintro e w11 ⟨rfl, h11⟩
      have HB11 := Lib.hid (bstep HB10.out h11)
      clear h11
      go_wp2_with fail
      go_ret
      exact ⟨rfl, HB11.out⟩
    | fuel =>
      obtain rfl := hm
      go_wp2_with fail
      refine (awake7_any _).mono ?_
      rintro e w11 ⟨rfl, h11⟩
      have HB11 := Lib.hid (bstep HB10.out h11)
      clear h11
      go_wp2_with fail
      go_ret
      exact ⟨rfl, HB11.out⟩
  | fuel =>
    obtain rfl := hm9o
    have HN9 := Lib.hid (later_ne (m := 19) (HNO.out (fun z k h => by cases h)))
    rw [← HKO.out HPZ.out 4981] at HN9
    go_wp2_with fail
    refine (HRM.out _ _ _ _ _ 5000 _ HL9.out HA9.out HX9.out (by have := HXL.out; omega) (by decide) rfl).mono ?_
    rintro e w10 ⟨hb, hm⟩
    have HB10 := Lib.hid (bstep HB9.out hb)
    clear hb
    generalize hoo : out ks 5000 (first X) = o2 at *
    have HNN : Hid (∀ z k, o2 ≠ .ok z k) := Lib.hid (fun z k => HN9.out z k)
    clear hoo
    cases o2 with
    | ok z k => exact absurd rfl (HNN.out z k)
    | size =>
      obtain rfl := hm
      go_wp2_with fail
      refine (awake7_any _).mono ?_
      rintro e w11 ⟨rfl, h11⟩
      have HB11 := Lib.hid (bstep HB10.out h11)
      clear h11
      go_wp2_with fail
      go_ret
      exact ⟨rfl, HB11.out⟩
    | fuel =>
      obtain rfl := hm
      go_wp2_with fail
      refine (awake7_any _).mono ?_
      rintro e w11 ⟨rfl, h11⟩
      have HB11 := Lib.hid (bstep HB10.out h11)
      clear h11
      go_wp2_with fail
      go_ret
      exact ⟨rfl, HB11.out⟩
  | ok y k =>
    obtain ⟨y9, rfl, hy9⟩ := hm9o
    obtain ⟨Y9, rfl⟩ := hy9.one
    have HY9 := Lib.hid hy9
    clear hy9
    obtain ⟨hyl, hk5⟩ := HYS.out y k rfl
    have HYL := Lib.hid hyl
    have HSZY := Lib.hid (fun W x (hn : NodeW 42 W y x) => rSize_any 42 W y x hn)
    have HTX := Lib.hid (fun W x (hn : NodeW 42 W y x) => rText_any y x W hn hyl)
    have HDC := Lib.hid (fun W => rDec_any y hyl W)
    have HPY := Lib.hid (tx_pair y X)
    have hLy : (tx y).length ≤ 281474976710656 := by omega
    have HWA2 := Lib.hid (HWA.out y k rfl); have HFO2 := Lib.hid (HFO.out y k rfl)
    clear hyl HYS HWA HFO HNO
    generalize hly : (tx y).length = Ly at *
    have HLY := Lib.hid hly
    clear hly
    go_wp2_with fail
    refine (HSZY.out _ _ HY9.out).mono ?_
    rintro e w10 ⟨rfl, rfl⟩
    by_cases hb1 : 20000 < Ly
    case pos =>
      have d3 : decide ((20000 : Int) < (Ly : Int)) = true := by rw [decide_eq_true_eq]; omega
      clear hb1
      go_wp2_with fail
      refine (awake7_any _).mono ?_
      rintro e w11 ⟨rfl, h11⟩
      have HB11 := Lib.hid (bstep HB9.out h11)
      clear h11
      go_wp2_with fail
      go_ret
      exact ⟨rfl, HB11.out⟩
    have d3 : decide ((20000 : Int) < (Ly : Int)) = false := by rw [decide_eq_false_iff_not]; omega
    clear hb1
    go_wp2_with fail
    refine (HSZY.out _ _ HY9.out).mono ?_
    rintro e w10 ⟨rfl, rfl⟩
    go_wp2_with fail
    refine (HSZX.out _ _ HX9.out).mono ?_
    rintro e w10 ⟨rfl, rfl⟩
    by_cases hb2 : 200000 < 1 + Ly + Lx
    case pos =>
      have d4 : decide ((200000 : Int) < 1 + (Ly : Int) + (Lx : Int)) = true := by rw [decide_eq_true_eq]; omega
      clear hb2
      go_wp2_with fail
      refine (awake7_any _).mono ?_
      rintro e w11 ⟨rfl, h11⟩
      have HB11 := Lib.hid (bstep HB9.out h11)
      clear h11
      go_wp2_with fail
      go_ret
      exact ⟨rfl, HB11.out⟩
    have d4 : decide ((200000 : Int) < 1 + (Ly : Int) + (Lx : Int)) = false := by rw [decide_eq_false_iff_not]; omega
    have HPS : Hid ((tx (.pair y X)).length ≤ 200000) := Lib.hid (by rw [HPY.out, HLX2.out]; omega)
    clear hb2
    go_wp2_with fail
    refine (HTX.out _ _ HY9.out).mono ?_
    rintro e w10 ⟨rfl, hb⟩
    have HB10 := Lib.hid (bstep HB9.out hb)
    have HA10 := Lib.hid (HA9.out.below hb); have HX10 := Lib.hid (NodeW.below HX9.out hb); have HL10 := Lib.hid (HL9.out.below hb)
    clear hb d3 d4
    generalize hty : S (tx y) = sy at *
    clear hty
    go_wp2_with fail
    refine (HDC.out _).mono ?_
    rintro e w11 ⟨hb, v11, hcase⟩
    have HB11 := Lib.hid (bstep HB10.out hb)
    have HA11 := Lib.hid (HA10.out.below hb); have HX11 := Lib.hid (NodeW.below HX10.out hb); have HL11 := Lib.hid (HL10.out.below hb)
    clear hb
    rcases hcase with rfl | ⟨rfl, ps, psv, hpy, ha11⟩
    case inl =>
      go_wp2_with fail
      refine (awake7_any _).mono ?_
      rintro e w12 ⟨rfl, h12⟩
      have HB12 := Lib.hid (bstep HB11.out h12)
      clear h12
      go_wp2_with fail
      go_ret
      exact ⟨rfl, HB12.out⟩
    have HP11 := Lib.hid ha11
    obtain ⟨pa, pc, rfl⟩ := ha11.form
    have HPSV := Lib.hid psv; have HPY2 := Lib.hid hpy
    have hpl := psv.1
    have HGR := Lib.hid (fun W x (h : ArgP W (.slice pa ps.length pc) ps) (hn : NodeW 42 W X x) => grows_any W (.slice pa ps.length pc) x ps X h psv hn HX2M.out)
    have HLQ := Lib.hid (fun W (h : ArgP W (.slice pa ps.length pc) ps) => Load_new W (.slice pa ps.length pc) ps h psv)
    have HRQ := Lib.hid (fun W a b x (hL : RL W a b (.slice pa ps.length pc) ps) (h : ArgP W (.slice pa ps.length pc) ps) (hn : NodeW 42 W X x) => rRun_out W a b 60 (.slice pa ps.length pc) x ps X _ hL h psv hn HX2M.out (by decide) rfl)
    have HZL := Lib.hid (fun z j (h : out ps 60 (first X) = .ok z j) => show (tx z).length ≤ 2000000 ∧ j ≤ 60 by
      obtain ⟨st, h1, h2, _, h4⟩ := out_ok h
      rw [← h4]
      exact ⟨St.reg_le (h1.ok psv (first_ok _ HX2M.out)) 0, h2⟩)
    have HUO := Lib.hid (fun z j (h : out ps 60 (first X) = .ok z j) (hg : GrowOk ps X) => univ_out psv (x := X) (by rw [HPY2.out]; exact HPS.out) (by rw [HLX2.out]; have := HXL.out; omega) h hg.1)
    rw [HPY2.out] at HUO
    clear psv hpy ha11
    generalize ps.length = np at *
    by_cases hb3 : 60 < np
    case pos =>
      have d5 : decide ((60 : Int) < (np : Int)) = true := by rw [decide_eq_true_eq]; omega
      clear hb3
      go_wp2_with fail
      refine (awake7_any _).mono ?_
      rintro e w12 ⟨rfl, h12⟩
      have HB12 := Lib.hid (bstep HB11.out h12)
      clear h12
      go_wp2_with fail
      go_ret
      exact ⟨rfl, HB12.out⟩
    have d5 : decide ((60 : Int) < (np : Int)) = false := by rw [decide_eq_false_iff_not]; omega
    have HNP : Hid (np ≤ 60) := Lib.hid (by omega)
    clear hb3
    go_wp2_with fail
    refine (HGR.out _ _ HP11.out HX11.out).mono ?_
    rintro e w12 ⟨hb, r, rfl, hgr⟩
    have HB12 := Lib.hid (bstep HB11.out hb)
    have HA12 := Lib.hid (HA11.out.below hb); have HX12 := Lib.hid (NodeW.below HX11.out hb); have HL12 := Lib.hid (HL11.out.below hb); have HP12 := Lib.hid (HP11.out.below hb)
    clear hb
    cases r with
    | true =>
      go_wp2_with fail
      refine (awake7_any _).mono ?_
      rintro e w13 ⟨rfl, h13⟩
      have HB13 := Lib.hid (bstep HB12.out h13)
      clear h13
      go_wp2_with fail
      go_ret
      exact ⟨rfl, HB13.out⟩
    | false =>
    have HG := Lib.hid (hgr rfl)
    clear hgr
    go_wp2_with fail
    refine (HLQ.out _ HP12.out).mono ?_
    rintro e w13 ⟨m13, C13, rfl, hL13, hb, hC13⟩
    have HB13 := Lib.hid (bstep HB12.out hb); have HQ13 := Lib.hid hL13
    have HA13 := Lib.hid (HA12.out.below hb); have HX13 := Lib.hid (NodeW.below HX12.out hb); have HL13 := Lib.hid (HL12.out.below hb); have HP13 := Lib.hid (HP12.out.below hb)
    clear hL13 hb hC13
    go_wp2_with fail
    refine (HRQ.out _ _ _ _ HQ13.out HP13.out HX13.out).mono ?_
    rintro e w14 ⟨hb, hm14⟩
    have HB14 := Lib.hid (bstep HB13.out hb)
    have HA14 := Lib.hid (HA13.out.below hb); have HX14 := Lib.hid (NodeW.below HX13.out hb); have HL14 := Lib.hid (HL13.out.below hb)
    clear hb
    have HNS : Hid (out ps 60 (first X) ≠ .size) := Lib.hid HG.out.2
    generalize out ps 60 (first X) = o3 at *
    cases o3 with
    | size => exact absurd rfl HNS.out
    | fuel =>
      obtain rfl := hm14
      have HOF : Hid (out ks (k + m + 22) (first X) = .fuel) := Lib.hid (by
        rw [show k + m + 22 = k + m + 3 + 19 from rfl, HKO.out HPZ.out, HWA2.out (by have := HPS.out; omega)]; rfl)
      have hw1 : wrap64 (wrap64 ((k : Int) + (m : Int)) + 22) = ((k + m + 22 : Nat) : Int) := wrap_k k m hk5 (by omega)
      have HW1 := Lib.hid hw1
      clear hw1
      go_wp2_with fail
      first | (rw [show ((k : Int) + (m : Int) + 22) = ((k + m + 22 : Nat) : Int) by omega]) | (rw [HW1.out])
      refine (HRM.out _ _ _ _ _ (k + m + 22) _ HL14.out HA14.out HX14.out (by have := HXL.out; omega) (by omega) HOF.out).mono ?_
      rintro e w15 ⟨hb, hm15⟩
      obtain rfl := hm15
      have HB15 := Lib.hid (bstep HB14.out hb)
      clear hb
      go_wp2_with fail
      refine (awake7_any _).mono ?_
      rintro e w16 ⟨rfl, h16⟩
      have HB16 := Lib.hid (bstep HB15.out h16)
      clear h16
      go_wp2_with fail
      go_ret
      exact ⟨rfl, HB16.out⟩
    | ok z j =>
      obtain ⟨z14, rfl, hz14⟩ := hm14
      obtain ⟨Z14, rfl⟩ := hz14.one
      obtain ⟨hzl, hj60⟩ := HZL.out z j rfl
      obtain ⟨nu, hnu⟩ := HUO.out z j rfl HG.out
      have HZ14 := Lib.hid hz14
      have hmul : 100 * (np + 40) * (j + 1) ≤ 100 * 100 * 61 := Nat.mul_le_mul (Nat.mul_le_mul_left _ (by have := HNP.out; omega)) (by omega)
      have HOF : Hid (out ks (k + m + 22 + 100 * (np + 40) * (j + 1)) (first X) = .ok z (nu + (k + m + 3) + 19)) := Lib.hid (by
        rw [show k + m + 22 + 100 * (np + 40) * (j + 1) = k + m + 3 + 100 * (np + 40) * (j + 1) + 19 by omega, HKO.out HPZ.out, HFO2.out (by have := HPS.out; omega), hnu]; rfl)
      have HEQ := Lib.hid (fun W X Z (h1 : NodeW 42 W z X) (h2 : NodeW 42 W z Z) => rEqual_same W z X Z h1 h2 hzl)
      have e0 : (100 * ((np : Int) + 40)) * ((j : Int) + 1) = ((100 * (np + 40) * (j + 1) : Nat) : Int) := by
        rw [show ((j : Int) + 1) = ((j + 1 : Nat) : Int) by omega, show (100 * ((np : Int) + 40)) = ((100 * (np + 40) : Nat) : Int) by omega, ← Int.natCast_mul]
      obtain ⟨Q, hQ⟩ : ∃ Q : Nat, Q = 100 * (np + 40) * (j + 1) := ⟨_, rfl⟩
      have e1 : wrap64 ((100 * ((np : Int) + 40)) * ((j : Int) + 1)) = ((Q : Nat) : Int) := by
        rw [e0, ← hQ]
        exact wrap_q Q (by rw [hQ]; exact hmul)
      have HQB : Hid (Q ≤ 610000) := Lib.hid (by rw [hQ]; exact hmul)
      have HM32 : Hid (m ≤ 32) := Lib.hid (by omega)
      have HBD : Hid (k + m + 22 + Q ≤ 10000000) := Lib.hid (fuel_b k m Q hk5 HM32.out HQB.out)
      rw [← hQ] at HOF
      have hnp2 : np ≤ 60 := HNP.out
      have E1 := Lib.hid e1
      have HK5 := Lib.hid hk5
      clear hz14 hzl hnu hmul e0 hQ e1
      go_wp2_with fail
      rw [E1.out]
      rw [wrap_kq k m Q HK5.out HM32.out HQB.out]
      refine (HRM.out _ _ _ _ _ (k + m + 22 + Q) _ HL14.out HA14.out HX14.out (by have := HXL.out; omega) HBD.out HOF.out).mono ?_
      rintro e w15 ⟨hb, z15, rfl, hz15⟩
      obtain ⟨Z15, rfl⟩ := hz15.one
      have HB15 := Lib.hid (bstep HB14.out hb); have HZ15 := Lib.hid hz15; have HZZ := Lib.hid (NodeW.below HZ14.out hb)
      clear hb hz15
      go_wp2_with fail
      refine (HEQ.out _ _ _ HZ15.out HZZ.out).mono ?_
      rintro e w16 ⟨rfl, hb⟩
      have HB16 := Lib.hid (bstep HB15.out hb)
      clear hb
      go_wp2_with fail
      refine (awake7_any _).mono ?_
      rintro e w17 ⟨rfl, h17⟩
      have HB17 := Lib.hid (bstep HB16.out h17)
      clear h17
      go_wp2_with fail
      go_ret
      exact ⟨rfl, HB17.out⟩
theorem KnowFixed_any (w : World) (hE : TabE w) (v : Value) (s : ByteArray) (q : List Ins) (h : ArgP w v q) (hl : q.length * 48 ≤ 140737488355328) (hz : ∀ x ∈ q, x.tree.length ≤ 281474976710656) (hs : s.size ≤ 281474976710656) :
    Calls Tryz.prog 7 #[v, .string s] w fun e w' => e = .returned (.bool true) ∧ Below w.heap.size w w' := by
  by_cases hq : PValid q
  · cases hv : vld s.data.toList with
    | true =>
      by_cases h2 : s.size ≤ 2000
      · exact knowFixed_yes w v q s hE h hq hv h2
      · exact knowFixed_no w v q s h hl hz hs (.inr (.inr (by omega)))
    | false => exact knowFixed_no w v q s h hl hz hs (.inr (.inl hv))
  · exact knowFixed_no w v q s h hl hz hs (.inl hq)
end Go.Proofs.YtmhoacnbmbhcjaaGreatDoor
