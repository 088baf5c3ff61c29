/- RunRuns: its walk. By an AI agent. -/
import Derived.Test.YtagaiamjmdjenaaMore
import Derived.Test.YtagaiamjmdjenaaRRun
import Derived.Test.YtagaiamjmdjenaaRText
import Derived.Test.YtagaiamjmdjenaaSameP
namespace Go.Proofs.Ytagaiamjmdjenaa
open Go.RowKit Pl

theorem own_lt {w : World} {v : Value} {ps : List Ins} (h : ArgP w v ps) : ∀ k, 0 < ps.length → v.ownBlock = some k → k < w.heap.size := fun k h0 hk => by
  obtain ⟨b, off, cap, rfl, hP⟩ := h.some h0
  cases hk
  exact hP.1
set_option maxHeartbeats 3200000 in
set_option maxRecDepth 100000 in
theorem runs_form (w : World) (v : Value) (x : ByteArray) (f : Int) (ps : List Ins) (h : ArgP w v ps) (hl : ps.length * 48 ≤ 140737488355328) (hz : ∀ x ∈ ps, x.tree.length ≤ 281474976710656) (hx : x.size ≤ 281474976710656) (hp : ¬ PValid ps) :
    Calls Try.prog 4 #[v, .string x, .int .i64 f] w (Awake3 w) := by
  have HT := Lib.hid (fun W v h => twin_any W v ps h (by omega))
  have HSAME := Lib.hid (fun W v v2 h h2 => PSame_arg W v v2 ps ps true h h2 (by omega) (by simp))
  have HA := Lib.hid h
  have HRUN := Lib.hid (fun W h => Run_form W v ps x f h (by omega) hz hx (.inl hp))
  have HPV := Lib.hid (fun W h => PV_arg W v ps false h (by omega) hz (by simp [hp]))
  clear h hl hz hx hp
  go_enter Try.func4, Try.ntmps4
  go_wp2_with fail
  refine (HT.out _ _ HA.out).mono ?_
  rintro e w1 ⟨v1, rfl, a1, h1⟩
  have A1 := Lib.hid a1
  clear a1
  go_wp2_with fail
  refine (HRUN.out _ (HA.out.below h1)).mono ?_
  rintro e w2 ⟨rfl, c2⟩
  have h2 := bstep h1 c2
  have A2 := Lib.hid (A1.out.below c2)
  clear c2 h1
  go_wp2_with fail
  refine (HSAME.out _ _ _ (HA.out.below h2) A2.out).mono ?_
  rintro e w3 ⟨rfl, c3⟩
  have h3 := bstep h2 c3
  clear c3 h2
  go_wp2_with fail
  refine (HPV.out _ (HA.out.below h3)).mono ?_
  rintro e w4 ⟨rfl, c4⟩
  have h4 := bstep h3 c4
  clear c4 h3
  go_wp2_with fail
  refine (awake3_any _).mono ?_
  rintro e w9 ⟨rfl, h9⟩
  go_wp2
  go_ret
  exact ⟨rfl, bstep h4 h9⟩
set_option maxHeartbeats 3200000 in
set_option maxRecDepth 100000 in
theorem runs_tree (w : World) (v : Value) (x : ByteArray) (f : Int) (ps : List Ins) (h : ArgP w v ps) (hl : ps.length * 48 ≤ 140737488355328) (hp : PValid ps) (hx : x.size ≤ 281474976710656) (hv : vld x.data.toList = false) :
    Calls Try.prog 4 #[v, .string x, .int .i64 f] w (Awake3 w) := by
  have HT := Lib.hid (fun W v h => twin_any W v ps h (by omega))
  have HSAME := Lib.hid (fun W v v2 h h2 => PSame_arg W v v2 ps ps true h h2 (by omega) (by simp))
  have HA := Lib.hid h
  have HRUN := Lib.hid (fun W h => Run_form W v ps x f h (by omega) (fun x hx => by have := PV_tree_le hp hx; omega) hx (.inr hv))
  have HX := Lib.hid (fun W => rValid_eq false x W hx hv)
  have HPV := Lib.hid (fun W h => PV_arg W v ps true h (by omega) (fun x hx => by have := PV_tree_le hp hx; omega) (by simp [hp]))
  clear h hl hx hp hv
  go_enter Try.func4, Try.ntmps4
  go_wp2_with fail
  refine (HT.out _ _ HA.out).mono ?_
  rintro e w1 ⟨v1, rfl, a1, h1⟩
  have A1 := Lib.hid a1
  clear a1
  go_wp2_with fail
  refine (HRUN.out _ (HA.out.below h1)).mono ?_
  rintro e w2 ⟨rfl, c2⟩
  have h2 := bstep h1 c2
  have A2 := Lib.hid (A1.out.below c2)
  clear c2 h1
  go_wp2_with fail
  refine (HSAME.out _ _ _ (HA.out.below h2) A2.out).mono ?_
  rintro e w3 ⟨rfl, c3⟩
  have h3 := bstep h2 c3
  clear c3 h2
  go_wp2_with fail
  refine (HPV.out _ (HA.out.below h3)).mono ?_
  rintro e w4 ⟨rfl, c4⟩
  have h4 := bstep h3 c4
  clear c4 h3
  go_wp2_with fail
  refine (HX.out _).mono ?_
  rintro e w5 ⟨rfl, rfl⟩
  go_wp2_with fail
  refine (awake3_any _).mono ?_
  rintro e w9 ⟨rfl, h9⟩
  go_wp2
  go_ret
  exact ⟨rfl, bstep h4 h9⟩
set_option maxHeartbeats 3200000 in
set_option maxRecDepth 100000 in
theorem runs_neg (w : World) (v : Value) (x : ByteArray) (f : Int) (ps : List Ins) (h : ArgP w v ps) (hl : ps.length * 48 ≤ 140737488355328) (hp : PValid ps) (hv : vld x.data.toList = true) (hf : f < 0) :
    Calls Try.prog 4 #[v, .string x, .int .i64 f] w (Awake3 w) := by
  have HT := Lib.hid (fun W v h => twin_any W v ps h (by omega))
  have HSAME := Lib.hid (fun W v v2 h h2 => PSame_arg W v v2 ps ps true h h2 (by omega) (by simp))
  have HA := Lib.hid h
  have HRUN := Lib.hid (fun W h => Run_arg W v ps x f h hp hv (by omega))
  have HX := Lib.hid (fun W => rValid_eq true x W (by have := vld_size hv; omega) hv)
  have HPV := Lib.hid (fun W h => PV_arg W v ps true h (by omega) (fun x hx => by have := PV_tree_le hp hx; omega) (by simp [hp]))
  clear h hl hp hv
  go_enter Try.func4, Try.ntmps4
  go_wp2_with fail
  refine (HT.out _ _ HA.out).mono ?_
  rintro e w1 ⟨v1, rfl, a1, h1⟩
  have A1 := Lib.hid a1
  clear a1
  go_wp2_with fail
  refine (HRUN.out _ (HA.out.below h1)).mono ?_
  rintro e w2 ⟨rfl, c2⟩
  have h2 := bstep h1 c2
  have A2 := Lib.hid (A1.out.below c2)
  clear c2 h1
  go_wp2_with fail
  refine (HSAME.out _ _ _ (HA.out.below h2) A2.out).mono ?_
  rintro e w3 ⟨rfl, c3⟩
  have h3 := bstep h2 c3
  clear c3 h2
  go_wp2_with fail
  refine (HPV.out _ (HA.out.below h3)).mono ?_
  rintro e w4 ⟨rfl, c4⟩
  have h4 := bstep h3 c4
  clear c4 h3
  go_wp2_with fail
  refine (HX.out _).mono ?_
  rintro e w5 ⟨rfl, rfl⟩
  go_wp2_with fail
  refine (awake3_any _).mono ?_
  rintro e w9 ⟨rfl, h9⟩
  go_wp2
  go_ret
  exact ⟨rfl, bstep h4 h9⟩
set_option maxHeartbeats 3200000 in
set_option maxRecDepth 100000 in
theorem runs_big (w : World) (v : Value) (x : ByteArray) (f : Int) (ps : List Ins) (h : ArgP w v ps) (hl : ps.length * 48 ≤ 140737488355328) (hp : PValid ps) (hv : vld x.data.toList = true) (hf : 10000000 < f) :
    Calls Try.prog 4 #[v, .string x, .int .i64 f] w (Awake3 w) := by
  have HT := Lib.hid (fun W v h => twin_any W v ps h (by omega))
  have HSAME := Lib.hid (fun W v v2 h h2 => PSame_arg W v v2 ps ps true h h2 (by omega) (by simp))
  have HA := Lib.hid h
  have HRUN := Lib.hid (fun W h => Run_arg W v ps x f h hp hv (by omega))
  have HX := Lib.hid (fun W => rValid_eq true x W (by have := vld_size hv; omega) hv)
  have HPV := Lib.hid (fun W h => PV_arg W v ps true h (by omega) (fun x hx => by have := PV_tree_le hp hx; omega) (by simp [hp]))
  have hf' : ¬ f < 0 := by omega
  clear h hl hp hv
  go_enter Try.func4, Try.ntmps4
  go_wp2_with fail
  refine (HT.out _ _ HA.out).mono ?_
  rintro e w1 ⟨v1, rfl, a1, h1⟩
  have A1 := Lib.hid a1
  clear a1
  go_wp2_with fail
  refine (HRUN.out _ (HA.out.below h1)).mono ?_
  rintro e w2 ⟨rfl, c2⟩
  have h2 := bstep h1 c2
  have A2 := Lib.hid (A1.out.below c2)
  clear c2 h1
  go_wp2_with fail
  refine (HSAME.out _ _ _ (HA.out.below h2) A2.out).mono ?_
  rintro e w3 ⟨rfl, c3⟩
  have h3 := bstep h2 c3
  clear c3 h2
  go_wp2_with fail
  refine (HPV.out _ (HA.out.below h3)).mono ?_
  rintro e w4 ⟨rfl, c4⟩
  have h4 := bstep h3 c4
  clear c4 h3
  go_wp2_with fail
  refine (HX.out _).mono ?_
  rintro e w5 ⟨rfl, rfl⟩
  go_wp2_with fail
  refine (awake3_any _).mono ?_
  rintro e w9 ⟨rfl, h9⟩
  go_wp2
  go_ret
  exact ⟨rfl, bstep h4 h9⟩
set_option maxHeartbeats 3200000 in
set_option maxRecDepth 100000 in
theorem runs_size (w : World) (v : Value) (x : ByteArray) (K : Nat) (ps : List Ins) (h : ArgP w v ps) (hl : ps.length * 48 ≤ 140737488355328) (hp : PValid ps) (hv : vld x.data.toList = true) (hk : K ≤ 10000000) (h1 : runTo ps K (first (rd x.data.toList)) = none) :
    Calls Try.prog 4 #[v, .string x, .int .i64 (K : Int)] w (Awake3 w) := by
  have HT := Lib.hid (fun W v h => twin_any W v ps h (by omega))
  have HSAME := Lib.hid (fun W v v2 h h2 => PSame_arg W v v2 ps ps true h h2 (by omega) (by simp))
  have HA := Lib.hid h
  have HRUN := Lib.hid (fun W h => Run_yes W v ps x K h hp hv hk)
  have HX := Lib.hid (fun W => rValid_eq true x W (by have := vld_size hv; omega) hv)
  have HLD := Lib.hid (fun W h => Load_any W v ps h hp)
  have HRD := Lib.hid (fun W => rRead_any x W hv)
  have HRR := Lib.hid (fun W m C y hL hC ho hn => rRun_any W m C K v y ps (rd x.data.toList) hL hC ho hp hn (by rw [tx_rd hv]; exact (vld_iff.1 hv).1) hk)
  have k0 : ¬ (K : Int) < 0 := by omega
  have k1 : ¬ (10000000 : Int) < (K : Int) := by omega
  have HPV := Lib.hid (fun W h => PV_arg W v ps true h (by omega) (fun x hx => by have := PV_tree_le hp hx; omega) (by simp [hp]))
  rw [res_none h1] at HRUN
  have H1 := Lib.hid h1
  clear h1
  clear h hl hp hv hk
  go_enter Try.func4, Try.ntmps4
  go_wp2_with fail
  refine (HT.out _ _ HA.out).mono ?_
  rintro e w1 ⟨v1, rfl, a1, h1⟩
  have A1 := Lib.hid a1
  clear a1
  go_wp2_with fail
  refine (HRUN.out _ (HA.out.below h1)).mono ?_
  rintro e w2 ⟨rfl, c2⟩
  have h2 := bstep h1 c2
  have A2 := Lib.hid (A1.out.below c2)
  clear c2 h1
  go_wp2_with fail
  refine (HSAME.out _ _ _ (HA.out.below h2) A2.out).mono ?_
  rintro e w3 ⟨rfl, c3⟩
  have h3 := bstep h2 c3
  clear c3 h2
  go_wp2_with fail
  refine (HPV.out _ (HA.out.below h3)).mono ?_
  rintro e w4 ⟨rfl, c4⟩
  have h4 := bstep h3 c4
  clear c4 h3
  go_wp2_with fail
  refine (HX.out _).mono ?_
  rintro e w5 ⟨rfl, rfl⟩
  go_wp2_with fail
  refine (HLD.out _ (HA.out.below h4)).mono ?_
  rintro e w6 ⟨m, C, rfl, hL, c6⟩
  have h6 := bstep h4 c6
  have HL := Lib.hid hL
  clear hL c6 h4
  go_wp2_with fail
  refine (HRD.out _).mono ?_
  rintro e w7 ⟨y, rfl, hy, c7⟩
  have h7 := bstep h6 c7
  have HL7 := Lib.hid (HL.out.below c7)
  obtain ⟨Y, rfl⟩ := hy.one
  have HY := Lib.hid hy
  clear hy c7 h6
  go_wp2_with fail
  refine (HRR.out _ _ _ _ HL7.out HL7.out.tagC.lt (own_lt HL7.out.A) HY.out).mono ?_
  rintro e w8 ⟨c8, he⟩
  have h8 := bstep h7 c8
  clear c8 h7
  rw [H1.out] at he
  obtain rfl := he
  go_wp2_with fail
  refine (awake3_any _).mono ?_
  rintro e w9 ⟨rfl, h9⟩
  go_wp2
  go_ret
  exact ⟨rfl, bstep h8 h9⟩
set_option maxHeartbeats 3200000 in
set_option maxRecDepth 100000 in
theorem runs_fuel (w : World) (v : Value) (x : ByteArray) (K : Nat) (ps : List Ins) (h : ArgP w v ps) (hl : ps.length * 48 ≤ 140737488355328) (hp : PValid ps) (hv : vld x.data.toList = true) (hk : K ≤ 10000000) {s : St} {n : Nat} (h1 : runTo ps K (first (rd x.data.toList)) = some (s, n)) (hat : s.at_ ≠ ps.length) :
    Calls Try.prog 4 #[v, .string x, .int .i64 (K : Int)] w (Awake3 w) := by
  have HT := Lib.hid (fun W v h => twin_any W v ps h (by omega))
  have HSAME := Lib.hid (fun W v v2 h h2 => PSame_arg W v v2 ps ps true h h2 (by omega) (by simp))
  have HA := Lib.hid h
  have HRUN := Lib.hid (fun W h => Run_yes W v ps x K h hp hv hk)
  have HX := Lib.hid (fun W => rValid_eq true x W (by have := vld_size hv; omega) hv)
  have HLD := Lib.hid (fun W h => Load_any W v ps h hp)
  have HRD := Lib.hid (fun W => rRead_any x W hv)
  have HRR := Lib.hid (fun W m C y hL hC ho hn => rRun_any W m C K v y ps (rd x.data.toList) hL hC ho hp hn (by rw [tx_rd hv]; exact (vld_iff.1 hv).1) hk)
  have k0 : ¬ (K : Int) < 0 := by omega
  have k1 : ¬ (10000000 : Int) < (K : Int) := by omega
  have HPV := Lib.hid (fun W h => PV_arg W v ps true h (by omega) (fun x hx => by have := PV_tree_le hp hx; omega) (by simp [hp]))
  rw [res_fuel h1 hat] at HRUN
  have H1 := Lib.hid h1; have HAT := Lib.hid hat
  clear h1 hat
  clear h hl hp hv hk
  go_enter Try.func4, Try.ntmps4
  go_wp2_with fail
  refine (HT.out _ _ HA.out).mono ?_
  rintro e w1 ⟨v1, rfl, a1, h1⟩
  have A1 := Lib.hid a1
  clear a1
  go_wp2_with fail
  refine (HRUN.out _ (HA.out.below h1)).mono ?_
  rintro e w2 ⟨rfl, c2⟩
  have h2 := bstep h1 c2
  have A2 := Lib.hid (A1.out.below c2)
  clear c2 h1
  go_wp2_with fail
  refine (HSAME.out _ _ _ (HA.out.below h2) A2.out).mono ?_
  rintro e w3 ⟨rfl, c3⟩
  have h3 := bstep h2 c3
  clear c3 h2
  go_wp2_with fail
  refine (HPV.out _ (HA.out.below h3)).mono ?_
  rintro e w4 ⟨rfl, c4⟩
  have h4 := bstep h3 c4
  clear c4 h3
  go_wp2_with fail
  refine (HX.out _).mono ?_
  rintro e w5 ⟨rfl, rfl⟩
  go_wp2_with fail
  refine (HLD.out _ (HA.out.below h4)).mono ?_
  rintro e w6 ⟨m, C, rfl, hL, c6⟩
  have h6 := bstep h4 c6
  have HL := Lib.hid hL
  clear hL c6 h4
  go_wp2_with fail
  refine (HRD.out _).mono ?_
  rintro e w7 ⟨y, rfl, hy, c7⟩
  have h7 := bstep h6 c7
  have HL7 := Lib.hid (HL.out.below c7)
  obtain ⟨Y, rfl⟩ := hy.one
  have HY := Lib.hid hy
  clear hy c7 h6
  go_wp2_with fail
  refine (HRR.out _ _ _ _ HL7.out HL7.out.tagC.lt (own_lt HL7.out.A) HY.out).mono ?_
  rintro e w8 ⟨c8, he⟩
  have h8 := bstep h7 c8
  clear c8 h7
  rw [H1.out] at he
  rcases he with ⟨e1, _⟩ | ⟨_, rfl⟩
  · exact absurd e1 HAT.out
  go_wp2_with fail
  refine (awake3_any _).mono ?_
  rintro e w9 ⟨rfl, h9⟩
  go_wp2
  go_ret
  exact ⟨rfl, bstep h8 h9⟩
set_option maxHeartbeats 3200000 in
set_option maxRecDepth 100000 in
theorem runs_ok (w : World) (v : Value) (x : ByteArray) (K : Nat) (ps : List Ins) (h : ArgP w v ps) (hl : ps.length * 48 ≤ 140737488355328) (hp : PValid ps) (hv : vld x.data.toList = true) (hk : K ≤ 10000000) {s : St} {n : Nat} (h1 : runTo ps K (first (rd x.data.toList)) = some (s, n)) (hat : s.at_ = ps.length) :
    Calls Try.prog 4 #[v, .string x, .int .i64 (K : Int)] w (Awake3 w) := by
  have HT := Lib.hid (fun W v h => twin_any W v ps h (by omega))
  have HSAME := Lib.hid (fun W v v2 h h2 => PSame_arg W v v2 ps ps true h h2 (by omega) (by simp))
  have HA := Lib.hid h
  have HRUN := Lib.hid (fun W h => Run_yes W v ps x K h hp hv hk)
  have HX := Lib.hid (fun W => rValid_eq true x W (by have := vld_size hv; omega) hv)
  have HLD := Lib.hid (fun W h => Load_any W v ps h hp)
  have HRD := Lib.hid (fun W => rRead_any x W hv)
  have HRR := Lib.hid (fun W m C y hL hC ho hn => rRun_any W m C K v y ps (rd x.data.toList) hL hC ho hp hn (by rw [tx_rd hv]; exact (vld_iff.1 hv).1) hk)
  have k0 : ¬ (K : Int) < 0 := by omega
  have k1 : ¬ (10000000 : Int) < (K : Int) := by omega
  have HPV := Lib.hid (fun W h => PV_arg W v ps true h (by omega) (fun x hx => by have := PV_tree_le hp hx; omega) (by simp [hp]))
  rw [res_ok h1 hat] at HRUN
  have H1 := Lib.hid h1; have HAT := Lib.hid hat
  have hok := (runTo_some h1).1.ok hp (first_ok _ (by rw [tx_rd hv]; exact (vld_iff.1 hv).1))
  have HTX := Lib.hid (fun W y h => rText_any (s.reg 0) y W h (St.reg_le hok 0))
  have hss2 : ((S (tx (s.reg 0))).toList == (S (tx (s.reg 0))).toList) = true := by simp
  generalize S (tx (s.reg 0)) = y0 at *
  clear h1 hat hok
  clear h hl hp hv hk
  go_enter Try.func4, Try.ntmps4
  go_wp2_with fail
  refine (HT.out _ _ HA.out).mono ?_
  rintro e w1 ⟨v1, rfl, a1, h1⟩
  have A1 := Lib.hid a1
  clear a1
  go_wp2_with fail
  refine (HRUN.out _ (HA.out.below h1)).mono ?_
  rintro e w2 ⟨rfl, c2⟩
  have h2 := bstep h1 c2
  have A2 := Lib.hid (A1.out.below c2)
  clear c2 h1
  go_wp2_with fail
  refine (HSAME.out _ _ _ (HA.out.below h2) A2.out).mono ?_
  rintro e w3 ⟨rfl, c3⟩
  have h3 := bstep h2 c3
  clear c3 h2
  go_wp2_with fail
  refine (HPV.out _ (HA.out.below h3)).mono ?_
  rintro e w4 ⟨rfl, c4⟩
  have h4 := bstep h3 c4
  clear c4 h3
  go_wp2_with fail
  refine (HX.out _).mono ?_
  rintro e w5 ⟨rfl, rfl⟩
  go_wp2_with fail
  refine (HLD.out _ (HA.out.below h4)).mono ?_
  rintro e w6 ⟨m, C, rfl, hL, c6⟩
  have h6 := bstep h4 c6
  have HL := Lib.hid hL
  clear hL c6 h4
  go_wp2_with fail
  refine (HRD.out _).mono ?_
  rintro e w7 ⟨y, rfl, hy, c7⟩
  have h7 := bstep h6 c7
  have HL7 := Lib.hid (HL.out.below c7)
  obtain ⟨Y, rfl⟩ := hy.one
  have HY := Lib.hid hy
  clear hy c7 h6
  go_wp2_with fail
  refine (HRR.out _ _ _ _ HL7.out HL7.out.tagC.lt (own_lt HL7.out.A) HY.out).mono ?_
  rintro e w8 ⟨c8, he⟩
  have h8 := bstep h7 c8
  clear c8 h7
  rw [H1.out] at he
  rcases he with ⟨_, z, rfl, hz⟩ | ⟨e1, _⟩
  · obtain ⟨Z, rfl⟩ := hz.one
    have HZ := Lib.hid hz
    clear hz
    go_wp2_with fail
    refine (HTX.out _ _ HZ.out).mono ?_
    rintro e w10 ⟨rfl, c10⟩
    have h10 := bstep h8 c10
    clear c10 h8
    go_wp2_with fail
    refine (awake3_any _).mono ?_
    rintro e w9 ⟨rfl, h9⟩
    go_wp2
    go_ret
    exact ⟨rfl, bstep h10 h9⟩
  · exact absurd HAT.out e1
theorem RunRuns_any (w : World) (v : Value) (x : ByteArray) (f : Int) (ps : List Ins) (h : ArgP w v ps) (hl : ps.length * 48 ≤ 140737488355328) (hz : ∀ x ∈ ps, x.tree.length ≤ 281474976710656) (hx : x.size ≤ 281474976710656) :
    Calls Try.prog 4 #[v, .string x, .int .i64 f] w fun e w' => e = .returned (.bool true) ∧ Below w.heap.size w w' := by
  by_cases hp : PValid ps
  · cases hv : vld x.data.toList with
    | false => exact runs_tree w v x f ps h hl hp hx hv
    | true =>
      by_cases hf : f < 0
      · exact runs_neg w v x f ps h hl hp hv hf
      by_cases hf2 : 10000000 < f
      · exact runs_big w v x f ps h hl hp hv hf2
      obtain ⟨K, rfl⟩ : ∃ K : Nat, f = (K : Int) := ⟨f.toNat, by omega⟩
      have hk : K ≤ 10000000 := by omega
      cases h1 : runTo ps K (first (rd x.data.toList)) with
      | none => exact runs_size w v x K ps h hl hp hv hk h1
      | some r =>
        obtain ⟨s, n⟩ := r
        by_cases he : s.at_ = ps.length
        · exact runs_ok w v x K ps h hl hp hv hk h1 he
        · exact runs_fuel w v x K ps h hl hp hv hk h1 he
  · exact runs_form w v x f ps h hl hz hx hp
end Go.Proofs.Ytagaiamjmdjenaa
