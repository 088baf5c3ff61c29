/- UnivNever: its walk. By an AI agent. -/
import Derived.Test.YtkpfocgcnehajabGreatDoorURuns
import Derived.Test.YtkpfocgcnehajabGreatDoorRLpw
namespace Go.Proofs.YtkpfocgcnehajabGreatDoor
open Go.RowKit Go.Maps Pl

theorem steps_split {ps : List Ins} {s0 : St} (i : Nat) : ∀ (d : Nat) {s : St}, Steps ps s0 (i + d) s → ∃ u, Steps ps s0 i u ∧ Steps ps u d s
  | 0, s, h => ⟨s, h, .zero⟩
  | d + 1, s, h => by
    have h' : Steps ps s0 (i + d + 1) s := h
    cases h' with
    | succ h1 he hst =>
      obtain ⟨u, k1, k2⟩ := steps_split i d h1
      exact ⟨u, k1, k2.succ he hst⟩
theorem steps_last {ps : List Ins} {s0 s t : St} {n : Nat} (h : Steps ps s0 (n + 1) t) (k : Steps ps s0 n s) : s.at_ ≠ ps.length ∧ stepP ps s = some t := by
  cases h with
  | succ h1 he hst =>
    have := Steps.det h1 k
    subst this
    exact ⟨he, hst⟩
theorem forever {ps : List Ins} {s0 st : St} {i j : Nat} (hij : i < j) (hi : Steps ps s0 i st) (hj : Steps ps s0 j st) (n : Nat) : ∃ s, Steps ps s0 n s ∧ ∃ n', n' ≤ j ∧ Steps ps s0 n' s := by
  induction n using Nat.strongRecOn with
  | _ n ih =>
    by_cases h : n ≤ j
    · obtain ⟨u, k1, _⟩ := steps_split n (j - n) (s := st) (by rw [show n + (j - n) = j by omega]; exact hj)
      exact ⟨u, k1, n, h, k1⟩
    · obtain ⟨s, h1, h2⟩ := ih (n - (j - i)) (by omega)
      obtain ⟨u, k1, k2⟩ := steps_split i (n - (j - i) - i) (s := s) (by rw [show i + (n - (j - i) - i) = n - (j - i) by omega]; exact h1)
      have := Steps.det k1 hi
      subst this
      have h3 := hj.then k2
      rw [show j + (n - (j - i) - i) = n by omega] at h3
      exact ⟨s, h3, h2⟩
theorem never_math {ps : List Ins} {x : Tr} {most N : Nat} (hv : PValid ps) (hz : (tx (.pair (lst (codeL ps)) x)).length ≤ 2000000) (hc : Comes ps x 2000) (hT : ∀ j s, j ≤ 4000 → Steps ps (first x) j s → totT s.regs ≤ most) :
    (∃ v, runTo univL N (first (.pair (lst (codeL ps)) x)) = some (v, N) ∧ v.at_ ≠ univL.length) ∨ ((200000 < (tx (.pair (lst (codeL ps)) x)).length ∨ 200000 < most) ∧ runTo univL N (first (.pair (lst (codeL ps)) x)) = none) := by
  obtain ⟨i, j, st, hij, hj, h1, h2⟩ := hc
  have hpl := tx_pair (lst (codeL ps)) x
  have hx : (tx x).length ≤ 2000000 := by omega
  have hB : ∀ m s, m ≤ N + 1 → Steps ps (first x) m s → Small (200000 < (tx (.pair (lst (codeL ps)) x)).length ∨ 200000 < most) ps s := fun m s _ hs hb => by
    obtain ⟨s', k1, n', hn', k2⟩ := forever hij h1 h2 m
    have := Steps.det hs k1
    subst this
    have := hT n' s (by omega) k2
    exact ⟨by omega, by omega⟩
  obtain ⟨t, ht, _⟩ := forever hij h1 h2 (N + 1)
  obtain ⟨k, u, _, hk, hgo, _⟩ := sim_run hv hx hz ht hB
  rcases hgo with g1 | ⟨hb, m, u', hm, g1, g2, g3⟩
  · obtain ⟨v, e1, e2⟩ := steps_split N (k - N) (s := u) (by rw [show N + (k - N) = k by omega]; exact g1)
    obtain ⟨v2, f1, _⟩ := steps_split (N + 1) (k - (N + 1)) (s := u) (by rw [show N + 1 + (k - (N + 1)) = k by omega]; exact g1)
    exact .inl ⟨v, runTo_is e1 (Nat.le_refl _) (.inl rfl), (steps_last f1 e1).1⟩
  · by_cases hmN : m < N
    · exact .inr ⟨hb, runTo_large g1 hmN g2 g3⟩
    · obtain ⟨v, e1, e2⟩ := steps_split N (m - N) (s := u') (by rw [show N + (m - N) = m by omega]; exact g1)
      refine .inl ⟨v, runTo_is e1 (Nat.le_refl _) (.inl rfl), ?_⟩
      by_cases hm2 : m = N
      · subst hm2
        have := Steps.det e1 g1
        subst this
        exact g2
      · obtain ⟨v2, f1, _⟩ := steps_split (N + 1) (m - (N + 1)) (s := u') (by rw [show N + 1 + (m - (N + 1)) = m by omega]; exact g1)
        exact (steps_last f1 e1).1
theorem peak_never {ps : List Ins} {x : Tr} (hc : Comes ps x 2000) : ∃ st, runTo ps 4000 (first x) = some (st, 4000) := by
  obtain ⟨i, j, st, hij, hj, h1, h2⟩ := hc
  cases hr : runTo ps 4000 (first x) with
  | none =>
    obtain ⟨n, s, _, k1, _, k3⟩ := runTo_none_ex hr
    obtain ⟨t, ht, _⟩ := forever hij h1 h2 (n + 1)
    have := (steps_last ht k1).2
    rw [k3] at this
    cases this
  | some r =>
    obtain ⟨s, n⟩ := r
    obtain ⟨k1, _, k3⟩ := runTo_some hr
    obtain ⟨t, ht, _⟩ := forever hij h1 h2 (n + 1)
    rcases k3 with rfl | k3
    · exact ⟨s, rfl⟩
    · exact absurd k3 (steps_last ht k1).1
set_option maxHeartbeats 1000000 in
set_option maxRecDepth 100000 in
theorem never_main (w : World) (p : Value) (ps : List Ins) (x : ByteArray) (K : Nat) (hE : TabE w) (hA : ArgP w p ps) (hv : PValid ps) (hl : ps.length ≤ 281474976710656) (hz : ∀ y ∈ ps, y.tree.length ≤ 281474976710656) (hx : vld x.data.toList = true) (hxs : x.size ≤ 281474976710656) (hK : K ≤ 300000) :
    Calls Tryz.prog 8 #[p, .string x, .int .i64 (K : Int)] w fun e w' => e = .returned (.bool true) ∧ Below w.heap.size w w' := by
  have hlen : ps.length ≤ 4000 := hv.1
  have HV := Lib.hid (fun W (h : ArgP W p ps) => PV_arg W p ps true h hl hz (by simp [hv]))
  have HVX := Lib.hid (fun W => rValid_any x W hxs)
  rw [hx] at HVX
  have HR := Lib.hid (fun W => rRead_any x W hx)
  have htl : (tx (rd x.data.toList)).length ≤ 2000000 := by rw [tx_rd hx]; exact (vld_iff.1 hx).1
  generalize rd x.data.toList = t at *
  have HG := Lib.hid (fun W v (hA : ArgP W p ps) (hn : NodeW 72 W t v) => given_any W p v ps t hA hv hn htl)
  have HLD := Lib.hid (fun W (h : ArgP W p ps) => Load_new W p ps h hv)
  have HPK := Lib.hid (fun W m C v (hL : RL W m C p ps) (hC : C < W.heap.size) (ho : ∀ k, 0 < ps.length → p.ownBlock = some k → k < W.heap.size) (hn : NodeW 72 W t v) => peak_any W m C 4000 p v ps t hL hC ho hv hn htl (by omega))
  have HLO := Lib.hid (fun W m C v (hL : RL W m C p ps) (hC : C < W.heap.size) (ho : ∀ k, 0 < ps.length → p.ownBlock = some k → k < W.heap.size) (hn : NodeW 72 W t v) => rLoops_any W m C 2000 p v ps t hL hC ho hv hn htl (by omega))
  have HU := Lib.hid (fun W (hb : Below w.heap.size w W) => Universal_any W (hE.below hb))
  have HVU := Lib.hid (fun W v h => PV_arg W v univL true h (by rw [univL_len]; decide) (fun x hx => by have := PV_tree_le univL_valid hx; omega) (by simp [univL_valid]))
  have HLU := Lib.hid (fun W v (h : ArgP W v univL) => Load_new W v univL h univL_valid)
  have HAW := Lib.hid (fun W (hb : Below w.heap.size w W) => awake6_any W (hE.below hb))
  have HA := Lib.hid hA; have HVV := Lib.hid hv
  obtain ⟨pa, pc, rfl⟩ := hA.form
  have hk1 : decide ((K : Int) < 0) = false := by rw [decide_eq_false_iff_not]; omega
  have hk2 : decide ((300000 : Int) < (K : Int)) = false := by rw [decide_eq_false_iff_not]; omega
  have HLL := Lib.hid hlen
  clear hE hA hv hl hz hx hxs htl
  go_enter Tryz.func8, Tryz.ntmps8
  go_wp2_with fail
  refine (HV.out _ HA.out).mono ?_
  rintro e w1 ⟨rfl, hb⟩
  have B1 := Lib.hid hb
  clear hb
  go_wp2_with fail
  refine (HVX.out _).mono ?_
  rintro e w2 ⟨rfl, rfl⟩
  go_wp2_with fail
  refine (HR.out _).mono ?_
  rintro e w2 ⟨v2, rfl, h2, hb⟩
  have B2 := Lib.hid (bstep B1.out hb); have N2 := Lib.hid h2
  clear hb h2
  go_wp2_with fail
  refine (HG.out _ _ (HA.out.below B2.out) N2.out).mono ?_
  rintro e w3 ⟨hb, vi, rfl, hin⟩
  have B3 := Lib.hid (bstep B2.out hb); have HIN := Lib.hid hin
  obtain ⟨I, rfl⟩ : ∃ I, vi = .pointer I := by
    rcases hin with ⟨_, rfl⟩ | ⟨_, h⟩
    · exact ⟨_, rfl⟩
    · exact h.one
  clear hb hin N2 HG
  go_wp2_with fail
  refine (HLD.out _ (HA.out.below B3.out)).mono ?_
  rintro e w4 ⟨m, C, rfl, hL, hb, hC⟩
  have B4 := Lib.hid (bstep B3.out hb); have D4 := Lib.hid hb; have L4 := Lib.hid hL
  clear hb hL hC HLD
  cases I with
  | none =>
    go_wp2_with fail
    refine (HAW.out _ B4.out).mono ?_
    rintro e w19 ⟨rfl, hb⟩
    have B19 := Lib.hid (bstep B4.out hb)
    clear hb
    go_wp2_with fail
    go_ret
    exact ⟨rfl, B19.out⟩
  | some I =>
    have hz : (tx (.pair (lst (codeL ps)) t)).length ≤ 2000000 ∧ NodeW 72 w3 (.pair (lst (codeL ps)) t) (.pointer (some I)) := by
      rcases HIN.out with ⟨_, h⟩ | h
      · cases h
      · exact h
    have HZ := Lib.hid hz
    clear hz HIN
    go_wp2_with fail
    refine (HR.out _).mono ?_
    rintro e w5 ⟨v5, rfl, h5, hb⟩
    obtain ⟨V5, rfl⟩ := h5.one
    have B5 := Lib.hid (bstep B4.out hb); have D5 := Lib.hid (bstep D4.out hb); have N5 := Lib.hid h5; have L5 := Lib.hid (L4.out.below hb)
    clear hb h5 L4 D4
    go_wp2_with fail
    refine (HLO.out _ _ _ _ L5.out (TagB.lt L5.out.tagC) (argp_lt6 (HA.out.below B5.out)) N5.out).mono ?_
    rintro e w6 ⟨b, rfl, hcm, hb⟩
    have B6 := Lib.hid (bstep B5.out hb); have D6 := Lib.hid (bstep D5.out hb); have L6 := Lib.hid (L5.out.below hb)
    clear hb L5 D5 N5 HLO
    cases b with
    | false =>
      clear hcm
      go_wp2_with fail
      refine (HAW.out _ B6.out).mono ?_
      rintro e w19 ⟨rfl, hb⟩
      have B19 := Lib.hid (bstep B6.out hb)
      clear hb
      go_wp2_with fail
      go_ret
      exact ⟨rfl, B19.out⟩
    | true =>
      have HCM := Lib.hid (hcm rfl)
      clear hcm
      go_wp2_with fail
      refine (HR.out _).mono ?_
      rintro e w7 ⟨v7, rfl, h7, hb⟩
      obtain ⟨V7, rfl⟩ := h7.one
      have B7 := Lib.hid (bstep B6.out hb); have D7 := Lib.hid (bstep D6.out hb); have N7 := Lib.hid h7; have L7 := Lib.hid (L6.out.below hb)
      clear hb h7 L6 D6
      go_wp2_with fail
      refine (HPK.out _ _ _ _ L7.out (TagB.lt L7.out.tagC) (argp_lt6 (HA.out.below B7.out)) N7.out).mono ?_
      rintro e w8 ⟨hb, most, hmost, hm⟩
      obtain ⟨stp, hrp⟩ := peak_never HCM.out
      rw [hrp] at hm
      obtain ⟨Y, k8, c8, rfl⟩ : ∃ (Y : Value) (k8 c8 : Int), e = .returned (.tuple #[Y, .int .i64 k8, .int .i64 c8, .int .i64 (most : Int)]) := by
        obtain ⟨_, ⟨_, y, h1, _⟩ | ⟨_, h1⟩⟩ := hm
        · exact ⟨_, _, _, h1⟩
        · exact ⟨_, _, _, h1⟩
      have HR2 := Lib.hid (never_math (N := K) HVV.out HZ.out.1 HCM.out hm.1)
      have B8 := Lib.hid (bstep B7.out hb); have D8 := Lib.hid (bstep D7.out hb)
      clear hb hm hrp L7 N7 D7 HPK HCM
      go_wp2_with fail
      refine (HU.out _ B8.out).mono ?_
      rintro e w9 ⟨g, cap, rfl, ho, hb⟩
      have O9 := Lib.hid (own_argp ho); have B9 := Lib.hid (bstep B8.out hb); have D9 := Lib.hid (bstep D8.out hb)
      clear ho hb HU B8 D8
      go_wp2_with fail
      refine (HVU.out _ _ O9.out).mono ?_
      rintro e w10 ⟨rfl, hb⟩
      have B10 := Lib.hid (bstep B9.out hb); have D10 := Lib.hid (bstep D9.out hb); have O10 := Lib.hid (O9.out.below hb)
      clear hb B9 D9 O9
      go_wp2_with fail
      refine (HLU.out _ _ O10.out).mono ?_
      rintro e w11 ⟨m2, C2, rfl, hL, hb, hC2⟩
      have B11 := Lib.hid (bstep B10.out hb); have L11 := Lib.hid hL
      have O11 := Lib.hid (O10.out.below hb); have HN11 := Lib.hid (NodeW.below HZ.out.2 (bstep D10.out hb))
      clear hb hL hC2 B10 D10 O10 HLU
      go_wp2_with fail
      refine (rRun_any w11 m2 C2 K _ _ univL _ L11.out (TagB.lt L11.out.tagC) (argp_lt6 O11.out) univL_valid HN11.out HZ.out.1 (by omega)).mono ?_
      rintro e w12 ⟨hb, hm⟩
      have B12 := Lib.hid (bstep B11.out hb); have N12 := Lib.hid (NodeW.below HN11.out hb)
      clear hb B11 L11 O11 HN11
      rcases HR2.out with ⟨v, h1, h2⟩ | ⟨hB, h1⟩
      · rw [h1] at hm
        obtain ⟨h4, _⟩ | ⟨_, rfl⟩ := hm
        · exact absurd h4 h2
        · clear h1 h2 HR2 N12
          go_wp2_with fail
          refine (HAW.out _ B12.out).mono ?_
          rintro e w19 ⟨rfl, hb⟩
          have B19 := Lib.hid (bstep B12.out hb)
          clear hb
          go_wp2_with fail
          go_ret
          exact ⟨rfl, B19.out⟩
      · rw [h1] at hm
        obtain rfl := hm
        obtain ⟨B3', o3, x3, y3, hI, ca, cb, cc, na, nb⟩ := N12.out
        obtain rfl := Option.some.inj (Value.pointer.inj hI)
        have cc3 : w12.cell? ⟨B3', o3 + 2, none⟩ = some (.int .i64 ((tx (.pair (lst (codeL ps)) t)).length : Nat)) := cc.2
        clear hI ca cb cc na nb h1 HR2 N12 HZ
        generalize (tx (.pair (lst (codeL ps)) t)).length = L at cc3 hB
        by_cases hB1 : 200000 < L
        · have d1 : decide ((200000 : Int) < (L : Int)) = true := by rw [decide_eq_true_eq]; omega
          clear hB hB1
          go_wp2_with fail
          refine (HAW.out _ B12.out).mono ?_
          rintro e w19 ⟨rfl, hb⟩
          have B19 := Lib.hid (bstep B12.out hb)
          clear hb
          go_wp2_with fail
          go_ret
          exact ⟨rfl, B19.out⟩
        · have d1 : decide ((200000 : Int) < (L : Int)) = false := by rw [decide_eq_false_iff_not]; omega
          have d2 : decide ((200000 : Int) < (most : Int)) = true := by rw [decide_eq_true_eq]; omega
          clear hB hB1
          go_wp2_with fail
          refine (HAW.out _ B12.out).mono ?_
          rintro e w19 ⟨rfl, hb⟩
          have B19 := Lib.hid (bstep B12.out hb)
          clear hb
          go_wp2_with fail
          go_ret
          exact ⟨rfl, B19.out⟩
set_option maxHeartbeats 1000000 in
set_option maxRecDepth 100000 in
/-- no program -/
theorem never_no1 (w : World) (p : Value) (ps : List Ins) (x : ByteArray) (f : Int) (hE : TabE w) (hA : ArgP w p ps) (hv : ¬ PValid ps) (hl : ps.length ≤ 281474976710656) (hz : ∀ y ∈ ps, y.tree.length ≤ 281474976710656) :
    Calls Tryz.prog 8 #[p, .string x, .int .i64 f] w fun e w' => e = .returned (.bool true) ∧ Below w.heap.size w w' := by
  have HV := Lib.hid (PV_arg w p ps false hA hl hz (by simp [hv]))
  have HAW := Lib.hid (fun W (hb : Below w.heap.size w W) => awake6_any W (hE.below hb))
  obtain ⟨pa, pc, rfl⟩ := hA.form
  clear hE hA hv hl hz
  go_enter Tryz.func8, Tryz.ntmps8
  go_wp2_with fail
  refine HV.out.mono ?_
  rintro e w1 ⟨rfl, hb⟩
  have B1 := Lib.hid hb
  clear hb
  go_wp2_with fail
  refine (HAW.out _ B1.out).mono ?_
  rintro e w13 ⟨rfl, hb⟩
  have B13 := Lib.hid (bstep B1.out hb)
  clear hb
  go_wp2_with fail
  go_ret
  exact ⟨rfl, B13.out⟩
set_option maxHeartbeats 1000000 in
set_option maxRecDepth 100000 in
/-- no tree, or no steps to run -/
theorem never_no2 (w : World) (p : Value) (ps : List Ins) (x : ByteArray) (f : Int) (b : Bool) (hE : TabE w) (hA : ArgP w p ps) (hv : PValid ps) (hl : ps.length ≤ 281474976710656) (hz : ∀ y ∈ ps, y.tree.length ≤ 281474976710656) (hxs : x.size ≤ 281474976710656) (hb : vld x.data.toList = b) (hno : b = false ∨ f < 0 ∨ 300000 < f) :
    Calls Tryz.prog 8 #[p, .string x, .int .i64 f] w fun e w' => e = .returned (.bool true) ∧ Below w.heap.size w w' := by
  have HV := Lib.hid (PV_arg w p ps true hA hl hz (by simp [hv]))
  have HVX := Lib.hid (fun W => rValid_any x W hxs)
  rw [hb] at HVX
  have HAW := Lib.hid (fun W (hb : Below w.heap.size w W) => awake6_any W (hE.below hb))
  obtain ⟨pa, pc, rfl⟩ := hA.form
  clear hE hA hv hl hz hxs hb
  cases b with
  | false =>
    clear hno
    go_enter Tryz.func8, Tryz.ntmps8
    go_wp2_with fail
    refine HV.out.mono ?_
    rintro e w1 ⟨rfl, hb⟩
    have B1 := Lib.hid hb
    clear hb
    go_wp2_with fail
    refine (HVX.out _).mono ?_
    rintro e w2 ⟨rfl, rfl⟩
    go_wp2_with fail
    refine (HAW.out _ B1.out).mono ?_
    rintro e w13 ⟨rfl, hb⟩
    have B13 := Lib.hid (bstep B1.out hb)
    clear hb
    go_wp2_with fail
    go_ret
    exact ⟨rfl, B13.out⟩
  | true =>
    by_cases h0 : f < 0
    · have d1 : decide (f < (0 : Int)) = true := by rw [decide_eq_true_eq]; omega
      clear hno h0
      go_enter Tryz.func8, Tryz.ntmps8
      go_wp2_with fail
      refine HV.out.mono ?_
      rintro e w1 ⟨rfl, hb⟩
      have B1 := Lib.hid hb
      clear hb
      go_wp2_with fail
      refine (HVX.out _).mono ?_
      rintro e w2 ⟨rfl, rfl⟩
      go_wp2_with fail
      refine (HAW.out _ B1.out).mono ?_
      rintro e w13 ⟨rfl, hb⟩
      have B13 := Lib.hid (bstep B1.out hb)
      clear hb
      go_wp2_with fail
      go_ret
      exact ⟨rfl, B13.out⟩
    · have h1 : 300000 < f := by
        rcases hno with h | h | h
        · cases h
        · exact absurd h h0
        · exact h
      have d1 : decide (f < (0 : Int)) = false := by rw [decide_eq_false_iff_not]; omega
      have d2 : decide ((300000 : Int) < f) = true := by rw [decide_eq_true_eq]; omega
      clear hno h0 h1
      go_enter Tryz.func8, Tryz.ntmps8
      go_wp2_with fail
      refine HV.out.mono ?_
      rintro e w1 ⟨rfl, hb⟩
      have B1 := Lib.hid hb
      clear hb
      go_wp2_with fail
      refine (HVX.out _).mono ?_
      rintro e w2 ⟨rfl, rfl⟩
      go_wp2_with fail
      refine (HAW.out _ B1.out).mono ?_
      rintro e w13 ⟨rfl, hb⟩
      have B13 := Lib.hid (bstep B1.out hb)
      clear hb
      go_wp2_with fail
      go_ret
      exact ⟨rfl, B13.out⟩
theorem UnivNever_any (w : World) (p : Value) (ps : List Ins) (x : ByteArray) (f : Int) (hE : TabE w) (hA : ArgP w p ps) (hl : ps.length ≤ 281474976710656) (hz : ∀ y ∈ ps, y.tree.length ≤ 281474976710656) (hxs : x.size ≤ 281474976710656) :
    Calls Tryz.prog 8 #[p, .string x, .int .i64 f] w fun e w' => e = .returned (.bool true) ∧ Below w.heap.size w w' := by
  by_cases hv : PValid ps
  · cases hx : vld x.data.toList with
    | false => exact never_no2 w p ps x f false hE hA hv hl hz hxs hx (.inl rfl)
    | true =>
      by_cases h0 : f < 0
      · exact never_no2 w p ps x f true hE hA hv hl hz hxs hx (.inr (.inl h0))
      · by_cases h1 : 300000 < f
        · exact never_no2 w p ps x f true hE hA hv hl hz hxs hx (.inr (.inr h1))
        · obtain ⟨K, rfl⟩ : ∃ K : Nat, f = (K : Int) := ⟨f.toNat, by omega⟩
          exact never_main w p ps x K hE hA hv hl hz hx hxs (by omega)
  · exact never_no1 w p ps x f hE hA hv hl hz
end Go.Proofs.YtkpfocgcnehajabGreatDoor
