/- UnivRuns: its walk. By an AI agent. -/
import Derived.Test.YtkpfocgcnehajabGreatDoorUPk
import Derived.Test.YtkpfocgcnehajabGreatDoorREq
import Derived.Test.YtkpfocgcnehajabGreatDoorUAwk
namespace Go.Proofs.YtkpfocgcnehajabGreatDoor
open Go.RowKit Go.Maps Pl

set_option maxRecDepth 100000 in
theorem Most_any (w : World) (n k : Nat) (hn : n ≤ 4000) (hk : k ≤ 100000) : Calls Tryz.prog 38 #[.int .i64 (n : Int), .int .i64 (k : Int)] w fun e w' => ∃ M : Nat, M = 100 * (n + 40) * (k + 1) ∧ e = .returned (.int .i64 (M : Int)) ∧ w = w' := by
  have h1 : (n + 40) * (k + 1) ≤ 4040 * 100001 := Nat.mul_le_mul (by omega) (by omega)
  have h0 : 100 * (n + 40) * (k + 1) = 100 * ((n + 40) * (k + 1)) := by rw [Nat.mul_assoc]
  have e2 : wrap64 (100 * ((n : Int) + 40) * ((k : Int) + 1)) = ((100 * (n + 40) * (k + 1) : Nat) : Int) := by
    rw [show ((k : Int) + 1) = ((k + 1 : Nat) : Int) by omega, show (100 * ((n : Int) + 40)) = ((100 * (n + 40) : Nat) : Int) by omega, ← Int.natCast_mul]
    have hz : 100 * (n + 40) * (k + 1) ≤ 100 * (4040 * 100001) := by omega
    generalize 100 * (n + 40) * (k + 1) = Z at *
    unfold wrap64; omega
  have E := Lib.hid e2
  clear h0 h1 e2
  go_enter Tryz.func38, Tryz.ntmps38
  go_wp2_with fail
  go_ret
  refine ⟨_, rfl, ?_, rfl⟩
  show Ending.returned (.int .i64 (wrap64 (100 * ((n : Int) + 40) * ((k : Int) + 1)))) = _
  rw [E.out]
theorem argp_lt6 {w : World} {v : Value} {ps : List Ins} (h : ArgP w v ps) : ∀ k, 0 < ps.length → v.ownBlock = some k → k < w.heap.size := by
  intro k h0 hk
  rcases h with ⟨h, _⟩ | ⟨_, b', off, cap, rfl, hc⟩
  · rw [h] at h0; simp at h0
  · cases hk; exact hc.1
/-- what one needs of the program's run -/
theorem runs_math {ps : List Ins} {x : Tr} {n most K : Nat} {st : St} (hv : PValid ps) (hz : (tx (.pair (lst (codeL ps)) x)).length ≤ 2000000) (h : Steps ps (first x) n st) (he : st.at_ = ps.length) (hT : ∀ j s, j ≤ n → Steps ps (first x) j s → totT s.regs ≤ most) (hK : K = 100 * (ps.length + 40) * (n + 1)) :
    (∃ v k, runTo univL K (first (.pair (lst (codeL ps)) x)) = some (v, k) ∧ v.at_ = univL.length ∧ v.reg 0 = st.reg 0) ∨ ((200000 < (tx (.pair (lst (codeL ps)) x)).length ∨ 200000 < most) ∧ runTo univL K (first (.pair (lst (codeL ps)) x)) = none) := by
  have hpl := tx_pair (lst (codeL ps)) x
  have hx : (tx x).length ≤ 2000000 := by omega
  have hB : ∀ m s, m ≤ n → Steps ps (first x) m s → Small (200000 < (tx (.pair (lst (codeL ps)) x)).length ∨ 200000 < most) ps s := fun m s hm hs hb => by
    have := hT m s hm hs
    exact ⟨by omega, by omega⟩
  obtain ⟨k, v, hk, hgo, hat, hr⟩ := univ_ends hv hx hz h he hB
  have hle : k ≤ K := by
    have e1 : 100 * (ps.length + 40) * (n + 1) = 100 * ((ps.length + 40) * n) + 100 * (ps.length + 40) := by
      rw [Nat.mul_assoc, Nat.mul_add, Nat.mul_add]; omega
    have e2 : (ps.length + 40) * n = n * ps.length + 40 * n := by rw [Nat.add_mul, Nat.mul_comm]
    have e3 : n * (5 * ps.length + 700) = 5 * (n * ps.length) + 700 * n := by
      rw [Nat.mul_add, Nat.mul_comm n (5 * ps.length), Nat.mul_assoc, Nat.mul_comm ps.length n, Nat.mul_comm n 700]
    omega
  rcases hgo with h1 | ⟨hb, m, u, hm, h1, h2, h3⟩
  · exact .inl ⟨v, k, runTo_is h1 hle (.inr hat), hat, hr⟩
  · exact .inr ⟨hb, runTo_large h1 (by omega) h2 h3⟩
set_option maxHeartbeats 1000000 in
set_option maxRecDepth 100000 in
/-- the valid inputs that are small enough -/
theorem runs_main (w : World) (p : Value) (ps : List Ins) (x : ByteArray) (K : Nat) (hE : TabE w) (hA : ArgP w p ps) (hv : PValid ps) (hl : ps.length ≤ 281474976710656) (hz : ∀ y ∈ ps, y.tree.length ≤ 281474976710656) (hx : vld x.data.toList = true) (hxs : x.size ≤ 281474976710656) (hK : K ≤ 100000) (hM : 100 * (ps.length + 40) * (K + 1) ≤ 10000000) :
    Calls Tryz.prog 7 #[p, .string x, .int .i64 (K : Int)] w fun e w' => e = .returned (.bool true) ∧ Below w.heap.size w w' := by
  have hlen : ps.length ≤ 4000 := hv.1
  have HV := Lib.hid (fun W (h : ArgP W p ps) => PV_arg W p ps true h hl hz (by simp [hv]))
  have HVX := Lib.hid (fun W => rValid_any x W hxs)
  rw [hx] at HVX
  have HMO := Lib.hid (fun W k (hk : k ≤ 100000) => Most_any W ps.length k hlen hk)
  have HR := Lib.hid (fun W => rRead_any x W hx)
  have htl : (tx (rd x.data.toList)).length ≤ 2000000 := by rw [tx_rd hx]; exact (vld_iff.1 hx).1
  generalize rd x.data.toList = t at *
  have HG := Lib.hid (fun W v (hA : ArgP W p ps) (hn : NodeW 72 W t v) => given_any W p v ps t hA hv hn htl)
  have HLD := Lib.hid (fun W (h : ArgP W p ps) => Load_new W p ps h hv)
  have HPK := Lib.hid (fun W m C v (hL : RL W m C p ps) (hC : C < W.heap.size) (ho : ∀ k, 0 < ps.length → p.ownBlock = some k → k < W.heap.size) (hn : NodeW 72 W t v) => peak_any W m C K p v ps t hL hC ho hv hn htl (by omega))
  have HU := Lib.hid (fun W (hb : Below w.heap.size w W) => Universal_any W (hE.below hb))
  have HVU := Lib.hid (fun W v h => PV_arg W v univL true h (by rw [univL_len]; decide) (fun x hx => by have := PV_tree_le univL_valid hx; omega) (by simp [univL_valid]))
  have HLU := Lib.hid (fun W v (h : ArgP W v univL) => Load_new W v univL h univL_valid)
  have HAW := Lib.hid (fun W (hb : Below w.heap.size w W) => awake6_any W (hE.below hb))
  have HA := Lib.hid hA; have HVV := Lib.hid hv
  obtain ⟨pa, pc, rfl⟩ := hA.form
  have hk1 : decide ((K : Int) < 0) = false := by rw [decide_eq_false_iff_not]; omega
  have hk2 : decide ((100000 : Int) < (K : Int)) = false := by rw [decide_eq_false_iff_not]; omega
  have HMM := Lib.hid hM
  have HLL := Lib.hid hlen
  clear hE hA hv hl hz hx hxs hM htl
  go_enter Tryz.func7, Tryz.ntmps7
  go_wp2_with fail
  refine (HV.out _ HA.out).mono ?_
  rintro e w1 ⟨rfl, hb⟩
  have B1 := Lib.hid hb
  clear hb
  go_wp2_with fail
  refine (HVX.out _).mono ?_
  rintro e w2 ⟨rfl, rfl⟩
  go_wp2_with fail
  refine (HMO.out _ K hK).mono ?_
  rintro e w2 ⟨M, hM, rfl, rfl⟩
  have hm1 : decide ((10000000 : Int) < (M : Int)) = false := by rw [decide_eq_false_iff_not]; have := HMM.out; omega
  clear hM
  go_wp2_with fail
  refine (HR.out _).mono ?_
  rintro e w2 ⟨v2, rfl, h2, hb⟩
  have B2 := Lib.hid (bstep B1.out hb); have N2 := Lib.hid h2
  clear hb h2
  go_wp2_with fail
  refine (HG.out _ _ (HA.out.below B2.out) N2.out).mono ?_
  rintro e w3 ⟨hb, vi, rfl, hin⟩
  have B3 := Lib.hid (bstep B2.out hb); have HIN := Lib.hid hin
  obtain ⟨I, rfl⟩ : ∃ I, vi = .pointer I := by
    rcases hin with ⟨_, rfl⟩ | ⟨_, h⟩
    · exact ⟨_, rfl⟩
    · exact h.one
  clear hb hin N2 HG
  go_wp2_with fail
  refine (HLD.out _ (HA.out.below B3.out)).mono ?_
  rintro e w4 ⟨m, C, rfl, hL, hb, hC⟩
  have B4 := Lib.hid (bstep B3.out hb); have D4 := Lib.hid hb; have L4 := Lib.hid hL
  clear hb hL hC HLD
  go_wp2_with fail
  refine (HR.out _).mono ?_
  rintro e w5 ⟨v5, rfl, h5, hb⟩
  obtain ⟨V5, rfl⟩ := h5.one
  have B5 := Lib.hid (bstep B4.out hb); have D5 := Lib.hid (bstep D4.out hb); have N5 := Lib.hid h5; have L5 := Lib.hid (L4.out.below hb)
  clear hb h5 L4 D4
  go_wp2_with fail
  refine (HPK.out _ _ _ _ L5.out (TagB.lt L5.out.tagC) (argp_lt6 (HA.out.below B5.out)) N5.out).mono ?_
  rintro e w6 ⟨hb, most, hmost, hm⟩
  have B6 := Lib.hid (bstep B5.out hb); have D6 := Lib.hid (bstep D5.out hb)
  obtain ⟨Y, k6, c6, rfl, hcase⟩ : ∃ (Y : Option Addr) (k6 c6 : Nat), e = .returned (.tuple #[.pointer Y, .int .i64 (k6 : Int), .int .i64 (c6 : Int), .int .i64 (most : Int)]) ∧ ((c6 = 0 ∧ ∃ st, Steps ps (first t) k6 st ∧ st.at_ = ps.length ∧ k6 ≤ K ∧ (∀ j s, j ≤ k6 → Steps ps (first t) j s → totT s.regs ≤ most) ∧ NodeW 72 w6 (st.reg 0) (.pointer Y)) ∨ c6 = 3 ∨ c6 = 7) := by
    cases hr : runTo ps K (first t) with
    | none =>
      rw [hr] at hm
      exact ⟨none, 0, 3, hm, .inr (.inl rfl)⟩
    | some r =>
      obtain ⟨st, n⟩ := r
      rw [hr] at hm
      obtain ⟨hst, hnk, _⟩ := runTo_some hr
      obtain ⟨hT, ⟨he, y, h1, h2⟩ | ⟨he, h1⟩⟩ := hm
      · obtain ⟨Y, rfl⟩ := h2.one
        exact ⟨Y, n, 0, h1, .inl ⟨rfl, st, hst, he, hnk, hT, h2⟩⟩
      · exact ⟨none, 0, 7, h1, .inr (.inr rfl)⟩
  have HCS := Lib.hid hcase
  have hc6 : c6 ≤ 7 := by omega
  clear hm hb hcase HPK L5 N5 D5
  go_wp2_with fail
  refine (HU.out _ B6.out).mono ?_
  rintro e w7 ⟨g, cap, rfl, ho, hb⟩
  have O7 := Lib.hid (own_argp ho); have B7 := Lib.hid (bstep B6.out hb); have D7 := Lib.hid (bstep D6.out hb); have F7 := Lib.hid hb
  clear ho hb HU
  cases I with
  | none =>
    go_wp2_with fail
    refine (HVU.out _ _ O7.out).mono ?_
    rintro e w8 ⟨rfl, hb⟩
    have B8 := Lib.hid (bstep B7.out hb)
    clear hb
    go_wp2_with fail
    refine (HAW.out _ B8.out).mono ?_
    rintro e w9 ⟨rfl, hb⟩
    have B9 := Lib.hid (bstep B8.out hb)
    clear hb
    go_wp2_with fail
    go_ret
    exact ⟨rfl, B9.out⟩
  | some I =>
    by_cases hc0 : c6 = 0
    · subst hc0
      obtain ⟨st, hst, hat, hk6, hT, hY⟩ : ∃ st, Steps ps (first t) k6 st ∧ st.at_ = ps.length ∧ k6 ≤ K ∧ (∀ j s, j ≤ k6 → Steps ps (first t) j s → totT s.regs ≤ most) ∧ NodeW 72 w6 (st.reg 0) (.pointer Y) := by
        rcases HCS.out with ⟨_, h⟩ | h | h
        · exact h
        · exact absurd h (by decide)
        · exact absurd h (by decide)
      have hz : (tx (.pair (lst (codeL ps)) t)).length ≤ 2000000 ∧ NodeW 72 w3 (.pair (lst (codeL ps)) t) (.pointer (some I)) := by
        rcases HIN.out with ⟨_, h⟩ | h
        · cases h
        · exact h
      have HZ := Lib.hid hz; have HY := Lib.hid hY
      have HMT := Lib.hid (fun Kf (h : Kf = 100 * (ps.length + 40) * (k6 + 1)) => runs_math HVV.out HZ.out.1 hst hat hT h)
      have hok := hst.ok HVV.out (first_ok _ (by have := tx_pair (lst (codeL ps)) t; omega))
      have hr0 : (tx (st.reg 0)).length ≤ 2000000 := hok.2.2 _ (by
        have hl : 0 < st.regs.length := by rw [hok.2.1]; decide
        show st.regs[(0 : Int).toNat]?.getD .nil ∈ st.regs
        rw [show (0 : Int).toNat = 0 from rfl, List.getElem?_eq_getElem hl]
        exact List.getElem_mem hl)
      have HEQ := Lib.hid (fun W X Z (h1 : NodeW 72 W (st.reg 0) X) (h2 : NodeW 72 W (st.reg 0) Z) => rEqual_same W (st.reg 0) X Z h1 h2 hr0)
      clear hst hat hT hY hz hok HIN HCS
      go_wp2_with fail
      refine (HVU.out _ _ O7.out).mono ?_
      rintro e w8 ⟨rfl, hb⟩
      have B8 := Lib.hid (bstep B7.out hb); have D8 := Lib.hid (bstep D7.out hb); have F8 := Lib.hid (bstep F7.out hb); have O8 := Lib.hid (O7.out.below hb)
      clear hb O7 B7
      go_wp2_with fail
      refine (HLU.out _ _ O8.out).mono ?_
      rintro e w9 ⟨m2, C2, rfl, hL, hb, hC2⟩
      have B9 := Lib.hid (bstep B8.out hb); have D9 := Lib.hid (bstep D8.out hb); have F9 := Lib.hid (bstep F8.out hb); have L9 := Lib.hid hL
      have O9 := Lib.hid (O8.out.below hb)
      clear hb hL hC2 B8 D8 F8 O8 HLU
      go_wp2_with fail
      refine (HMO.out _ k6 (by omega)).mono ?_
      rintro e w10 ⟨M2, hM2, rfl, rfl⟩
      have hM3 : M2 ≤ 10000000 := by
        have h1 : 100 * (ps.length + 40) * (k6 + 1) ≤ 100 * (ps.length + 40) * (K + 1) := Nat.mul_le_mul_left _ (by omega)
        have := HMM.out
        omega
      have HR2 := Lib.hid (HMT.out M2 hM2)
      have HN9 := Lib.hid (NodeW.below HZ.out.2 D9.out)
      clear hM2 HMT
      go_wp2_with fail
      refine (rRun_any w9 m2 C2 M2 _ _ univL _ L9.out (TagB.lt L9.out.tagC) (argp_lt6 O9.out) univL_valid HN9.out HZ.out.1 hM3).mono ?_
      rintro e w11 ⟨hb, hm⟩
      have B11 := Lib.hid (bstep B9.out hb); have F11 := Lib.hid (bstep F9.out hb); have N11 := Lib.hid (NodeW.below HN9.out hb)
      clear hb B9 D9 F9 L9 O9 HN9
      rcases HR2.out with ⟨v, k2, h1, h2, h3⟩ | ⟨hB, h1⟩
      · rw [h1] at hm
        obtain ⟨_, z, rfl, hz⟩ | ⟨h4, _⟩ := hm
        · rw [h3] at hz
          obtain ⟨Z, rfl⟩ := hz.one
          have HE := Lib.hid (HEQ.out w11 _ _ (NodeW.below HY.out F11.out) hz)
          clear h1 h2 h3 hz HEQ HR2 N11 F11
          go_wp2_with fail
          refine HE.out.mono ?_
          rintro e w12 ⟨rfl, hb⟩
          have B12 := Lib.hid (bstep B11.out hb)
          clear hb
          go_wp2_with fail
          refine (HAW.out _ B12.out).mono ?_
          rintro e w13 ⟨rfl, hb⟩
          have B13 := Lib.hid (bstep B12.out hb)
          clear hb
          go_wp2_with fail
          go_ret
          exact ⟨rfl, B13.out⟩
        · exact absurd h2 h4
      · rw [h1] at hm
        obtain rfl := hm
        obtain ⟨B3, o3, x3, y3, hI, ca, cb, cc, na, nb⟩ := N11.out
        obtain rfl := Option.some.inj (Value.pointer.inj hI)
        have cc3 : w11.cell? ⟨B3, o3 + 2, none⟩ = some (.int .i64 ((tx (.pair (lst (codeL ps)) t)).length : Nat)) := cc.2
        clear hI ca cb cc na nb h1 HEQ HR2 N11 F11 HZ HY
        generalize (tx (.pair (lst (codeL ps)) t)).length = L at cc3 hB
        by_cases hB1 : 200000 < L
        · have d1 : decide ((200000 : Int) < (L : Int)) = true := by rw [decide_eq_true_eq]; omega
          clear hB hB1
          go_wp2_with fail
          refine (HAW.out _ B11.out).mono ?_
          rintro e w13 ⟨rfl, hb⟩
          have B13 := Lib.hid (bstep B11.out hb)
          clear hb
          go_wp2_with fail
          go_ret
          exact ⟨rfl, B13.out⟩
        · have d1 : decide ((200000 : Int) < (L : Int)) = false := by rw [decide_eq_false_iff_not]; omega
          have d2 : decide ((200000 : Int) < (most : Int)) = true := by rw [decide_eq_true_eq]; omega
          clear hB hB1
          go_wp2_with fail
          refine (HAW.out _ B11.out).mono ?_
          rintro e w13 ⟨rfl, hb⟩
          have B13 := Lib.hid (bstep B11.out hb)
          clear hb
          go_wp2_with fail
          go_ret
          exact ⟨rfl, B13.out⟩
    · have hc1 : ((c6 : Int) != 0) = true := by rw [bne_iff_ne]; omega
      go_wp2_with fail
      refine (HVU.out _ _ O7.out).mono ?_
      rintro e w8 ⟨rfl, hb⟩
      have B8 := Lib.hid (bstep B7.out hb)
      clear hb
      go_wp2_with fail
      refine (HAW.out _ B8.out).mono ?_
      rintro e w9 ⟨rfl, hb⟩
      have B9 := Lib.hid (bstep B8.out hb)
      clear hb
      go_wp2_with fail
      go_ret
      exact ⟨rfl, B9.out⟩
set_option maxHeartbeats 1000000 in
set_option maxRecDepth 100000 in
/-- no program -/
theorem runs_no1 (w : World) (p : Value) (ps : List Ins) (x : ByteArray) (f : Int) (hE : TabE w) (hA : ArgP w p ps) (hv : ¬ PValid ps) (hl : ps.length ≤ 281474976710656) (hz : ∀ y ∈ ps, y.tree.length ≤ 281474976710656) :
    Calls Tryz.prog 7 #[p, .string x, .int .i64 f] w fun e w' => e = .returned (.bool true) ∧ Below w.heap.size w w' := by
  have HV := Lib.hid (PV_arg w p ps false hA hl hz (by simp [hv]))
  have HAW := Lib.hid (fun W (hb : Below w.heap.size w W) => awake6_any W (hE.below hb))
  obtain ⟨pa, pc, rfl⟩ := hA.form
  clear hE hA hv hl hz
  go_enter Tryz.func7, Tryz.ntmps7
  go_wp2_with fail
  refine HV.out.mono ?_
  rintro e w1 ⟨rfl, hb⟩
  have B1 := Lib.hid hb
  clear hb
  go_wp2_with fail
  refine (HAW.out _ B1.out).mono ?_
  rintro e w13 ⟨rfl, hb⟩
  have B13 := Lib.hid (bstep B1.out hb)
  clear hb
  go_wp2_with fail
  go_ret
  exact ⟨rfl, B13.out⟩
set_option maxHeartbeats 1000000 in
set_option maxRecDepth 100000 in
/-- no tree, or no steps to run -/
theorem runs_no2 (w : World) (p : Value) (ps : List Ins) (x : ByteArray) (f : Int) (b : Bool) (hE : TabE w) (hA : ArgP w p ps) (hv : PValid ps) (hl : ps.length ≤ 281474976710656) (hz : ∀ y ∈ ps, y.tree.length ≤ 281474976710656) (hxs : x.size ≤ 281474976710656) (hb : vld x.data.toList = b) (hno : b = false ∨ f < 0 ∨ 100000 < f) :
    Calls Tryz.prog 7 #[p, .string x, .int .i64 f] w fun e w' => e = .returned (.bool true) ∧ Below w.heap.size w w' := by
  have HV := Lib.hid (PV_arg w p ps true hA hl hz (by simp [hv]))
  have HVX := Lib.hid (fun W => rValid_any x W hxs)
  rw [hb] at HVX
  have HAW := Lib.hid (fun W (hb : Below w.heap.size w W) => awake6_any W (hE.below hb))
  obtain ⟨pa, pc, rfl⟩ := hA.form
  clear hE hA hv hl hz hxs hb
  cases b with
  | false =>
    clear hno
    go_enter Tryz.func7, Tryz.ntmps7
    go_wp2_with fail
    refine HV.out.mono ?_
    rintro e w1 ⟨rfl, hb⟩
    have B1 := Lib.hid hb
    clear hb
    go_wp2_with fail
    refine (HVX.out _).mono ?_
    rintro e w2 ⟨rfl, rfl⟩
    go_wp2_with fail
    refine (HAW.out _ B1.out).mono ?_
    rintro e w13 ⟨rfl, hb⟩
    have B13 := Lib.hid (bstep B1.out hb)
    clear hb
    go_wp2_with fail
    go_ret
    exact ⟨rfl, B13.out⟩
  | true =>
    by_cases h0 : f < 0
    · have d1 : decide (f < (0 : Int)) = true := by rw [decide_eq_true_eq]; omega
      clear hno h0
      go_enter Tryz.func7, Tryz.ntmps7
      go_wp2_with fail
      refine HV.out.mono ?_
      rintro e w1 ⟨rfl, hb⟩
      have B1 := Lib.hid hb
      clear hb
      go_wp2_with fail
      refine (HVX.out _).mono ?_
      rintro e w2 ⟨rfl, rfl⟩
      go_wp2_with fail
      refine (HAW.out _ B1.out).mono ?_
      rintro e w13 ⟨rfl, hb⟩
      have B13 := Lib.hid (bstep B1.out hb)
      clear hb
      go_wp2_with fail
      go_ret
      exact ⟨rfl, B13.out⟩
    · have h1 : 100000 < f := by
        rcases hno with h | h | h
        · cases h
        · exact absurd h h0
        · exact h
      have d1 : decide (f < (0 : Int)) = false := by rw [decide_eq_false_iff_not]; omega
      have d2 : decide ((100000 : Int) < f) = true := by rw [decide_eq_true_eq]; omega
      clear hno h0 h1
      go_enter Tryz.func7, Tryz.ntmps7
      go_wp2_with fail
      refine HV.out.mono ?_
      rintro e w1 ⟨rfl, hb⟩
      have B1 := Lib.hid hb
      clear hb
      go_wp2_with fail
      refine (HVX.out _).mono ?_
      rintro e w2 ⟨rfl, rfl⟩
      go_wp2_with fail
      refine (HAW.out _ B1.out).mono ?_
      rintro e w13 ⟨rfl, hb⟩
      have B13 := Lib.hid (bstep B1.out hb)
      clear hb
      go_wp2_with fail
      go_ret
      exact ⟨rfl, B13.out⟩
set_option maxHeartbeats 1000000 in
set_option maxRecDepth 100000 in
/-- too many steps -/
theorem runs_no3 (w : World) (p : Value) (ps : List Ins) (x : ByteArray) (K : Nat) (hE : TabE w) (hA : ArgP w p ps) (hv : PValid ps) (hl : ps.length ≤ 281474976710656) (hz : ∀ y ∈ ps, y.tree.length ≤ 281474976710656) (hx : vld x.data.toList = true) (hxs : x.size ≤ 281474976710656) (hK : K ≤ 100000) (hM : ¬ 100 * (ps.length + 40) * (K + 1) ≤ 10000000) :
    Calls Tryz.prog 7 #[p, .string x, .int .i64 (K : Int)] w fun e w' => e = .returned (.bool true) ∧ Below w.heap.size w w' := by
  have hlen : ps.length ≤ 4000 := hv.1
  have HV := Lib.hid (PV_arg w p ps true hA hl hz (by simp [hv]))
  have HVX := Lib.hid (fun W => rValid_any x W hxs)
  rw [hx] at HVX
  have HMO := Lib.hid (fun W => Most_any W ps.length K hlen hK)
  have HAW := Lib.hid (fun W (hb : Below w.heap.size w W) => awake6_any W (hE.below hb))
  have HMM := Lib.hid hM
  have hk1 : decide ((K : Int) < 0) = false := by rw [decide_eq_false_iff_not]; omega
  have hk2 : decide ((100000 : Int) < (K : Int)) = false := by rw [decide_eq_false_iff_not]; omega
  obtain ⟨pa, pc, rfl⟩ := hA.form
  clear hE hA hv hl hz hxs hM hx
  go_enter Tryz.func7, Tryz.ntmps7
  go_wp2_with fail
  refine HV.out.mono ?_
  rintro e w1 ⟨rfl, hb⟩
  have B1 := Lib.hid hb
  clear hb
  go_wp2_with fail
  refine (HVX.out _).mono ?_
  rintro e w2 ⟨rfl, rfl⟩
  go_wp2_with fail
  refine (HMO.out _).mono ?_
  rintro e w2 ⟨M, hM, rfl, rfl⟩
  have hm1 : decide ((10000000 : Int) < (M : Int)) = true := by rw [decide_eq_true_eq]; have := HMM.out; omega
  clear hM
  go_wp2_with fail
  refine (HAW.out _ B1.out).mono ?_
  rintro e w13 ⟨rfl, hb⟩
  have B13 := Lib.hid (bstep B1.out hb)
  clear hb
  go_wp2_with fail
  go_ret
  exact ⟨rfl, B13.out⟩
theorem UnivRuns_any (w : World) (p : Value) (ps : List Ins) (x : ByteArray) (f : Int) (hE : TabE w) (hA : ArgP w p ps) (hl : ps.length ≤ 281474976710656) (hz : ∀ y ∈ ps, y.tree.length ≤ 281474976710656) (hxs : x.size ≤ 281474976710656) :
    Calls Tryz.prog 7 #[p, .string x, .int .i64 f] w fun e w' => e = .returned (.bool true) ∧ Below w.heap.size w w' := by
  by_cases hv : PValid ps
  · cases hx : vld x.data.toList with
    | false => exact runs_no2 w p ps x f false hE hA hv hl hz hxs hx (.inl rfl)
    | true =>
      by_cases h0 : f < 0
      · exact runs_no2 w p ps x f true hE hA hv hl hz hxs hx (.inr (.inl h0))
      · by_cases h1 : 100000 < f
        · exact runs_no2 w p ps x f true hE hA hv hl hz hxs hx (.inr (.inr h1))
        · obtain ⟨K, rfl⟩ : ∃ K : Nat, f = (K : Int) := ⟨f.toNat, by omega⟩
          by_cases hM : 100 * (ps.length + 40) * (K + 1) ≤ 10000000
          · exact runs_main w p ps x K hE hA hv hl hz hx hxs (by omega) hM
          · exact runs_no3 w p ps x K hE hA hv hl hz hx hxs (by omega) hM
  · exact runs_no1 w p ps x f hE hA hv hl hz
end Go.Proofs.YtkpfocgcnehajabGreatDoor
