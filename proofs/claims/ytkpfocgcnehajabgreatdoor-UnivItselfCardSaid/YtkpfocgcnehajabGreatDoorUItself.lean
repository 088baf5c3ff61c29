/- UnivItself: its walk. By an AI agent. -/
import Derived.Test.YtkpfocgcnehajabGreatDoorURuns
import Derived.Test.YtkpfocgcnehajabGreatDoorRRun4
namespace Go.Proofs.YtkpfocgcnehajabGreatDoor
open Go.RowKit Go.Maps Pl

/-- what one needs of the program's run, with enough steps -/
theorem itself_math {ps : List Ins} {x : Tr} {n most K : Nat} {st : St} (hv : PValid ps) (hz : (tx (.pair (lst (codeL ps)) x)).length ≤ 2000000) (h : Steps ps (first x) n st) (he : st.at_ = ps.length) (hT : ∀ j s, j ≤ n → Steps ps (first x) j s → totT s.regs ≤ most) (hK : 7 + n * (5 * ps.length + 700) ≤ K) :
    (∃ v k, runTo univL K (first (.pair (lst (codeL ps)) x)) = some (v, k) ∧ v.at_ = univL.length ∧ v.reg 0 = st.reg 0) ∨ ((200000 < (tx (.pair (lst (codeL ps)) x)).length ∨ 200000 < most) ∧ runTo univL K (first (.pair (lst (codeL ps)) x)) = none) := by
  have hpl := tx_pair (lst (codeL ps)) x
  have hx : (tx x).length ≤ 2000000 := by omega
  have hB : ∀ m s, m ≤ n → Steps ps (first x) m s → Small (200000 < (tx (.pair (lst (codeL ps)) x)).length ∨ 200000 < most) ps s := fun m s hm hs hb => by
    have := hT m s hm hs
    exact ⟨by omega, by omega⟩
  obtain ⟨k, v, hk, hgo, hat, hr⟩ := univ_ends hv hx hz h he hB
  rcases hgo with h1 | ⟨hb, m, u, hm, h1, h2, h3⟩
  · exact .inl ⟨v, k, runTo_is h1 (by omega) (.inr hat), hat, hr⟩
  · exact .inr ⟨hb, runTo_large h1 (by omega) h2 h3⟩
set_option maxHeartbeats 6400000 in
set_option maxRecDepth 100000 in
theorem itself_main (w : World) (p : Value) (ps : List Ins) (x : ByteArray) (K : Nat) (hE : TabE w) (hA : ArgP w p ps) (hv : PValid ps) (hl : ps.length ≤ 281474976710656) (hz : ∀ y ∈ ps, y.tree.length ≤ 281474976710656) (hx : vld x.data.toList = true) (hxs : x.size ≤ 281474976710656) (hK : K ≤ 10000000) :
    Calls Tryz.prog 9 #[p, .string x, .int .i64 (K : Int)] w fun e w' => e = .returned (.bool true) ∧ Below w.heap.size w w' := by
  obtain ⟨K4, hmin, hK4⟩ : ∃ K4 : Nat, min (K : Int) 4000 = (K4 : Int) ∧ K4 ≤ 4000 := ⟨min K 4000, by omega, Nat.min_le_right _ _⟩
  have HV := Lib.hid (fun W (h : ArgP W p ps) => PV_arg W p ps true h hl hz (by simp [hv]))
  have HVX := Lib.hid (fun W => rValid_any x W hxs)
  rw [hx] at HVX
  have HR := Lib.hid (fun W => rRead_any x W hx)
  have htl : (tx (rd x.data.toList)).length ≤ 2000000 := by rw [tx_rd hx]; exact (vld_iff.1 hx).1
  generalize rd x.data.toList = t at *
  have HG := Lib.hid (fun W v (hA : ArgP W p ps) (hn : NodeW 72 W t v) => given_any W p v ps t hA hv hn htl)
  have HU := Lib.hid (fun W (hb : Below w.heap.size w W) => Universal_any W (hE.below hb))
  have HVU := Lib.hid (fun W v h => PV_arg W v univL true h (by rw [univL_len]; decide) (fun x hx => by have := PV_tree_le univL_valid hx; omega) (by simp [univL_valid]))
  have HLU := Lib.hid (fun W v (h : ArgP W v univL) => Load_new W v univL h univL_valid)
  have HAW := Lib.hid (fun W (hb : Below w.heap.size w W) => awake6_any W (hE.below hb))
  have HA := Lib.hid hA
  obtain ⟨pa, pc, rfl⟩ := hA.form
  have hk1 : decide ((K : Int) < 0) = false := by rw [decide_eq_false_iff_not]; omega
  have hk2 : decide ((10000000 : Int) < (K : Int)) = false := by rw [decide_eq_false_iff_not]; omega
  clear hE hA hv hl hz hx hxs htl
  go_enter Tryz.func9, Tryz.ntmps9
  go_wp2_with fail
  refine (HU.out _ (Below.refl _ _)).mono ?_
  rintro e w1 ⟨g, cap, rfl, ho, hb⟩
  have O1 := Lib.hid (own_argp ho); have B1 := Lib.hid hb
  clear ho hb HU
  go_wp2_with fail
  refine (HVU.out _ _ O1.out).mono ?_
  rintro e w2 ⟨rfl, hb⟩
  have B2 := Lib.hid (bstep B1.out hb); have O2 := Lib.hid (O1.out.below hb)
  clear hb B1 O1
  go_wp2_with fail
  refine (HV.out _ (HA.out.below B2.out)).mono ?_
  rintro e w3 ⟨rfl, hb⟩
  have B3 := Lib.hid (bstep B2.out hb); have O3 := Lib.hid (O2.out.below hb)
  clear hb B2 O2 HV
  go_wp2_with fail
  refine (HVX.out _).mono ?_
  rintro e w4 ⟨rfl, rfl⟩
  go_wp2_with fail
  refine (HR.out _).mono ?_
  rintro e w4 ⟨v4, rfl, h4, hb⟩
  have B4 := Lib.hid (bstep B3.out hb); have N4 := Lib.hid h4; have O4 := Lib.hid (O3.out.below hb)
  clear hb h4 B3 O3 HR HVX
  go_wp2_with fail
  refine (HG.out _ _ (HA.out.below B4.out) N4.out).mono ?_
  rintro e w5 ⟨hb, vi, rfl, hin⟩
  have B5 := Lib.hid (bstep B4.out hb); have HIN := Lib.hid hin; have O5 := Lib.hid (O4.out.below hb)
  obtain ⟨I, rfl⟩ : ∃ I, vi = .pointer I := by
    rcases hin with ⟨_, rfl⟩ | ⟨_, h⟩
    · exact ⟨_, rfl⟩
    · exact h.one
  clear hb hin N4 HG B4 O4
  generalize Tr.pair (lst (codeL ps)) t = T1 at *
  cases I with
  | none =>
    go_wp2_with fail
    refine (HAW.out _ B5.out).mono ?_
    rintro e w9 ⟨rfl, hb⟩
    have B9 := Lib.hid (bstep B5.out hb)
    clear hb
    go_wp2_with fail
    go_ret
    exact ⟨rfl, B9.out⟩
  | some I =>
    have hz : (tx T1).length ≤ 2000000 ∧ NodeW 72 w5 T1 (.pointer (some I)) := by
      rcases HIN.out with ⟨_, h⟩ | h
      · cases h
      · exact h
    have N5 := Lib.hid hz.2
    have HPK := Lib.hid (fun W m C v y (hL : RL W m C y univL) (hC : C < W.heap.size) (ho : ∀ k, 0 < univL.length → y.ownBlock = some k → k < W.heap.size) (hn : NodeW 72 W T1 v) => peak_any W m C K4 y v univL T1 hL hC ho univL_valid hn hz.1 (by omega))
    have HG2 := Lib.hid (fun W v y (hA : ArgP W y univL) (hn : NodeW 72 W T1 v) => given_any W y v univL T1 hA univL_valid hn hz.1)
    have HZ1 := Lib.hid hz.1
    clear HIN hz
    go_wp2_with fail
    refine (HLU.out _ _ O5.out).mono ?_
    rintro e w6 ⟨m, C, rfl, hL, hb, hC⟩
    have B6 := Lib.hid (bstep B5.out hb); have L6 := Lib.hid hL; have O6 := Lib.hid (O5.out.below hb); have N6 := Lib.hid (NodeW.below N5.out hb)
    clear hb hL hC B5 O5 N5
    go_wp2_with fail
    refine (HPK.out _ _ _ _ _ L6.out (TagB.lt L6.out.tagC) (argp_lt6 O6.out) N6.out).mono ?_
    rintro e w7 ⟨hb, most, hmost, hm⟩
    have B7 := Lib.hid (bstep B6.out hb); have O7 := Lib.hid (O6.out.below hb); have N7 := Lib.hid (NodeW.below N6.out hb)
    obtain ⟨Y, k7, c7, rfl, hcase⟩ : ∃ (Y : Option Addr) (k7 c7 : Nat), e = .returned (.tuple #[.pointer Y, .int .i64 (k7 : Int), .int .i64 (c7 : Int), .int .i64 (most : Int)]) ∧ ((c7 = 0 ∧ ∃ st, Steps univL (first T1) k7 st ∧ st.at_ = univL.length ∧ k7 ≤ K4 ∧ (∀ j s, j ≤ k7 → Steps univL (first T1) j s → totT s.regs ≤ most) ∧ NodeW 72 w7 (st.reg 0) (.pointer Y)) ∨ c7 = 3 ∨ c7 = 7) := by
      cases hr : runTo univL K4 (first T1) with
      | none =>
        rw [hr] at hm
        exact ⟨none, 0, 3, hm, .inr (.inl rfl)⟩
      | some r =>
        obtain ⟨st, n⟩ := r
        rw [hr] at hm
        obtain ⟨hst, hnk, _⟩ := runTo_some hr
        obtain ⟨hT, ⟨he, y, h1, h2⟩ | ⟨he, h1⟩⟩ := hm
        · obtain ⟨Y, rfl⟩ := h2.one
          exact ⟨Y, n, 0, h1, .inl ⟨rfl, st, hst, he, hnk, hT, h2⟩⟩
        · exact ⟨none, 0, 7, h1, .inr (.inr rfl)⟩
    have HCS := Lib.hid hcase
    have hc7 : c7 ≤ 7 := by omega
    clear hm hb hcase HPK L6 N6 B6 O6
    go_wp2_with fail
    refine (HG2.out _ _ _ O7.out N7.out).mono ?_
    rintro e w8 ⟨hb, vi2, rfl, hin⟩
    have B8 := Lib.hid (bstep B7.out hb); have HIN := Lib.hid hin; have O8 := Lib.hid (O7.out.below hb); have F8 := Lib.hid hb
    obtain ⟨I2, rfl⟩ : ∃ I, vi2 = .pointer I := by
      rcases hin with ⟨_, rfl⟩ | ⟨_, h⟩
      · exact ⟨_, rfl⟩
      · exact h.one
    clear hb hin N7 HG2 B7 O7
    by_cases hc0 : c7 = 0
    · subst hc0
      cases I2 with
      | none =>
        go_wp2_with fail
        refine (HAW.out _ B8.out).mono ?_
        rintro e w9 ⟨rfl, hb⟩
        have B9 := Lib.hid (bstep B8.out hb)
        clear hb
        go_wp2_with fail
        go_ret
        exact ⟨rfl, B9.out⟩
      | some I2 =>
        obtain ⟨st, hst, hat, hk7, hT, hY⟩ : ∃ st, Steps univL (first T1) k7 st ∧ st.at_ = univL.length ∧ k7 ≤ K4 ∧ (∀ j s, j ≤ k7 → Steps univL (first T1) j s → totT s.regs ≤ most) ∧ NodeW 72 w7 (st.reg 0) (.pointer Y) := by
          rcases HCS.out with ⟨_, h⟩ | h | h
          · exact h
          · exact absurd h (by decide)
          · exact absurd h (by decide)
        have hz : (tx (.pair (lst (codeL univL)) T1)).length ≤ 2000000 ∧ NodeW 72 w8 (.pair (lst (codeL univL)) T1) (.pointer (some I2)) := by
          rcases HIN.out with ⟨_, h⟩ | h
          · cases h
          · exact h
        have HZ := Lib.hid hz; have HY := Lib.hid hY
        have hkk : 7 + k7 * (5 * univL.length + 700) ≤ 40000000 := by rw [univL_len]; omega
        have HR2 := Lib.hid (itself_math univL_valid HZ.out.1 hst hat hT hkk)
        have hok := hst.ok univL_valid (first_ok _ HZ1.out)
        have hr0 : (tx (st.reg 0)).length ≤ 2000000 := hok.2.2 _ (by
          have hl : 0 < st.regs.length := by rw [hok.2.1]; decide
          show st.regs[(0 : Int).toNat]?.getD .nil ∈ st.regs
          rw [show (0 : Int).toNat = 0 from rfl, List.getElem?_eq_getElem hl]
          exact List.getElem_mem hl)
        have HEQ := Lib.hid (fun W X Z (h1 : NodeW 72 W (st.reg 0) X) (h2 : NodeW 72 W (st.reg 0) Z) => rEqual_same W (st.reg 0) X Z h1 h2 hr0)
        clear hst hat hT hY hz hok HIN HCS hkk
        go_wp2_with fail
        refine (HLU.out _ _ O8.out).mono ?_
        rintro e w9 ⟨m2, C2, rfl, hL, hb, hC2⟩
        have B9 := Lib.hid (bstep B8.out hb); have F9 := Lib.hid (bstep F8.out hb); have L9 := Lib.hid hL
        have O9 := Lib.hid (O8.out.below hb)
        have HN9 := Lib.hid (NodeW.below HZ.out.2 hb)
        clear hb hL hC2 B8 F8 O8 HLU
        go_wp2_with fail
        have hrun := rRun_far w9 m2 C2 40000000 _ _ univL _ L9.out (TagB.lt L9.out.tagC) (argp_lt6 O9.out) univL_valid HN9.out HZ.out.1 (Nat.le_refl _)
        refine hrun.mono ?_
        rintro e w11 ⟨hb, hm⟩
        have B11 := Lib.hid (bstep B9.out hb); have F11 := Lib.hid (bstep F9.out hb); have N11 := Lib.hid (NodeW.below HN9.out hb)
        clear hb B9 F9 L9 O9 HN9 hrun
        rcases HR2.out with ⟨v, k2, h1, h2, h3⟩ | ⟨hB, h1⟩
        · rw [h1] at hm
          obtain ⟨_, z, rfl, hz⟩ | ⟨h4, _⟩ := hm
          · rw [h3] at hz
            obtain ⟨Z, rfl⟩ := hz.one
            have HE := Lib.hid (HEQ.out w11 _ _ (NodeW.below HY.out F11.out) hz)
            clear h1 h2 h3 hz HEQ HR2 N11 F11
            go_wp2_with fail
            refine HE.out.mono ?_
            rintro e w12 ⟨rfl, hb⟩
            have B12 := Lib.hid (bstep B11.out hb)
            clear hb
            go_wp2_with fail
            refine (HAW.out _ B12.out).mono ?_
            rintro e w13 ⟨rfl, hb⟩
            have B13 := Lib.hid (bstep B12.out hb)
            clear hb
            go_wp2_with fail
            go_ret
            exact ⟨rfl, B13.out⟩
          · exact absurd h2 h4
        · rw [h1] at hm
          obtain rfl := hm
          obtain ⟨B3, o3, x3, y3, hI, ca, cb, cc, na, nb⟩ := N11.out
          obtain rfl := Option.some.inj (Value.pointer.inj hI)
          have cc3 : w11.cell? ⟨B3, o3 + 2, none⟩ = some (.int .i64 ((tx (.pair (lst (codeL univL)) T1)).length : Nat)) := cc.2
          clear hI ca cb cc na nb h1 HEQ HR2 N11 F11 HZ HY
          generalize (tx (.pair (lst (codeL univL)) T1)).length = L at cc3 hB
          by_cases hB1 : 200000 < L
          · have d1 : decide ((200000 : Int) < (L : Int)) = true := by rw [decide_eq_true_eq]; omega
            clear hB hB1
            go_wp2_with fail
            refine (HAW.out _ B11.out).mono ?_
            rintro e w13 ⟨rfl, hb⟩
            have B13 := Lib.hid (bstep B11.out hb)
            clear hb
            go_wp2_with fail
            go_ret
            exact ⟨rfl, B13.out⟩
          · have d1 : decide ((200000 : Int) < (L : Int)) = false := by rw [decide_eq_false_iff_not]; omega
            have d2 : decide ((200000 : Int) < (most : Int)) = true := by rw [decide_eq_true_eq]; omega
            clear hB hB1
            go_wp2_with fail
            refine (HAW.out _ B11.out).mono ?_
            rintro e w13 ⟨rfl, hb⟩
            have B13 := Lib.hid (bstep B11.out hb)
            clear hb
            go_wp2_with fail
            go_ret
            exact ⟨rfl, B13.out⟩
    · have hc1 : ((c7 : Int) != 0) = true := by rw [bne_iff_ne]; omega
      go_wp2_with fail
      refine (HAW.out _ B8.out).mono ?_
      rintro e w9 ⟨rfl, hb⟩
      have B9 := Lib.hid (bstep B8.out hb)
      clear hb
      go_wp2_with fail
      go_ret
      exact ⟨rfl, B9.out⟩
set_option maxHeartbeats 1000000 in
set_option maxRecDepth 100000 in
/-- no program -/
theorem itself_no1 (w : World) (p : Value) (ps : List Ins) (x : ByteArray) (f : Int) (hE : TabE w) (hA : ArgP w p ps) (hv : ¬ PValid ps) (hl : ps.length ≤ 281474976710656) (hz : ∀ y ∈ ps, y.tree.length ≤ 281474976710656) :
    Calls Tryz.prog 9 #[p, .string x, .int .i64 f] w fun e w' => e = .returned (.bool true) ∧ Below w.heap.size w w' := by
  have HV := Lib.hid (fun W (h : ArgP W p ps) => PV_arg W p ps false h hl hz (by simp [hv]))
  have HU := Lib.hid (fun W (hb : Below w.heap.size w W) => Universal_any W (hE.below hb))
  have HVU := Lib.hid (fun W v h => PV_arg W v univL true h (by rw [univL_len]; decide) (fun x hx => by have := PV_tree_le univL_valid hx; omega) (by simp [univL_valid]))
  have HAW := Lib.hid (fun W (hb : Below w.heap.size w W) => awake6_any W (hE.below hb))
  have HA := Lib.hid hA
  obtain ⟨pa, pc, rfl⟩ := hA.form
  clear hE hA hv hl hz
  go_enter Tryz.func9, Tryz.ntmps9
  go_wp2_with fail
  refine (HU.out _ (Below.refl _ _)).mono ?_
  rintro e w1 ⟨g, cap, rfl, ho, hb⟩
  have O1 := Lib.hid (own_argp ho); have B1 := Lib.hid hb
  clear ho hb HU
  go_wp2_with fail
  refine (HVU.out _ _ O1.out).mono ?_
  rintro e w2 ⟨rfl, hb⟩
  have B2 := Lib.hid (bstep B1.out hb)
  clear hb B1 O1
  go_wp2_with fail
  refine (HV.out _ (HA.out.below B2.out)).mono ?_
  rintro e w3 ⟨rfl, hb⟩
  have B3 := Lib.hid (bstep B2.out hb)
  clear hb B2 HV
  go_wp2_with fail
  refine (HAW.out _ B3.out).mono ?_
  rintro e w13 ⟨rfl, hb⟩
  have B13 := Lib.hid (bstep B3.out hb)
  clear hb
  go_wp2_with fail
  go_ret
  exact ⟨rfl, B13.out⟩
set_option maxHeartbeats 1000000 in
set_option maxRecDepth 100000 in
/-- no tree, or no steps to run -/
theorem itself_no2 (w : World) (p : Value) (ps : List Ins) (x : ByteArray) (f : Int) (b : Bool) (hE : TabE w) (hA : ArgP w p ps) (hv : PValid ps) (hl : ps.length ≤ 281474976710656) (hz : ∀ y ∈ ps, y.tree.length ≤ 281474976710656) (hxs : x.size ≤ 281474976710656) (hb : vld x.data.toList = b) (hno : b = false ∨ f < 0 ∨ 10000000 < f) :
    Calls Tryz.prog 9 #[p, .string x, .int .i64 f] w fun e w' => e = .returned (.bool true) ∧ Below w.heap.size w w' := by
  have HV := Lib.hid (fun W (h : ArgP W p ps) => PV_arg W p ps true h hl hz (by simp [hv]))
  have HVX := Lib.hid (fun W => rValid_any x W hxs)
  rw [hb] at HVX
  have HU := Lib.hid (fun W (hb : Below w.heap.size w W) => Universal_any W (hE.below hb))
  have HVU := Lib.hid (fun W v h => PV_arg W v univL true h (by rw [univL_len]; decide) (fun x hx => by have := PV_tree_le univL_valid hx; omega) (by simp [univL_valid]))
  have HAW := Lib.hid (fun W (hb : Below w.heap.size w W) => awake6_any W (hE.below hb))
  have HA := Lib.hid hA
  obtain ⟨pa, pc, rfl⟩ := hA.form
  clear hE hA hv hl hz hxs hb
  cases b with
  | false =>
    clear hno
    go_enter Tryz.func9, Tryz.ntmps9
    go_wp2_with fail
    refine (HU.out _ (Below.refl _ _)).mono ?_
    rintro e w1 ⟨g, cap, rfl, ho, hb⟩
    have O1 := Lib.hid (own_argp ho); have B1 := Lib.hid hb
    clear ho hb HU
    go_wp2_with fail
    refine (HVU.out _ _ O1.out).mono ?_
    rintro e w2 ⟨rfl, hb⟩
    have B2 := Lib.hid (bstep B1.out hb)
    clear hb B1 O1
    go_wp2_with fail
    refine (HV.out _ (HA.out.below B2.out)).mono ?_
    rintro e w3 ⟨rfl, hb⟩
    have B3 := Lib.hid (bstep B2.out hb)
    clear hb B2 HV
    go_wp2_with fail
    refine (HVX.out _).mono ?_
    rintro e w4 ⟨rfl, rfl⟩
    go_wp2_with fail
    refine (HAW.out _ B3.out).mono ?_
    rintro e w13 ⟨rfl, hb⟩
    have B13 := Lib.hid (bstep B3.out hb)
    clear hb
    go_wp2_with fail
    go_ret
    exact ⟨rfl, B13.out⟩
  | true =>
    by_cases h0 : f < 0
    · have d1 : decide (f < (0 : Int)) = true := by rw [decide_eq_true_eq]; omega
      clear hno h0
      go_enter Tryz.func9, Tryz.ntmps9
      go_wp2_with fail
      refine (HU.out _ (Below.refl _ _)).mono ?_
      rintro e w1 ⟨g, cap, rfl, ho, hb⟩
      have O1 := Lib.hid (own_argp ho); have B1 := Lib.hid hb
      clear ho hb HU
      go_wp2_with fail
      refine (HVU.out _ _ O1.out).mono ?_
      rintro e w2 ⟨rfl, hb⟩
      have B2 := Lib.hid (bstep B1.out hb)
      clear hb B1 O1
      go_wp2_with fail
      refine (HV.out _ (HA.out.below B2.out)).mono ?_
      rintro e w3 ⟨rfl, hb⟩
      have B3 := Lib.hid (bstep B2.out hb)
      clear hb B2 HV
      go_wp2_with fail
      refine (HVX.out _).mono ?_
      rintro e w4 ⟨rfl, rfl⟩
      go_wp2_with fail
      refine (HAW.out _ B3.out).mono ?_
      rintro e w13 ⟨rfl, hb⟩
      have B13 := Lib.hid (bstep B3.out hb)
      clear hb
      go_wp2_with fail
      go_ret
      exact ⟨rfl, B13.out⟩
    · have h1 : 10000000 < f := by
        rcases hno with h | h | h
        · cases h
        · exact absurd h h0
        · exact h
      have d1 : decide (f < (0 : Int)) = false := by rw [decide_eq_false_iff_not]; omega
      have d2 : decide ((10000000 : Int) < f) = true := by rw [decide_eq_true_eq]; omega
      clear hno h0 h1
      go_enter Tryz.func9, Tryz.ntmps9
      go_wp2_with fail
      refine (HU.out _ (Below.refl _ _)).mono ?_
      rintro e w1 ⟨g, cap, rfl, ho, hb⟩
      have O1 := Lib.hid (own_argp ho); have B1 := Lib.hid hb
      clear ho hb HU
      go_wp2_with fail
      refine (HVU.out _ _ O1.out).mono ?_
      rintro e w2 ⟨rfl, hb⟩
      have B2 := Lib.hid (bstep B1.out hb)
      clear hb B1 O1
      go_wp2_with fail
      refine (HV.out _ (HA.out.below B2.out)).mono ?_
      rintro e w3 ⟨rfl, hb⟩
      have B3 := Lib.hid (bstep B2.out hb)
      clear hb B2 HV
      go_wp2_with fail
      refine (HVX.out _).mono ?_
      rintro e w4 ⟨rfl, rfl⟩
      go_wp2_with fail
      refine (HAW.out _ B3.out).mono ?_
      rintro e w13 ⟨rfl, hb⟩
      have B13 := Lib.hid (bstep B3.out hb)
      clear hb
      go_wp2_with fail
      go_ret
      exact ⟨rfl, B13.out⟩
theorem UnivItself_any (w : World) (p : Value) (ps : List Ins) (x : ByteArray) (f : Int) (hE : TabE w) (hA : ArgP w p ps) (hl : ps.length ≤ 281474976710656) (hz : ∀ y ∈ ps, y.tree.length ≤ 281474976710656) (hxs : x.size ≤ 281474976710656) :
    Calls Tryz.prog 9 #[p, .string x, .int .i64 f] w fun e w' => e = .returned (.bool true) ∧ Below w.heap.size w w' := by
  by_cases hv : PValid ps
  · cases hx : vld x.data.toList with
    | false => exact itself_no2 w p ps x f false hE hA hv hl hz hxs hx (.inl rfl)
    | true =>
      by_cases h0 : f < 0
      · exact itself_no2 w p ps x f true hE hA hv hl hz hxs hx (.inr (.inl h0))
      · by_cases h1 : 10000000 < f
        · exact itself_no2 w p ps x f true hE hA hv hl hz hxs hx (.inr (.inr h1))
        · obtain ⟨K, rfl⟩ : ∃ K : Nat, f = (K : Int) := ⟨f.toNat, by omega⟩
          exact itself_main w p ps x K hE hA hv hl hz hx hxs (by omega)
  · exact itself_no1 w p ps x f hE hA hv hl hz
end Go.Proofs.YtkpfocgcnehajabGreatDoor
