/- The statement TopLooped, walked. By an AI agent. -/
import Derived.Test.YtmhoacnbmbhcjabTopP
namespace Go.Proofs.Ytmhoacnbmbhcjab
open Go.RowKit Pl

theorem trees_clean (m : Nat) : trees (cleanL m) = m - 1 := by
  unfold trees cleanL
  rw [List.map_map]
  have : ∀ l : List Nat, (l.map ((fun x : Ins => x.tree.length) ∘ fun i : Nat => setI ((i : Int) + 1) [48])).sum = l.length := by
    intro l
    induction l with
    | nil => rfl
    | cons a l ih => rw [List.map_cons, List.sum_cons, ih, List.length_cons]; simp [setI]; omega
  rw [this, List.length_range]
theorem behind_small {p : List Ins} (h : GoodP p 60 2000 ∧ rn p ≤ 28) : (behind p).length ≤ 87 ∧ trees (behind p) ≤ 2027 := by
  obtain ⟨⟨h1, h2, _⟩, h3⟩ := h
  unfold behind
  rw [List.length_append, cleanL_len, trees_app, trees_clean]
  omega
theorem trees_nil : trees [] = 0 := rfl
theorem trees_cons (x : Ins) (l : List Ins) : trees (x :: l) = x.tree.length + trees l := by simp [trees]
theorem small_len (p : List Ins) (h : GoodP p 60 2000 ∧ rn p ≤ 28) : p.length ≤ 60 ∧ trees p ≤ 2000 := ⟨h.1.1, h.1.2.1⟩
theorem fits_while {c p : List Ins} (hc : GoodP c 60 2000 ∧ rn c ≤ 28) (hp : GoodP p 60 2000 ∧ rn p ≤ 28) : FitsP (whileL c p) := by
  have h1 := behind_small hc
  have h2 := behind_small hp
  unfold FitsP whileL
  simp only [List.length_append, List.length_cons, List.length_nil, trees_app, trees_cons, trees_nil, moveI, jumpI, setI]
  omega
theorem due_zero' {l : List (List Ins)} {cs : List Ins} (h : FewP l) (hf : FitsP cs) : dueP l cs = 0 := by
  unfold dueP
  rw [if_neg (by rintro ⟨p, hp, hn⟩; exact hn (good_valid (h p hp).1 (by omega) (by omega))), if_neg (by rintro ⟨p, hp, hn⟩; have := (h p hp).2; omega), if_pos hf]
theorem few_size {p : List Ins} (h : GoodP p 60 2000 ∧ rn p ≤ 28) : SizeP p := ⟨by have := h.1.1; omega, pvalid_trees (good_valid h.1 (by omega) (by omega))⟩
/-- the run has come to the loop's beginning -/
def LoopAt (c p : List Ins) (x : Tr) (N : Nat) (y : Tr) : Prop := ∃ s, Steps (whileL c p) (first x) N s ∧ At 0 s ∧ s.regs[0]? = some y
set_option maxHeartbeats 6400000 in
set_option maxRecDepth 100000 in
theorem looped_in (w : World) (vc vp : Value) (d : List UInt8) (c p : List Ins) (hc : ArgP w vc c) (hp : ArgP w vp p) (fc : GoodP c 60 2000 ∧ rn c ≤ 28) (fp : GoodP p 60 2000 ∧ rn p ≤ 28) (x : Tr) (hd : tx x = d) (hdl : d.length ≤ 2000) :
    Calls Try.prog 11 #[vc, vp, .string (S d)] w fun e w' => e = .returned (.bool true) ∧ Below w.heap.size w w' := by
  have hvc := good_valid fc.1 (by omega) (by omega)
  have hvp := good_valid fp.1 (by omega) (by omega)
  have hfew : FewP [c, p] := by intro q hq; simp only [List.mem_cons, List.not_mem_nil, or_false] at hq; rcases hq with rfl | rfl; exact fc; exact fp
  have HG := Lib.hid (fun W => grow_any d 2000 W hdl (by omega))
  have HFW := Lib.hid (fun W b cap h => few_any W b 0 cap [c, p] true h (by simp) (by intro q hq; simp only [List.mem_cons, List.not_mem_nil, or_false] at hq; rcases hq with rfl | rfl; exact few_size fc; exact few_size fp) (by simp [hfew]))
  have HTC := Lib.hid (fun W h => ttwin_arg W vc c h (by have := fc.1.1; omega))
  have HTP := Lib.hid (fun W h => ttwin_arg W vp p h (by have := fp.1.1; omega))
  have HWH := Lib.hid (fun W uc up h1 h2 => While_any W uc up c p h1 h2 (few_size fc) (few_size fp))
  rw [due_zero' hfew (fits_while fc fp)] at HWH
  have hvw : PValid (whileL c p) := (fits_valid (allR_while hvc hvp fc.2 fp.2)).2 (fits_while fc fp)
  have hxl : (tx x).length ≤ 2000000 := by rw [hd]; omega
  have HPC := Lib.hid (fun W y Y h hy hl => play_any W vc 300 c y Y h hvc hy hl (by omega))
  have HPP := Lib.hid (fun W y Y h hy hl => play_any W vp 300 p y Y h hvp hy hl (by omega))
  have HRC := Lib.hid (fun W h => tregs_arg W vc c h hvc)
  have HRP := Lib.hid (fun W h => tregs_arg W vp p h hvp)
  rw [← rn_eq] at HRC HRP
  have HLA := Lib.hid (fun W v X h hx ho => lasts_ok W v 300 (whileL c p) x X h hvw hx hxl (by omega) ho)
  have HRE := Lib.hid (fun W v K y X Y h hx hy hK ho => returns_ok W v K (whileL c p) x y X Y h hvw hx hy hxl hK ho)
  have HWM := Lib.hid (fun W v h => whole_arg W v (whileL c p) true h (pvalid_trees hvw) (by simp [hvw]))
  have HMA := Lib.hid (fun (s : St) (N : Nat) (y : Tr) (hy : (tx y).length ≤ 2000000) (hs : Steps (whileL c p) (first x) N s) (ha : At 0 s) (hr : s.regs[0]? = some y) => while_all hvc hvp fc.2 fp.2 hy hs ha hr)
  have hrc : (rn c : Int) ≤ 28 := by have := fc.2; omega
  have hrp : (rn p : Int) ≤ 28 := by have := fp.2; omega
  have hrc0 : (0 : Int) ≤ (rn c : Int) := by omega
  have hrp0 : (0 : Int) ≤ (rn p : Int) := by omega
  have HAC := Lib.hid hc; have HAP := Lib.hid hp; have HD := Lib.hid hd
  have HL0 : Hid (LoopAt c p x 0 x) := Lib.hid ⟨first x, .zero, ⟨rfl, by simp [first]⟩, rfl⟩
  have HXL := Lib.hid hxl
  obtain ⟨ac, cc, rfl⟩ := hc.form
  obtain ⟨ap, cp, rfl⟩ := hp.form
  clear hc hp fc fp hd hdl hvc hvp hfew hvw hxl
  generalize c.length = lc at *
  generalize p.length = lp at *
  generalize rn c = rc at *
  generalize rn p = rp at *
  go_enter Try.func11, Try.ntmps11
  go_wp2_with fail
  refine (HG.out _).mono ?_
  rintro e w1 ⟨h1, ⟨t1, v1, ht1, rfl, hn1⟩ | ⟨hno, _⟩⟩
  rotate_left
  · exact absurd ⟨x, HD.out⟩ hno
  obtain rfl : t1 = x := tx_inj (by rw [ht1, HD.out])
  obtain ⟨X, rfl⟩ := hn1.one
  have NX1 := Lib.hid hn1; have B1 := Lib.hid h1
  clear hn1 h1 ht1
  have L2 := Lib.hid (lit_pieces w1 [.slice ac lc cc, .slice ap lp cp] [c, p] ⟨HAC.out.below B1.out, HAP.out.below B1.out, trivial⟩)
  have B2 := Lib.hid (bstep B1.out (alloc_below w1 (.cells #[.slice ac lc cc, .slice ap lp cp] 23)))
  have NX2 := Lib.hid (NodeW.below NX1.out (alloc_below w1 (.cells #[.slice ac lc cc, .slice ap lp cp] 23)))
  go_wp2_with fail
  refine (HFW.out _ _ 2 L2.out).mono ?_
  rintro e w3 ⟨rfl, h3⟩
  have B3 := Lib.hid (bstep B2.out h3); have NX3 := Lib.hid (NodeW.below NX2.out h3)
  clear h3 L2
  go_wp2_with fail
  refine (HTC.out _ (HAC.out.below B3.out)).mono ?_
  rintro e w4 ⟨v4, rfl, ha4, h4⟩
  have B4 := Lib.hid (bstep B3.out h4); have NX4 := Lib.hid (NodeW.below NX3.out h4); have A4 := Lib.hid ha4
  clear h4 ha4
  go_wp2_with fail
  refine (HTP.out _ (HAP.out.below B4.out)).mono ?_
  rintro e w5 ⟨v5, rfl, ha5, h5⟩
  have B5 := Lib.hid (bstep B4.out h5); have NX5 := Lib.hid (NodeW.below NX4.out h5); have A5 := Lib.hid ha5; have A45 := Lib.hid (A4.out.below h5)
  clear h5 ha5
  go_wp2_with fail
  refine (HWH.out _ _ _ A45.out A5.out).mono ?_
  rintro e w6 ⟨h6, ⟨_, v6, rfl, ha6⟩ | ⟨h0, _⟩⟩
  rotate_left
  · exact absurd rfl h0
  have B6 := Lib.hid (bstep B5.out h6); have NX6 := Lib.hid (NodeW.below NX5.out h6); have A6 := Lib.hid ha6
  clear h6 ha6
  go_wp2_with fail
  go_loopw [11, 12, 13] (fun sn sy si wr => ∃ (i N : Nat) (y : Tr) (Y : Option Addr), i ≤ 20 ∧ sn = .int .i64 (N : Int) ∧ sy = .pointer Y ∧ si = .int .i64 (i : Int) ∧ N ≤ 1000 * i ∧ Hid (LoopAt c p t1 N y) ∧ Hid ((tx y).length ≤ 2000000) ∧ Hid (NodeW 106 wr y (.pointer Y)) ∧ Hid (Below w6.heap.size w6 wr)) (fun _ _ si _ => 20 - (intOf si).toNat)
  case atStart => exact ⟨0, 0, t1, X, by omega, rfl, rfl, rfl, by omega, HL0, HXL, NX6, Lib.hid (Below.refl _ _)⟩
  case round =>
    obtain ⟨i, N, y, Y, hi, rfl, rfl, rfl, hN, HLO, HYL, HNY, HB⟩ := hrel
    have HBW : Hid (Below w.heap.size w wr) := Lib.hid (bstep B6.out HB.out)
    have HNX := Lib.hid (NodeW.below NX6.out HB.out)
    have HAW := Lib.hid (A6.out.below HB.out)
    by_cases hlt : i < 20
    · have hi1 : (i : Int) < 20 := by omega
      have hN1 : (N : Int) ≤ 20000 := by omega
      have hN0 : (0 : Int) ≤ (N : Int) := by omega
      go_wp2_with fail
      refine (HPC.out _ y Y (HAC.out.below HBW.out) HNY.out HYL.out).mono ?_
      rintro e u1 ⟨k1, ⟨z, n, Z, hz, hn, hzl, rfl, hZ⟩ | ⟨hz, rfl⟩ | ⟨n, hz, hn, rfl⟩⟩
      · have C1 := Lib.hid (bstep HBW.out k1); have NX1 := Lib.hid (NodeW.below HNX.out k1); have NY1 := Lib.hid (NodeW.below HNY.out k1); have AW1 := Lib.hid (HAW.out.below k1)
        have NZ := Lib.hid hZ; have HZ := Lib.hid hz
        have hn1 : (n : Int) ≤ 300 := by omega
        have hn0 : (0 : Int) ≤ (n : Int) := by omega
        have HB1 := Lib.hid (HB.out.trans (k1.mono HB.out.size))
        clear k1 hZ hz hzl
        go_wp2_with fail
        refine (HRC.out _ (HAC.out.below C1.out)).mono ?_
        rintro e u2 ⟨rfl, k2⟩
        have C2 := Lib.hid (bstep C1.out k2); have NX2 := Lib.hid (NodeW.below NX1.out k2); have NY2 := Lib.hid (NodeW.below NY1.out k2); have AW2 := Lib.hid (AW1.out.below k2)
        have HB2 := Lib.hid (HB1.out.trans (k2.mono HB1.out.size))
        clear k2
        cases z with
        | nil =>
          obtain rfl : Z = none := by have h9 : Value.pointer Z = .pointer none := NZ.out; injection h9
          have HO : Hid (out (whileL c p) (N + n + rc + 4) (first t1) = .ok y (N + n + rc + 4)) := Lib.hid (by
            obtain ⟨s, g1, g2, g3⟩ := HLO.out
            exact ((HMA.out _ _ _ HYL.out g1 g2 g3).2 _ _ _ HZ.out).1 rfl)
          have hcast : ((N + n + rc + 4 : Nat) : Int) = (N : Int) + ((n : Int) + (rc : Int) + 1) + 3 := by omega
          have HCAST := Lib.hid hcast
          clear hcast
          have HRE2 := Lib.hid (HRE.out u2 v6 (N + n + rc + 4) y X Y AW2.out NX2.out NY2.out (by omega) HO.out)
          rw [HCAST.out] at HRE2
          go_wp2_with fail
          refine HRE2.out.mono ?_
          rintro e u3 ⟨rfl, k3⟩
          have C3 := Lib.hid (bstep C2.out k3)
          clear k3
          go_wp2_with fail
          refine (composes_any _).mono ?_
          rintro e u4 ⟨rfl, k4⟩
          have C4 := Lib.hid (bstep C3.out k4)
          clear k4
          go_wp2_with fail
          go_ret
          exact ⟨rfl, C4.out⟩
        | pair za zb =>
          obtain ⟨nB, no, xa, xb, hZp, _⟩ := NZ.out
          injection hZp with hZp
          subst hZp
          go_wp2_with fail
          refine (HPP.out _ y Y (HAP.out.below C2.out) NY2.out HYL.out).mono ?_
          rintro e u3 ⟨k3, ⟨z2, n2, Z2, hz2, hn2, hzl2, rfl, hZ2⟩ | ⟨hz2, rfl⟩ | ⟨n2, hz2, hn2, rfl⟩⟩
          · have C3 := Lib.hid (bstep C2.out k3)
            have NZ2 := Lib.hid hZ2
            have hn21 : (n2 : Int) ≤ 300 := by omega
            have hn20 : (0 : Int) ≤ (n2 : Int) := by omega
            have HB3 := Lib.hid (HB2.out.trans (k3.mono HB2.out.size))
            have HNEXT : Hid (LoopAt c p t1 (N + n + rc + 1 + n2 + rp + 2) z2) := Lib.hid (by
              obtain ⟨s, g1, g2, g3⟩ := HLO.out
              obtain ⟨_, s', r1, r2, r3⟩ := (((HMA.out _ _ _ HYL.out g1 g2 g3).2 _ _ _ HZ.out).2 (by simp)).2 _ _ _ hz2
              exact ⟨s', r1, r2, r3⟩)
            have HZL2 := Lib.hid hzl2
            clear k3 hZ2 hz2 hzl2
            go_wp2_with fail
            refine (HRP.out _ (HAP.out.below C3.out)).mono ?_
            rintro e u4 ⟨rfl, k4⟩
            have NZ4 := Lib.hid (NodeW.below NZ2.out k4)
            have HB4 := Lib.hid (HB3.out.trans (k4.mono HB3.out.size))
            clear k4
            go_wp2_with fail
            go_roundw
            case rel => exact ⟨i + 1, N + n + rc + 1 + n2 + rp + 2, z2, Z2, by omega, int_eq (by omega), rfl, by go_num, by omega, HNEXT, HZL2, NZ4, HB4⟩
            case measure => simp [intOf]; omega
          · have C3 := Lib.hid (bstep C2.out k3); have NX3 := Lib.hid (NodeW.below NX2.out k3); have AW3 := Lib.hid (AW2.out.below k3)
            have HO : Hid (out (whileL c p) 300 (first t1) = .fuel) := Lib.hid (by
              obtain ⟨s, g1, g2, g3⟩ := HLO.out
              exact (((HMA.out _ _ _ HYL.out g1 g2 g3).2 _ _ _ HZ.out).2 (by simp)).1 _ hz2 _ (by omega))
            clear k3 hz2
            go_wp2_with fail
            refine (HLA.out _ _ _ AW3.out NX3.out HO.out).mono ?_
            rintro e u4 ⟨rfl, k4⟩
            have C4 := Lib.hid (bstep C3.out k4)
            clear k4
            go_wp2_with fail
            refine (composes_any _).mono ?_
            rintro e u5 ⟨rfl, k5⟩
            have C5 := Lib.hid (bstep C4.out k5)
            clear k5
            go_wp2_with fail
            go_ret
            exact ⟨rfl, C5.out⟩
          · have C3 := Lib.hid (bstep C2.out k3)
            clear k3 hz2
            go_wp2_with fail
            refine (composes_any _).mono ?_
            rintro e u5 ⟨rfl, k5⟩
            have C5 := Lib.hid (bstep C3.out k5)
            clear k5
            go_wp2_with fail
            go_ret
            exact ⟨rfl, C5.out⟩
      · have C1 := Lib.hid (bstep HBW.out k1); have NX1 := Lib.hid (NodeW.below HNX.out k1); have AW1 := Lib.hid (HAW.out.below k1)
        have HO : Hid (out (whileL c p) 300 (first t1) = .fuel) := Lib.hid (by
          obtain ⟨s, g1, g2, g3⟩ := HLO.out
          exact (HMA.out _ _ _ HYL.out g1 g2 g3).1 _ hz _ (by omega))
        clear k1 hz
        go_wp2_with fail
        refine (HRC.out _ (HAC.out.below C1.out)).mono ?_
        rintro e u2 ⟨rfl, k2⟩
        have C2 := Lib.hid (bstep C1.out k2); have NX2 := Lib.hid (NodeW.below NX1.out k2); have AW2 := Lib.hid (AW1.out.below k2)
        clear k2
        go_wp2_with fail
        refine (HLA.out _ _ _ AW2.out NX2.out HO.out).mono ?_
        rintro e u4 ⟨rfl, k4⟩
        have C4 := Lib.hid (bstep C2.out k4)
        clear k4
        go_wp2_with fail
        refine (composes_any _).mono ?_
        rintro e u5 ⟨rfl, k5⟩
        have C5 := Lib.hid (bstep C4.out k5)
        clear k5
        go_wp2_with fail
        go_ret
        exact ⟨rfl, C5.out⟩
      · have C1 := Lib.hid (bstep HBW.out k1)
        have hn1 : (n : Int) ≤ 300 := by omega
        have hn0 : (0 : Int) ≤ (n : Int) := by omega
        clear k1 hz
        go_wp2_with fail
        refine (HRC.out _ (HAC.out.below C1.out)).mono ?_
        rintro e u2 ⟨rfl, k2⟩
        have C2 := Lib.hid (bstep C1.out k2)
        clear k2
        go_wp2_with fail
        refine (composes_any _).mono ?_
        rintro e u5 ⟨rfl, k5⟩
        have C5 := Lib.hid (bstep C2.out k5)
        clear k5
        go_wp2_with fail
        go_ret
        exact ⟨rfl, C5.out⟩
    · have hi1 : ¬ (i : Int) < 20 := by omega
      clear hlt
      go_wp2_with fail
      refine (HWM.out _ _ HAW.out).mono ?_
      rintro e u1 ⟨rfl, k1⟩
      have C1 := Lib.hid (bstep HBW.out k1)
      clear k1
      go_wp2_with fail
      refine (composes_any _).mono ?_
      rintro e u5 ⟨rfl, k5⟩
      have C5 := Lib.hid (bstep C1.out k5)
      clear k5
      go_wp2_with fail
      go_ret
      exact ⟨rfl, C5.out⟩
/-- what grow returns, of any text -/
theorem grow_all (l : List UInt8) (most : Nat) (w : World) (hm2 : most ≤ 2000000) :
    Calls Try.prog 41 #[.string (S l), .int .i64 (most : Int)] w fun e w' => Below w.heap.size w w' ∧ ((∃ t v, tx t = l ∧ l.length ≤ most ∧ e = .returned (.tuple #[v, .bool true]) ∧ NodeW 106 w' t v) ∨ (¬ (isT l ∧ l.length ≤ most) ∧ e = .returned (.tuple #[.pointer none, .bool false]))) := by
  by_cases hm : l.length ≤ most
  · refine (grow_any l most w hm hm2).mono ?_
    rintro e w' ⟨h1, ⟨t, v, h2, h3, h4⟩ | ⟨h2, h3⟩⟩
    · exact ⟨h1, .inl ⟨t, v, h2, hm, h3, h4⟩⟩
    · exact ⟨h1, .inr ⟨fun h => h2 h.1, h3⟩⟩
  · refine (grow_long l most w (by omega)).mono ?_
    rintro e w' ⟨rfl, rfl⟩
    exact ⟨Below.refl _ _, .inr ⟨fun h => hm h.2, rfl⟩⟩
set_option maxHeartbeats 1600000 in
set_option maxRecDepth 100000 in
theorem looped_out (w : World) (vc vp : Value) (d : List UInt8) (c p : List Ins) (hc : ArgP w vc c) (hp : ArgP w vp p) (sc : SizeP c) (sp : SizeP p) (hn : ¬ (FewP [c, p] ∧ isT d ∧ d.length ≤ 2000)) :
    Calls Try.prog 11 #[vc, vp, .string (S d)] w fun e w' => e = .returned (.bool true) ∧ Below w.heap.size w w' := by
  have HG := Lib.hid (fun W => grow_all d 2000 W (by omega))
  obtain ⟨r, hr⟩ := few_bool [c, p]
  have HFW := Lib.hid (fun W b cap h => few_any W b 0 cap [c, p] r h (by simp) (by intro q hq; simp only [List.mem_cons, List.not_mem_nil, or_false] at hq; rcases hq with rfl | rfl; exact sc; exact sp) hr)
  have HAC := Lib.hid hc; have HAP := Lib.hid hp; have HN := Lib.hid hn; have HR := Lib.hid hr
  obtain ⟨ac, cc, rfl⟩ := hc.form
  obtain ⟨ap, cp, rfl⟩ := hp.form
  clear hc hp sc sp hn hr
  generalize c.length = lc at *
  generalize p.length = lp at *
  go_enter Try.func11, Try.ntmps11
  go_wp2_with fail
  refine (HG.out _).mono ?_
  rintro e w1 ⟨h1, ⟨t1, v1, ht1, hl1, rfl, hn1⟩ | ⟨hno, rfl⟩⟩
  · have HRF : Hid (r = false) := Lib.hid (by
      cases r with
      | false => rfl
      | true => exact absurd ⟨HR.out.1 rfl, ⟨t1, ht1⟩, hl1⟩ HN.out)
    obtain ⟨X, rfl⟩ := hn1.one
    have B1 := Lib.hid h1
    clear hn1 h1 ht1 hl1
    have L2 := Lib.hid (lit_pieces w1 [.slice ac lc cc, .slice ap lp cp] [c, p] ⟨HAC.out.below B1.out, HAP.out.below B1.out, trivial⟩)
    have B2 := Lib.hid (bstep B1.out (alloc_below w1 (.cells #[.slice ac lc cc, .slice ap lp cp] 23)))
    rw [HRF.out] at HFW
    go_wp2_with fail
    refine (HFW.out _ _ 2 L2.out).mono ?_
    rintro e w3 ⟨rfl, h3⟩
    have B3 := Lib.hid (bstep B2.out h3)
    clear h3 L2
    go_wp2_with fail
    refine (composes_any _).mono ?_
    rintro e u5 ⟨rfl, k5⟩
    have C5 := Lib.hid (bstep B3.out k5)
    clear k5
    go_wp2_with fail
    go_ret
    exact ⟨rfl, C5.out⟩
  · have B1 := Lib.hid h1
    clear h1 hno
    have L2 := Lib.hid (lit_pieces w1 [.slice ac lc cc, .slice ap lp cp] [c, p] ⟨HAC.out.below B1.out, HAP.out.below B1.out, trivial⟩)
    have B2 := Lib.hid (bstep B1.out (alloc_below w1 (.cells #[.slice ac lc cc, .slice ap lp cp] 23)))
    cases r with
    | false =>
      go_wp2_with fail
      refine (HFW.out _ _ 2 L2.out).mono ?_
      rintro e w3 ⟨rfl, h3⟩
      have B3 := Lib.hid (bstep B2.out h3)
      clear h3 L2
      go_wp2_with fail
      refine (composes_any _).mono ?_
      rintro e u5 ⟨rfl, k5⟩
      have C5 := Lib.hid (bstep B3.out k5)
      clear k5
      go_wp2_with fail
      go_ret
      exact ⟨rfl, C5.out⟩
    | true =>
      go_wp2_with fail
      refine (HFW.out _ _ 2 L2.out).mono ?_
      rintro e w3 ⟨rfl, h3⟩
      have B3 := Lib.hid (bstep B2.out h3)
      clear h3 L2
      go_wp2_with fail
      refine (composes_any _).mono ?_
      rintro e u5 ⟨rfl, k5⟩
      have C5 := Lib.hid (bstep B3.out k5)
      clear k5
      go_wp2_with fail
      go_ret
      exact ⟨rfl, C5.out⟩
theorem TopLooped_any (w : World) (vc vp : Value) (s : ByteArray) (c p : List Ins) (hc : ArgP w vc c) (lc : c.length ≤ 281474976710656) (zc : ∀ x ∈ c, x.tree.length ≤ 281474976710656) (hp : ArgP w vp p) (lp : p.length ≤ 281474976710656) (zp : ∀ x ∈ p, x.tree.length ≤ 281474976710656) (_hs : s.size ≤ 281474976710656) :
    Calls Try.prog 11 #[vc, vp, .string s] w fun e w' => e = .returned (.bool true) ∧ Below w.heap.size w w' := by
  have e : S s.data.toList = s := by simp [S]
  rw [← e]
  generalize s.data.toList = d
  by_cases hn : FewP [c, p] ∧ isT d ∧ d.length ≤ 2000
  · obtain ⟨h1, ⟨x, hx⟩, h3⟩ := hn
    exact looped_in w vc vp d c p hc hp (h1 c (by simp)) (h1 p (by simp)) x hx h3
  · exact looped_out w vc vp d c p hc hp ⟨lc, zc⟩ ⟨lp, zp⟩ hn
end Go.Proofs.Ytmhoacnbmbhcjab
