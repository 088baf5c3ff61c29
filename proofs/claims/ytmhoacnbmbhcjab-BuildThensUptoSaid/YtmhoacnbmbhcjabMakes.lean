/- The reference of layer 4: programs out of programs. By an AI agent. -/
import Derived.Test.YtmhoacnbmbhcjabLoops
import Derived.Test.YtmhoacnbmbhcjabSameP
import Derived.Deep.DeepCutAuto
namespace Go.Proofs.Ytmhoacnbmbhcjab
open Go.RowKit Pl

theorem OwnP.form {w : World} {B : Nat} {v : Value} {ps : List Ins} (h : OwnP w B v ps) : ∃ a c, v = .slice a ps.length c := h.arg.form
theorem OwnP.grow {w' : World} {B : Nat} {v' : Value} {L ps : List Ins} (h : w'.ownsRow B 39 5 v' (L.length + ps.length) (progV L ++ progV ps)) : OwnP w' B v' (L ++ ps) := by
  unfold OwnP; rw [progV_app, List.length_append]; exact h
theorem lit_own (w : World) (B : Nat) (ps : List Ins) (hB : B ≤ w.heap.size) (hl : ps.length ≤ 100000) : OwnP (w.alloc (.cells (progV ps).toArray 39)) B (.slice (some ⟨w.heap.size, 0, none⟩) ps.length ps.length) ps := by
  have h := World.ownsRow_lit (base := B) (e := 39) (size := 5) w (progV ps).toArray ps.length hB (by unfold maxLen; omega) (by simp [progV_len])
  simpa [OwnP] using h
set_option maxHeartbeats 1600000 in
set_option maxRecDepth 100000 in
theorem rClean_any (w : World) (v : Value) (p : List Ins) (h : ArgP w v p) (hv : PValid p) : Calls Try.prog 99 #[v] w fun e w' => ∃ u, e = .returned u ∧ OwnP w' w.heap.size u (cleanL (rn p)) ∧ Below w.heap.size w w' := by
  have HR := Lib.hid (fun W (hW : Below w.heap.size w W) => Regs_arg W v p (h.below hW) hv)
  have hm := rn_le hv
  have HRN := Lib.hid (rn_eq p)
  obtain ⟨va, vc, rfl⟩ := h.form
  clear h hv
  go_enter Try.func99, Try.ntmps99
  go_wp2
  go_loopw [3, 4] (fun v i wr => ∃ k : Nat, (k + 1 ≤ rn p ∨ k = 0) ∧ i = .int .i64 ((k : Int) + 1) ∧ Hid (OwnP wr w.heap.size v (cleanTo k)) ∧ Below w.heap.size w wr) (fun _ i _ => rn p - (intOf i).toNat)
  case atStart => exact ⟨0, .inr rfl, rfl, Lib.hid (own_nilP _ _), Below.refl _ _⟩
  case round =>
    obtain ⟨k, hk, rfl, HO, hb⟩ := hrel
    have hsz := hb.size
    have HG := Lib.hid (HR.out _ hb)
    rw [← HRN.out] at HG
    by_cases hlt : k + 1 < rn p
    · have hlt' : (k : Int) + 1 < (rn p : Int) := by omega
      have HL := Lib.hid (cleanTo_succ k)
      have HN := cleanTo_len k
      go_wp2_with fail
      refine HG.out.mono ?_
      rintro e w0 ⟨rfl, h0⟩
      have hb0 := hb.trans (h0.mono hsz)
      have hsz0 := hb0.size
      have HO0 := Lib.hid (HO.out.below h0)
      clear h0 hb HO HG
      go_wp2_with fail
      refine (rset_is _ _ _).mono ?_
      rintro e w1 ⟨rfl, h1⟩
      have hb1 := hb0.trans (h1.mono hsz0)
      have hsz1 := hb1.size
      have HO1 := Lib.hid (HO0.out.below h1)
      clear h1 hb0 HO0
      go_wp2_with (at_builtin; refine wpList_app_prog rfl _ _ rfl w.heap.size _ (cleanTo k).length (progV (cleanTo k)) rfl (HO1.out.alloc _) _ rfl [setI ((k : Int) + 1) [48]] (lit_prog _ [setI ((k : Int) + 1) [48]] (by simp)) (by rw [HN]; simp; omega) (by simp; omega) ?_; intro v' w' hown hgrow)
      have hb2 : Below w.heap.size w w' := (hb1.alloc hsz1 _).grown hgrow (by simp; omega) (fun g h => ((HO1.out.alloc (.cells (progV [setI ((k : Int) + 1) [48]]).toArray 39)).lt g h).1)
      have HO2 : Hid (OwnP w' w.heap.size v' (cleanTo (k + 1))) := Lib.hid (by
        unfold OwnP; rw [HL.out, progV_app, List.length_append]; exact hown)
      clear hown hgrow hb1 HO1
      go_wp2_with fail
      go_roundw
      case rel => exact ⟨k + 1, by omega, by go_num, HO2, hb2⟩
      case measure => simp [intOf]; omega
    · have hm2 : cleanTo k = cleanL (rn p) := by
        rcases hk with hk | rfl
        · have : k + 1 = rn p := by omega
          unfold cleanTo; rw [this]
        · unfold cleanTo cleanL
          have : rn p - 1 = 0 := by omega
          rw [this]
      have HM := Lib.hid hm2
      clear hm2
      rw [HM.out] at HO
      have hlt' : ¬ ((k : Int) + 1 < (rn p : Int)) := by omega
      go_wp2_with fail
      refine HG.out.mono ?_
      rintro e w0 ⟨rfl, h0⟩
      have hb0 := Lib.hid (hb.trans (h0.mono hsz))
      have HO0 := Lib.hid (HO.out.below h0)
      clear h0 hb HO
      go_wp2_with fail
      go_ret
      exact ⟨_, rfl, HO0.out, hb0.out⟩
set_option maxHeartbeats 800000 in
set_option maxRecDepth 100000 in
theorem rclean_any (w : World) (v : Value) (p : List Ins) (h : ArgP w v p) (hv : PValid p) : Calls Try.prog 75 #[v] w fun e w' => ∃ u, e = .returned u ∧ OwnP w' w.heap.size u (behind p) ∧ Below w.heap.size w w' := by
  have HC := Lib.hid (rClean_any w v p h hv)
  have HA := Lib.hid (fun W (hW : Below w.heap.size w W) => h.below hW)
  have hl := hv.1
  have hr := rn_le hv
  have hcl := cleanL_len (rn p)
  obtain ⟨va, vc, rfl⟩ := h.form
  have HCL := Lib.hid hcl
  clear h hv hcl
  go_enter Try.func75, Try.ntmps75
  go_wp2_with fail
  refine HC.out.mono ?_
  rintro e w1 ⟨u, rfl, ho, h1⟩
  have hsz := h1.size
  have HO := Lib.hid ho
  clear ho
  go_wp2_with (at_builtin; refine wpList_app_prog rfl _ _ rfl w.heap.size _ (cleanL (rn p)).length (progV (cleanL (rn p))) rfl HO.out _ rfl p (HA.out _ h1) (by have := HCL.out; omega) hsz ?_; intro v' w' hown hgrow)
  have hb2 : Below w.heap.size w w' := h1.grown hgrow hsz (fun g h => (HO.out.lt g h).1)
  have HO2 : Hid (OwnP w' w.heap.size v' (behind p)) := Lib.hid (OwnP.grow hown)
  clear hown hgrow h1
  go_wp2_with fail
  go_ret
  exact ⟨_, rfl, HO2.out, hb2⟩
theorem OwnP.step {w w' w1 : World} {B : Nat} {v v' : Value} {L ps : List Ins} (hO : OwnP w B v L) (hb : Below B w1 w) (hB : B ≤ w.heap.size) (hown : w'.ownsRow B 39 5 v' (L.length + ps.length) (progV L ++ progV ps)) (hg : w.grownBy w' v.ownBlock) : ∃ M, Hid (M = L ++ ps) ∧ OwnP w' B v' M ∧ Below B w1 w' :=
  ⟨_, Lib.hid rfl, OwnP.grow hown, hb.grown hg hB (fun g h => (World.ownsRow.lt hO g h).1)⟩
set_option maxHeartbeats 3200000 in
set_option maxRecDepth 100000 in
theorem rPair_any (w : World) (vp vq : Value) (p q : List Ins) (hp : ArgP w vp p) (hq : ArgP w vq q) (pv : PValid p) (qv : PValid q) :
    Calls Try.prog 28 #[vp, vq] w fun e w' => ∃ u, e = .returned u ∧ ArgP w' u (pairL p q) ∧ Below w.heap.size w w' := by
  have HP := Lib.hid (fun W (h : Below w.heap.size w W) => hp.below h)
  have HQ := Lib.hid (fun W (h : Below w.heap.size w W) => hq.below h)
  have RP := Lib.hid (fun W (h : Below w.heap.size w W) => Regs_arg W vp p (hp.below h) pv)
  have RQ := Lib.hid (fun W (h : Below w.heap.size w W) => Regs_arg W vq q (hq.below h) qv)
  have CQ := Lib.hid (fun W (h : Below w.heap.size w W) => rclean_any W vq q (hq.below h) qv)
  rw [← rn_eq] at RP RQ
  have hlp := pv.1; have hlq := qv.1; have hrp := rn_le pv; have hrq := rn_le qv
  have hbq := behind_len q
  obtain ⟨ap, cp, rfl⟩ := hp.form
  obtain ⟨aq, cq, rfl⟩ := hq.form
  have HBQ := Lib.hid hbq
  generalize hn : max (rn p) (rn q) = n
  have HN := Lib.hid hn
  have hmax : max (rn p : Int) (rn q : Int) = (n : Int) := by omega
  have hn32 : n ≤ 32 := by omega
  have hni : (n : Int) ≤ 32 := by omega
  have hw1 : IntKind.i64.wrap ((n : Int) + 1) = (n : Int) + 1 := by rw [IntKind.wrap_i64]; omega
  clear hp hq pv qv hbq hn
  go_enter Try.func28, Try.ntmps28
  go_wp2_with fail
  refine (RP.out _ (Below.refl _ _)).mono ?_
  rintro e w1 ⟨rfl, h1⟩
  go_wp2_with fail
  refine (RQ.out _ h1).mono ?_
  rintro e w2 ⟨rfl, h2⟩
  have hb2 := Lib.hid (bstep h1 h2)
  clear h1 h2
  go_wp2_with fail
  refine (rmove_is _ _ _).mono ?_
  rintro e w3 ⟨rfl, h3⟩
  have hb3 := Lib.hid (bstep hb2.out h3)
  clear h3
  have k3 := alloc_below w3 (.cells (progV [moveI (n : Int) 0]).toArray 39)
  have hb3a := Lib.hid (bstep hb3.out k3)
  have O3 := Lib.hid (lit_own w3 w.heap.size [moveI (n : Int) 0] hb3.out.size (by simp))
  clear k3
  go_wp2_with (at_builtin; refine wpList_app_prog rfl _ _ rfl w.heap.size _ ([moveI (n : Int) 0]).length (progV [moveI (n : Int) 0]) rfl O3.out _ rfl (p) (HP.out _ hb3a.out) (by simp; omega) hb3a.out.size ?_; intro v4 w4 hown hgrow; obtain ⟨L4, hL4, ho4, hx4⟩ := OwnP.step O3.out hb3a.out hb3a.out.size hown hgrow; obtain ⟨a4, c4, rfl⟩ := ho4.form)
  have O4 := Lib.hid ho4
  have hb4 := Lib.hid hx4
  have HL4 := hL4
  clear hown hgrow ho4 hx4 hL4
  have b4 : Hid (L4.length = p.length + 1) := Lib.hid (by rw [HL4.out]; simp; try omega)
  go_wp2_with fail
  refine (rmove_is _ _ _).mono ?_
  rintro e w5 ⟨rfl, h5⟩
  have hb5 := Lib.hid (bstep hb4.out h5)
  have O5 := Lib.hid (O4.out.below h5)
  clear h5
  go_wp2_with fail
  refine (rmove_is _ _ _).mono ?_
  rintro e w6 ⟨rfl, h6⟩
  have hb6 := Lib.hid (bstep hb5.out h6)
  have O6 := Lib.hid (O5.out.below h6)
  clear h6
  have k6 := alloc_below w6 (.cells (progV [moveI ((n : Int) + 1) 0, moveI 0 (n : Int)]).toArray 39)
  have hb6a := Lib.hid (bstep hb6.out k6)
  have A6 := Lib.hid (lit_prog w6 [moveI ((n : Int) + 1) 0, moveI 0 (n : Int)] (by simp))
  have O6a := Lib.hid (O6.out.below k6)
  clear k6
  go_wp2_with (at_builtin; refine wpList_app_prog rfl _ _ rfl w.heap.size _ (L4).length (progV L4) rfl O6a.out _ rfl ([moveI ((n : Int) + 1) 0, moveI 0 (n : Int)]) (A6.out) (by have := b4.out; simp; omega) hb6a.out.size ?_; intro v7 w7 hown hgrow; obtain ⟨L7, hL7, ho7, hx7⟩ := OwnP.step O6a.out hb6a.out hb6a.out.size hown hgrow; obtain ⟨a7, c7, rfl⟩ := ho7.form)
  have O7 := Lib.hid ho7
  have hb7 := Lib.hid hx7
  have HL7 := hL7
  clear hown hgrow ho7 hx7 hL7
  have b7 : Hid (L7.length = p.length + 3) := Lib.hid (by rw [HL7.out]; simp; have := b4.out; omega)
  go_wp2_with fail
  refine (CQ.out _ hb7.out).mono ?_
  rintro e w8 ⟨u8, rfl, ho8, h8⟩
  obtain ⟨a8, c8, rfl⟩ := ho8.form
  have A8 := Lib.hid ho8.arg
  have hb8 := Lib.hid (bstep hb7.out h8)
  have O8 := Lib.hid (O7.out.below h8)
  clear ho8 h8
  go_upto_region 5 with (at_builtin; refine wpList_app_prog rfl _ _ rfl w.heap.size _ (L7).length (progV L7) rfl O8.out _ rfl (behind q) (A8.out) (by have := HBQ.out; have := b7.out; omega) hb8.out.size ?_; intro v9 w9 hown hgrow; obtain ⟨L9, hL9, ho9, hx9⟩ := OwnP.step O8.out hb8.out hb8.out.size hown hgrow; obtain ⟨a9, c9, rfl⟩ := ho9.form)
  have O9 := Lib.hid ho9
  have hb9 := Lib.hid hx9
  have HL9 := hL9
  clear hown hgrow ho9 hx9 hL9
  have k9 := alloc_below w9 (.cells (progV [consI 0 ((n : Int) + 1) 0]).toArray 39)
  have hb9a := Lib.hid (bstep hb9.out k9)
  have A9 := Lib.hid (lit_prog w9 [consI 0 ((n : Int) + 1) 0] (by simp))
  have O9a := Lib.hid (O9.out.below k9)
  clear k9
  have b9 : Hid (L9.length ≤ 10000) := Lib.hid (by rw [HL9.out]; simp; have := b7.out; have := HBQ.out; omega)
  go_wp2_with (at_builtin; refine wpList_app_prog rfl _ _ rfl w.heap.size _ (L9).length (progV L9) rfl O9a.out _ rfl ([consI 0 ((n : Int) + 1) 0]) (A9.out) (by have := b9.out; simp; omega) hb9a.out.size ?_; intro v11 w11 hown hgrow; obtain ⟨L11, hL11, ho11, hx11⟩ := OwnP.step O9a.out hb9a.out hb9a.out.size hown hgrow; obtain ⟨a11, c11, rfl⟩ := ho11.form)
  have O11 := Lib.hid ho11
  have hb11 := Lib.hid hx11
  have HL11 := hL11
  clear hown hgrow ho11 hx11 hL11
  go_ret
  refine ⟨_, rfl, ?_, hb11.out⟩
  have h := O11.out.arg
  have e : L11 = pairL p q := by rw [HL11.out, HL9.out, HL7.out, HL4.out]; unfold pairL; rw [HN.out]
  rw [← e]; exact h
set_option maxHeartbeats 3200000 in
set_option maxRecDepth 100000 in
theorem rIf_any (w : World) (vc vp vq : Value) (c p q : List Ins) (hc : ArgP w vc c) (hp : ArgP w vp p) (hq : ArgP w vq q) (cv : PValid c) (pv : PValid p) (qv : PValid q) :
    Calls Try.prog 30 #[vc, vp, vq] w fun e w' => ∃ u, e = .returned u ∧ ArgP w' u (ifL c p q) ∧ Below w.heap.size w w' := by
  have HC := Lib.hid (fun W (h : Below w.heap.size w W) => hc.below h)
  have RC := Lib.hid (fun W (h : Below w.heap.size w W) => Regs_arg W vc c (hc.below h) cv)
  have RP := Lib.hid (fun W (h : Below w.heap.size w W) => Regs_arg W vp p (hp.below h) pv)
  have RQ := Lib.hid (fun W (h : Below w.heap.size w W) => Regs_arg W vq q (hq.below h) qv)
  have CP := Lib.hid (fun W (h : Below w.heap.size w W) => rclean_any W vp p (hp.below h) pv)
  have CQ := Lib.hid (fun W (h : Below w.heap.size w W) => rclean_any W vq q (hq.below h) qv)
  rw [← rn_eq] at RC RP RQ
  have hlc := cv.1; have hlp := pv.1; have hlq := qv.1; have hrc := rn_le cv; have hrp := rn_le pv; have hrq := rn_le qv
  have hbp := behind_len p; have hbq := behind_len q
  obtain ⟨ac, cc, rfl⟩ := hc.form
  obtain ⟨ap, cp, rfl⟩ := hp.form
  obtain ⟨aq, cq, rfl⟩ := hq.form
  have hyb : (behind p).length ≤ 5000 := by omega
  have hnb : (behind q).length ≤ 5000 := by omega
  generalize hy : (behind p).length = y at *
  generalize ho : (behind q).length = o at *
  have HY := Lib.hid hy; have HO := Lib.hid ho
  generalize hn : max (max (rn c) (rn p)) (rn q) = n
  have HN := Lib.hid hn
  have hmax : max (max (rn c : Int) (rn p : Int)) (rn q : Int) = (n : Int) := by omega
  have hn32 : n ≤ 32 := by omega
  have hni : (n : Int) ≤ 32 := by omega
  have hw1 : IntKind.i64.wrap ((o : Int) + 4) = (o : Int) + 4 := by rw [IntKind.wrap_i64]; omega
  have hw2 : IntKind.i64.wrap ((y : Int) + 2) = (y : Int) + 2 := by rw [IntKind.wrap_i64]; omega
  clear hc hp hq cv pv qv hbp hbq hn hy ho
  go_enter Try.func30, Try.ntmps30
  go_upto_region 1 with fail
  go_cut [7] (fun s7 wx => s7 = .int .i64 (n : Int) ∧ Below w.heap.size w wx)
  case first =>
    rcases Nat.lt_or_ge (rn c) (rn p) with k1 | k1
    · rcases Nat.lt_or_ge (rn p) (rn q) with k2 | k2
      · have k3 : ¬ (rn q : Int) ≤ (rn p : Int) := by omega
        have e9 : Hid (((rn q : Nat) : Int) = n) := Lib.hid (by have := HN.out; omega)
        clear hmax
        go_wp2_with fail
        refine (RC.out _ (Below.refl _ _)).mono ?_
        rintro e w1 ⟨rfl, h1⟩
        go_wp2_with fail
        refine (RP.out _ h1).mono ?_
        rintro e w2 ⟨rfl, h2⟩
        have hb2 := Lib.hid (bstep h1 h2)
        clear h1 h2
        go_wp2_with fail
        refine (RQ.out _ hb2.out).mono ?_
        rintro e w3 ⟨rfl, h3⟩
        have hb3 := Lib.hid (bstep hb2.out h3)
        clear h3
        go_wp2_with fail
        go_meet
        exact ⟨congrArg (Value.int IntKind.i64) e9.out, hb3.out⟩
      · have k3 : (rn q : Int) ≤ (rn p : Int) := by omega
        have e9 : Hid (((rn p : Nat) : Int) = n) := Lib.hid (by have := HN.out; omega)
        clear hmax
        go_wp2_with fail
        refine (RC.out _ (Below.refl _ _)).mono ?_
        rintro e w1 ⟨rfl, h1⟩
        go_wp2_with fail
        refine (RP.out _ h1).mono ?_
        rintro e w2 ⟨rfl, h2⟩
        have hb2 := Lib.hid (bstep h1 h2)
        clear h1 h2
        go_wp2_with fail
        refine (RQ.out _ hb2.out).mono ?_
        rintro e w3 ⟨rfl, h3⟩
        have hb3 := Lib.hid (bstep hb2.out h3)
        clear h3
        go_wp2_with fail
        go_meet
        exact ⟨congrArg (Value.int IntKind.i64) e9.out, hb3.out⟩
    · have k1' : ¬ rn c < rn p := by omega
      rcases Nat.lt_or_ge (rn c) (rn q) with k2 | k2
      · have k3 : ¬ (rn q : Int) ≤ (rn c : Int) := by omega
        have e9 : Hid (((rn q : Nat) : Int) = n) := Lib.hid (by have := HN.out; omega)
        clear hmax
        go_wp2_with fail
        refine (RC.out _ (Below.refl _ _)).mono ?_
        rintro e w1 ⟨rfl, h1⟩
        go_wp2_with fail
        refine (RP.out _ h1).mono ?_
        rintro e w2 ⟨rfl, h2⟩
        have hb2 := Lib.hid (bstep h1 h2)
        clear h1 h2
        go_wp2_with fail
        refine (RQ.out _ hb2.out).mono ?_
        rintro e w3 ⟨rfl, h3⟩
        have hb3 := Lib.hid (bstep hb2.out h3)
        clear h3
        go_wp2_with fail
        go_meet
        exact ⟨congrArg (Value.int IntKind.i64) e9.out, hb3.out⟩
      · have k3 : (rn q : Int) ≤ (rn c : Int) := by omega
        have e9 : Hid (((rn c : Nat) : Int) = n) := Lib.hid (by have := HN.out; omega)
        clear hmax
        go_wp2_with fail
        refine (RC.out _ (Below.refl _ _)).mono ?_
        rintro e w1 ⟨rfl, h1⟩
        go_wp2_with fail
        refine (RP.out _ h1).mono ?_
        rintro e w2 ⟨rfl, h2⟩
        have hb2 := Lib.hid (bstep h1 h2)
        clear h1 h2
        go_wp2_with fail
        refine (RQ.out _ hb2.out).mono ?_
        rintro e w3 ⟨rfl, h3⟩
        have hb3 := Lib.hid (bstep hb2.out h3)
        clear h3
        go_wp2_with fail
        go_meet
        exact ⟨congrArg (Value.int IntKind.i64) e9.out, hb3.out⟩
  case rest =>
    obtain ⟨rfl, hcb⟩ := hcut
    have hb3 := Lib.hid hcb
    clear hcb
    go_wp2_with fail
    refine (CP.out _ hb3.out).mono ?_
    rintro e w4 ⟨u4, rfl, ho4, h4⟩
    obtain ⟨a4, c4, rfl⟩ : ∃ a c, u4 = .slice a y c := by obtain ⟨a, c, h⟩ := ho4.form; exact ⟨a, c, by rw [h, HY.out]⟩
    have AY := Lib.hid ho4.arg
    have hb4 := Lib.hid (bstep hb3.out h4)
    clear ho4 h4
    go_wp2_with fail
    refine (CQ.out _ hb4.out).mono ?_
    rintro e w5 ⟨u5, rfl, ho5, h5⟩
    obtain ⟨a5, c5, rfl⟩ : ∃ a c, u5 = .slice a o c := by obtain ⟨a, c, h⟩ := ho5.form; exact ⟨a, c, by rw [h, HO.out]⟩
    have AO := Lib.hid ho5.arg
    have AY5 := Lib.hid (AY.out.below h5)
    have hb5 := Lib.hid (bstep hb4.out h5)
    have AYW := Lib.hid (fun W (h : Below w5.heap.size w5 W) => AY5.out.below h)
    have AOW := Lib.hid (fun W (h : Below w5.heap.size w5 W) => AO.out.below h)
    have r5 := Lib.hid (Below.refl w5.heap.size w5)
    clear ho5 h5
    go_wp2_with fail
    refine (rmove_is _ _ _).mono ?_
    rintro e w6 ⟨rfl, h6⟩
    have hb6 := Lib.hid (bstep r5.out h6)
    clear h6
    have k6 := alloc_below w6 (.cells (progV [moveI (n : Int) 0]).toArray 39)
    have hb6a := Lib.hid (bstep hb6.out k6)
    have O6 := Lib.hid (lit_own w6 w5.heap.size [moveI (n : Int) 0] hb6.out.size (by simp))
    clear k6
    go_wp2_with (at_builtin; refine wpList_app_prog rfl _ _ rfl w5.heap.size _ ([moveI (n : Int) 0]).length (progV [moveI (n : Int) 0]) rfl O6.out _ rfl (c) (HC.out _ (bstep hb5.out hb6a.out)) (by simp; omega) hb6a.out.size ?_; intro v7 w7 hown hgrow; obtain ⟨L7, hL7, ho7, hx7⟩ := OwnP.step O6.out hb6a.out hb6a.out.size hown hgrow; obtain ⟨a7, c7, rfl⟩ := ho7.form)
    have O7 := Lib.hid ho7
    have hb7 := Lib.hid hx7
    have HL7 := hL7
    clear hown hgrow ho7 hx7 hL7
    have b7 : Hid (L7.length = c.length + 1) := Lib.hid (by rw [HL7.out]; simp; try omega)
    go_wp2_with fail
    refine (rjump_is _ _ _).mono ?_
    rintro e w8 ⟨rfl, h8⟩
    have hb8 := Lib.hid (bstep hb7.out h8)
    have O8 := Lib.hid (O7.out.below h8)
    clear h8
    go_wp2_with fail
    refine (rmove_is _ _ _).mono ?_
    rintro e w9 ⟨rfl, h9⟩
    have hb9 := Lib.hid (bstep hb8.out h9)
    have O9 := Lib.hid (O8.out.below h9)
    clear h9
    have k9 := alloc_below w9 (.cells (progV [jumpI 0 ((o : Int) + 4), moveI 0 (n : Int)]).toArray 39)
    have hb9a := Lib.hid (bstep hb9.out k9)
    have A9 := Lib.hid (lit_prog w9 [jumpI 0 ((o : Int) + 4), moveI 0 (n : Int)] (by simp))
    have O9a := Lib.hid (O9.out.below k9)
    clear k9
    go_upto_region 5 with (at_builtin; refine wpList_app_prog rfl _ _ rfl w5.heap.size _ (L7).length (progV L7) rfl O9a.out _ rfl ([jumpI 0 ((o : Int) + 4), moveI 0 (n : Int)]) (A9.out) (by have := b7.out; simp; omega) hb9a.out.size ?_; intro v10 w10 hown hgrow; obtain ⟨L10, hL10, ho10, hx10⟩ := OwnP.step O9a.out hb9a.out hb9a.out.size hown hgrow; obtain ⟨a10, c10, rfl⟩ := ho10.form)
    have O10 := Lib.hid ho10
    have hb10 := Lib.hid hx10
    have HL10 := hL10
    clear hown hgrow ho10 hx10 hL10
    have b10 : Hid (L10.length = c.length + 3) := Lib.hid (by rw [HL10.out]; simp; have := b7.out; omega)
    go_wp2_with (at_builtin; refine wpList_app_prog rfl _ _ rfl w5.heap.size _ (L10).length (progV L10) rfl O10.out _ rfl (behind q) (AOW.out _ hb10.out) (by have := b10.out; have := HO.out; omega) hb10.out.size ?_; intro v11 w11 hown hgrow; obtain ⟨L11, hL11, ho11, hx11⟩ := OwnP.step O10.out hb10.out hb10.out.size hown hgrow; obtain ⟨a11, c11, rfl⟩ := ho11.form)
    have O11 := Lib.hid ho11
    have hb11 := Lib.hid hx11
    have HL11 := hL11
    clear hown hgrow ho11 hx11 hL11
    have b11 : Hid (L11.length = c.length + 3 + o) := Lib.hid (by rw [HL11.out, List.length_append, HO.out]; have := b10.out; omega)
    go_wp2_with fail
    refine (rset_is _ _ _).mono ?_
    rintro e w12 ⟨rfl, h12⟩
    have hb12 := Lib.hid (bstep hb11.out h12)
    have O12 := Lib.hid (O11.out.below h12)
    clear h12
    go_wp2_with fail
    refine (rjump_is _ _ _).mono ?_
    rintro e w13 ⟨rfl, h13⟩
    have hb13 := Lib.hid (bstep hb12.out h13)
    have O13 := Lib.hid (O12.out.below h13)
    clear h13
    go_wp2_with fail
    refine (rmove_is _ _ _).mono ?_
    rintro e w14 ⟨rfl, h14⟩
    have hb14 := Lib.hid (bstep hb13.out h14)
    have O14 := Lib.hid (O13.out.below h14)
    clear h14
    have k14 := alloc_below w14 (.cells (progV [setI (n : Int) [49, 48, 48], jumpI (n : Int) ((y : Int) + 2), moveI 0 (n : Int)]).toArray 39)
    have hb14a := Lib.hid (bstep hb14.out k14)
    have A14 := Lib.hid (lit_prog w14 [setI (n : Int) [49, 48, 48], jumpI (n : Int) ((y : Int) + 2), moveI 0 (n : Int)] (by simp))
    have O14a := Lib.hid (O14.out.below k14)
    clear k14
    go_upto_region 7 with (at_builtin; refine wpList_app_prog rfl _ _ rfl w5.heap.size _ (L11).length (progV L11) rfl O14a.out _ rfl ([setI (n : Int) [49, 48, 48], jumpI (n : Int) ((y : Int) + 2), moveI 0 (n : Int)]) (A14.out) (by have := b11.out; simp; omega) hb14a.out.size ?_; intro v15 w15 hown hgrow; obtain ⟨L15, hL15, ho15, hx15⟩ := OwnP.step O14a.out hb14a.out hb14a.out.size hown hgrow; obtain ⟨a15, c15, rfl⟩ := ho15.form)
    have O15 := Lib.hid ho15
    have hb15 := Lib.hid hx15
    have HL15 := hL15
    clear hown hgrow ho15 hx15 hL15
    have b15 : Hid (L15.length ≤ 20000) := Lib.hid (by rw [HL15.out]; simp; have := b11.out; omega)
    go_wp2_with (at_builtin; refine wpList_app_prog rfl _ _ rfl w5.heap.size _ (L15).length (progV L15) rfl O15.out _ rfl (behind p) (AYW.out _ hb15.out) (by have := b15.out; have := HY.out; omega) hb15.out.size ?_; intro v16 w16 hown hgrow; obtain ⟨L16, hL16, ho16, hx16⟩ := OwnP.step O15.out hb15.out hb15.out.size hown hgrow; obtain ⟨a16, c16, rfl⟩ := ho16.form)
    have O16 := Lib.hid ho16
    have hb16 := Lib.hid hx16
    have HL16 := hL16
    clear hown hgrow ho16 hx16 hL16
    go_ret
    refine ⟨_, rfl, ?_, bstep hb5.out hb16.out⟩
    have h := O16.out.arg
    have e : L16 = ifL c p q := by rw [HL16.out, HL15.out, HL11.out, HL10.out, HL7.out]; unfold ifL; rw [HN.out, HY.out, HO.out]
    rw [← e]; exact h
set_option maxHeartbeats 3200000 in
set_option maxRecDepth 100000 in
theorem rWhile_any (w : World) (vc vp : Value) (c p : List Ins) (hc : ArgP w vc c) (hp : ArgP w vp p) (cv : PValid c) (pv : PValid p) :
    Calls Try.prog 29 #[vc, vp] w fun e w' => ∃ u, e = .returned u ∧ ArgP w' u (whileL c p) ∧ Below w.heap.size w w' := by
  have RC := Lib.hid (fun W (h : Below w.heap.size w W) => Regs_arg W vc c (hc.below h) cv)
  have RP := Lib.hid (fun W (h : Below w.heap.size w W) => Regs_arg W vp p (hp.below h) pv)
  have CC := Lib.hid (fun W (h : Below w.heap.size w W) => rclean_any W vc c (hc.below h) cv)
  have CP := Lib.hid (fun W (h : Below w.heap.size w W) => rclean_any W vp p (hp.below h) pv)
  rw [← rn_eq] at RC RP
  have hlc := cv.1; have hlp := pv.1; have hrc := rn_le cv; have hrp := rn_le pv
  have hbc := behind_len c; have hbp := behind_len p
  obtain ⟨ac, cc, rfl⟩ := hc.form
  obtain ⟨ap, cp, rfl⟩ := hp.form
  have hyb : (behind p).length ≤ 5000 := by omega
  have hob : (behind c).length ≤ 5000 := by omega
  generalize hy : (behind p).length = y at *
  generalize ho : (behind c).length = o at *
  have HY := Lib.hid hy; have HO := Lib.hid ho
  generalize hn : max (rn c) (rn p) = n
  have HN := Lib.hid hn
  have hmax : max (rn c : Int) (rn p : Int) = (n : Int) := by omega
  have hn32 : n ≤ 32 := by omega
  have hni : (n : Int) ≤ 32 := by omega
  have hw2 : IntKind.i64.wrap ((y : Int) + 4) = (y : Int) + 4 := by rw [IntKind.wrap_i64]; omega
  clear hc hp cv pv hbp hbc hn hy ho
  go_enter Try.func29, Try.ntmps29
  go_wp2_with fail
  refine (RC.out _ (Below.refl _ _)).mono ?_
  rintro e w1 ⟨rfl, h1⟩
  go_wp2_with fail
  refine (RP.out _ h1).mono ?_
  rintro e w2 ⟨rfl, h2⟩
  have hb2 := Lib.hid (bstep h1 h2)
  clear h1 h2
  go_wp2_with fail
  refine (CP.out _ hb2.out).mono ?_
  rintro e w5 ⟨u4, rfl, ho4, h4⟩
  obtain ⟨a4, c4, rfl⟩ : ∃ a c, u4 = .slice a y c := by obtain ⟨a, c, h⟩ := ho4.form; exact ⟨a, c, by rw [h, HY.out]⟩
  have AY := Lib.hid ho4.arg
  have hb5 := Lib.hid (bstep hb2.out h4)
  have AYW := Lib.hid (fun W (h : Below w5.heap.size w5 W) => AY.out.below h)
  have r5 := Lib.hid (Below.refl w5.heap.size w5)
  clear ho4 h4
  go_wp2_with fail
  refine (rmove_is _ _ _).mono ?_
  rintro e w6 ⟨rfl, h6⟩
  have hb6 := Lib.hid (bstep r5.out h6)
  clear h6
  have k6 := alloc_below w6 (.cells (progV [moveI (n : Int) 0]).toArray 39)
  have hb6a := Lib.hid (bstep hb6.out k6)
  have O6 := Lib.hid (lit_own w6 w5.heap.size [moveI (n : Int) 0] hb6.out.size (by simp))
  clear k6
  go_wp2_with fail
  refine (CC.out _ (bstep hb5.out hb6a.out)).mono ?_
  rintro e w7 ⟨u7, rfl, ho7, h7⟩
  obtain ⟨a7, c7, rfl⟩ : ∃ a c, u7 = .slice a o c := by obtain ⟨a, c, h⟩ := ho7.form; exact ⟨a, c, by rw [h, HO.out]⟩
  have A7 := Lib.hid ho7.arg
  have hb7 := Lib.hid (bstep hb6a.out h7)
  have O7 := Lib.hid (O6.out.below h7)
  clear ho7 h7
  go_wp2_with (at_builtin; refine wpList_app_prog rfl _ _ rfl w5.heap.size _ ([moveI (n : Int) 0]).length (progV [moveI (n : Int) 0]) rfl O7.out _ rfl (behind c) (A7.out) (by have := HO.out; simp; omega) hb7.out.size ?_; intro v8 w8 hown hgrow; obtain ⟨L8, hL8, ho8, hx8⟩ := OwnP.step O7.out hb7.out hb7.out.size hown hgrow; obtain ⟨a8, c8, rfl⟩ := ho8.form)
  have O8 := Lib.hid ho8
  have hb8 := Lib.hid hx8
  have HL8 := hL8
  clear hown hgrow ho8 hx8 hL8
  have b8 : Hid (L8.length = o + 1) := Lib.hid (by rw [HL8.out, List.length_append, HO.out]; simp; try omega)
  go_wp2_with fail
  refine (rjump_is _ _ _).mono ?_
  rintro e w9 ⟨rfl, h9⟩
  have hb9 := Lib.hid (bstep hb8.out h9)
  have O9 := Lib.hid (O8.out.below h9)
  clear h9
  go_wp2_with fail
  refine (rmove_is _ _ _).mono ?_
  rintro e w10 ⟨rfl, h10⟩
  have hb10 := Lib.hid (bstep hb9.out h10)
  have O10 := Lib.hid (O9.out.below h10)
  clear h10
  go_wp2_with fail
  refine (rset_is _ _ _).mono ?_
  rintro e w11 ⟨rfl, h11⟩
  have hb11 := Lib.hid (bstep hb10.out h11)
  have O11 := Lib.hid (O10.out.below h11)
  clear h11
  have k11 := alloc_below w11 (.cells (progV [jumpI 0 4, moveI 0 (n : Int), setI (n : Int) [49, 48, 48]]).toArray 39)
  have hb11a := Lib.hid (bstep hb11.out k11)
  have A11 := Lib.hid (lit_prog w11 [jumpI 0 4, moveI 0 (n : Int), setI (n : Int) [49, 48, 48]] (by simp))
  have O11a := Lib.hid (O11.out.below k11)
  clear k11
  go_wp2_with (at_builtin; refine wpList_app_prog rfl _ _ rfl w5.heap.size _ (L8).length (progV L8) rfl O11a.out _ rfl ([jumpI 0 4, moveI 0 (n : Int), setI (n : Int) [49, 48, 48]]) (A11.out) (by have := b8.out; simp; omega) hb11a.out.size ?_; intro v12 w12 hown hgrow; obtain ⟨L12, hL12, ho12, hx12⟩ := OwnP.step O11a.out hb11a.out hb11a.out.size hown hgrow; obtain ⟨a12, c12, rfl⟩ := ho12.form)
  have O12 := Lib.hid ho12
  have hb12 := Lib.hid hx12
  have HL12 := hL12
  clear hown hgrow ho12 hx12 hL12
  have b12 : Hid (L12.length = o + 4) := Lib.hid (by rw [HL12.out]; simp; have := b8.out; omega)
  go_wp2_with fail
  refine (rjump_is _ _ _).mono ?_
  rintro e w13 ⟨rfl, h13⟩
  have hb13 := Lib.hid (bstep hb12.out h13)
  have O13 := Lib.hid (O12.out.below h13)
  clear h13
  go_wp2_with fail
  refine (rmove_is _ _ _).mono ?_
  rintro e w14 ⟨rfl, h14⟩
  have hb14 := Lib.hid (bstep hb13.out h14)
  have O14 := Lib.hid (O13.out.below h14)
  clear h14
  have k14 := alloc_below w14 (.cells (progV [jumpI (n : Int) ((y : Int) + 4), moveI 0 (n : Int)]).toArray 39)
  have hb14a := Lib.hid (bstep hb14.out k14)
  have A14 := Lib.hid (lit_prog w14 [jumpI (n : Int) ((y : Int) + 4), moveI 0 (n : Int)] (by simp))
  have O14a := Lib.hid (O14.out.below k14)
  clear k14
  go_upto_region 6 with (at_builtin; refine wpList_app_prog rfl _ _ rfl w5.heap.size _ (L12).length (progV L12) rfl O14a.out _ rfl ([jumpI (n : Int) ((y : Int) + 4), moveI 0 (n : Int)]) (A14.out) (by have := b12.out; simp; omega) hb14a.out.size ?_; intro v15 w15 hown hgrow; obtain ⟨L15, hL15, ho15, hx15⟩ := OwnP.step O14a.out hb14a.out hb14a.out.size hown hgrow; obtain ⟨a15, c15, rfl⟩ := ho15.form)
  have O15 := Lib.hid ho15
  have hb15 := Lib.hid hx15
  have HL15 := hL15
  clear hown hgrow ho15 hx15 hL15
  have b15 : Hid (L15.length = o + 6) := Lib.hid (by rw [HL15.out]; simp; have := b12.out; omega)
  go_wp2_with (at_builtin; refine wpList_app_prog rfl _ _ rfl w5.heap.size _ (L15).length (progV L15) rfl O15.out _ rfl (behind p) (AYW.out _ hb15.out) (by have := b15.out; have := HY.out; omega) hb15.out.size ?_; intro v16 w16 hown hgrow; obtain ⟨L16, hL16, ho16, hx16⟩ := OwnP.step O15.out hb15.out hb15.out.size hown hgrow; obtain ⟨a16, c16, rfl⟩ := ho16.form)
  have O16 := Lib.hid ho16
  have hb16 := Lib.hid hx16
  have HL16 := hL16
  clear hown hgrow ho16 hx16 hL16
  have b16 : Hid (L16.length = o + 6 + y) := Lib.hid (by rw [HL16.out, List.length_append, HY.out]; have := b15.out; omega)
  go_wp2_with fail
  refine (rset_is _ _ _).mono ?_
  rintro e w17 ⟨rfl, h17⟩
  have hb17 := Lib.hid (bstep hb16.out h17)
  have O17 := Lib.hid (O16.out.below h17)
  clear h17
  have k17 := alloc_below w17 (.cells (progV [setI (n : Int) [49, 48, 48]]).toArray 39)
  have hb17a := Lib.hid (bstep hb17.out k17)
  have A17 := Lib.hid (lit_prog w17 [setI (n : Int) [49, 48, 48]] (by simp))
  have O17a := Lib.hid (O17.out.below k17)
  clear k17
  go_upto_region 7 with (at_builtin; refine wpList_app_prog rfl _ _ rfl w5.heap.size _ (L16).length (progV L16) rfl O17a.out _ rfl ([setI (n : Int) [49, 48, 48]]) (A17.out) (by have := b16.out; simp; omega) hb17a.out.size ?_; intro v18 w18 hown hgrow; obtain ⟨L18, hL18, ho18, hx18⟩ := OwnP.step O17a.out hb17a.out hb17a.out.size hown hgrow; obtain ⟨a18, c18, rfl⟩ := ho18.form)
  have O18 := Lib.hid ho18
  have hb18 := Lib.hid hx18
  have HL18 := hL18
  clear hown hgrow ho18 hx18 hL18
  have b18 : Hid (L18.length = o + 7 + y) := Lib.hid (by rw [HL18.out]; simp; have := b16.out; omega)
  generalize hl : L18.length = l at *
  have hll : l ≤ 20000 := by have := b18.out; omega
  have HLL := Lib.hid hl
  clear hl
  have hw3 : IntKind.i64.wrap (-(l : Int)) = -(l : Int) := by rw [IntKind.wrap_i64]; omega
  go_wp2_with fail
  refine (rjump_is _ _ _).mono ?_
  rintro e w19 ⟨rfl, h19⟩
  have hb19 := Lib.hid (bstep hb18.out h19)
  have O19 := Lib.hid (O18.out.below h19)
  clear h19
  have k19 := alloc_below w19 (.cells (progV [jumpI (n : Int) (-(l : Int))]).toArray 39)
  have hb19a := Lib.hid (bstep hb19.out k19)
  have A19 := Lib.hid (lit_prog w19 [jumpI (n : Int) (-(l : Int))] (by simp))
  have O19a := Lib.hid (O19.out.below k19)
  clear k19
  have O19b : Hid (World.ownsRow _ w5.heap.size 39 5 _ l (progV L18)) := Lib.hid (by have h := O19a.out; unfold OwnP at h; rw [HLL.out] at h; exact h)
  go_wp2_with (at_builtin; refine wpList_app_prog rfl _ _ rfl w5.heap.size _ l (progV L18) rfl O19b.out _ rfl [jumpI (n : Int) (-(l : Int))] A19.out (by simp; omega) hb19a.out.size ?_; intro v20 w20 hown hgrow; obtain ⟨L20, hL20, ho20, hx20⟩ := OwnP.step (ps := [jumpI (n : Int) (-(l : Int))]) O19a.out hb19a.out hb19a.out.size (by rw [HLL.out]; exact hown) hgrow; obtain ⟨a20, c20, rfl⟩ := ho20.form)
  have O20 := Lib.hid ho20
  have hb20 := Lib.hid hx20
  have HL20 := hL20
  clear hown hgrow ho20 hx20 hL20
  go_ret
  refine ⟨_, rfl, ?_, bstep hb5.out hb20.out⟩
  have h := O20.out.arg
  have e : L20 = whileL c p := by
    have e18 : L18 = [moveI (n : Int) 0] ++ behind c ++ [jumpI 0 4, moveI 0 (n : Int), setI (n : Int) [49, 48, 48], jumpI (n : Int) ((y : Int) + 4), moveI 0 (n : Int)] ++ behind p ++ [setI (n : Int) [49, 48, 48]] := by rw [HL18.out, HL16.out, HL15.out, HL12.out, HL8.out]; simp
    rw [HL20.out, ← HLL.out, e18]; unfold whileL; rw [HN.out, HY.out]
  rw [← e]; exact h
end Go.Proofs.Ytmhoacnbmbhcjab

namespace Go.Proofs.Ytmhoacnbmbhcjab
open Go.RowKit Pl

theorem Try.infoProg : (Try.prog.info? 23).map (fun i => (i.zero, i.size, i.bytes)) = some (some (.slice none 0 0), 1, 24) := by kernel_rfl
def OwnsP (w : World) (B : Nat) : List Value → List (List Ins) → Prop
  | [], [] => True
  | v :: vs, p :: ps => OwnP w B v p ∧ OwnsP w B vs ps
  | _, _ => False
theorem OwnsP.snoc {w : World} {B : Nat} : ∀ {vs : List Value} {pss : List (List Ins)} {v : Value} {p : List Ins}, OwnsP w B vs pss → OwnP w B v p → OwnsP w B (vs ++ [v]) (pss ++ [p])
  | [], [], _, _, _, h => ⟨h, trivial⟩
  | _ :: _, _ :: _, _, _, h, k => ⟨h.1, OwnsP.snoc h.2 k⟩
theorem OwnsP.args {w : World} {B : Nat} : ∀ {vs : List Value} {pss : List (List Ins)}, OwnsP w B vs pss → ArgsP w vs pss
  | [], [], _ => trivial
  | _ :: _, _ :: _, h => ⟨h.1.arg, OwnsP.args h.2⟩
theorem OwnsP.below {w w1 : World} {B : Nat} (hb : Below w.heap.size w w1) : ∀ {vs : List Value} {pss : List (List Ins)}, OwnsP w B vs pss → OwnsP w1 B vs pss
  | [], [], _ => trivial
  | _ :: _, _ :: _, h => ⟨h.1.below hb, OwnsP.below hb h.2⟩
theorem own_differ {w : World} {B B' n k size : Nat} {v u : Value} {e e' : TypeId} {xs vs : List Value} {s2 : Nat} (he : e ≠ e') (h : w.ownsRow B e size v n xs) (hr : w.ownsRow B' e' s2 u k vs) : v.ownBlock = none ∨ v.ownBlock ≠ u.ownBlock := by
  rcases h.2 with ⟨rfl, _⟩ | ⟨g, cap, cur, rfl, _, h1, _⟩
  · exact .inl rfl
  · rcases hr.2 with ⟨rfl, _⟩ | ⟨g2, cap2, cur2, rfl, _, h2, _⟩
    · exact .inr (by simp [Value.ownBlock])
    · refine .inr ?_
      simp only [Value.ownBlock, ne_eq, Option.some.injEq]
      rintro rfl
      rw [h1] at h2
      simp only [Option.some.injEq, Obj.cells.injEq] at h2
      exact he h2.2.1
theorem OwnsP.kept {w w1 : World} {B B' k : Nat} {u : Value} {us : List Value} (hr : w.ownsRow B' 23 1 u k us) (hg : w.grownBy w1 u.ownBlock) : ∀ {vs : List Value} {pss : List (List Ins)}, OwnsP w B vs pss → OwnsP w1 B vs pss
  | [], [], _ => trivial
  | _ :: _, _ :: _, h => ⟨World.ownsRow.kept h.1 hg (own_differ (by decide) h.1 hr), OwnsP.kept hr hg h.2⟩
set_option maxHeartbeats 3200000 in
set_option maxRecDepth 100000 in
theorem copied4_any (w : World) (b off cap : Nat) (pss : List (List Ins)) (hc : PiecesAt w b off pss) (hm : pss.length * 24 ≤ 140737488355328) (hs : ∀ p ∈ pss, p.length * 48 ≤ 140737488355328) :
    Calls Try.prog 22 #[.slice (some ⟨b, off, none⟩) pss.length cap] w fun e w' => ∃ u vs, e = .returned u ∧ w'.ownsRow w.heap.size 23 1 u pss.length vs ∧ OwnsP w' w.heap.size vs pss ∧ Below w.heap.size w w' := by
  obtain ⟨i0, hi, hz0, hz1, hz2⟩ := info_parts Try.infoProg
  generalize hnn : pss.length = n at *
  have HN := Lib.hid hnn; have HC := Lib.hid hc; have HS := Lib.hid hs
  clear hnn hc hs
  go_enter Try.func22, Try.ntmps22
  go_wp2
  go_loopw [3, 4] (fun v i wr => ∃ (k : Nat) (vs : List Value), k ≤ n ∧ i = .int .i64 k ∧ Hid (wr.ownsRow w.heap.size 23 1 v k vs) ∧ Hid (OwnsP wr w.heap.size vs (pss.take k)) ∧ Below w.heap.size w wr) (fun _ i _ => n - (intOf i).toNat)
  case atStart => exact ⟨0, [], Nat.zero_le _, rfl, Lib.hid (World.ownsRow_nil _ _ _ _), Lib.hid trivial, Below.refl _ _⟩
  case round =>
    obtain ⟨k, vs, hk, rfl, HO, HA, hb⟩ := hrel
    have hsz := hb.size
    by_cases hlt : k < n
    · have hk1 : (k : Int) < (n : Int) := by omega
      obtain ⟨p, hp⟩ := piece_at (pss := pss) (k := k) (by rw [HN.out]; exact hlt)
      obtain ⟨u, hcell, hA⟩ := (HC.out.below hb).piece k p hp
      have HT := Lib.hid (Twin_arg wr u p hA (HS.out p (List.mem_of_getElem? hp)))
      have HP := Lib.hid hp
      obtain ⟨pa, pcap, rfl⟩ := hA.form
      clear hp hA
      go_wp2_with fail
      refine HT.out.mono ?_
      rintro e w1 ⟨v1, rfl, ho1, h1⟩
      have ha1 : OwnP w1 w.heap.size v1 p := own_lower (base' := w.heap.size) ho1 hsz
      obtain ⟨a1, c1, rfl⟩ := ha1.form
      have hb1 := Lib.hid (hb.trans (h1.mono hsz))
      have HA1 := Lib.hid ha1
      have HO1 := Lib.hid (own_below HO.out h1)
      have HAS1 := Lib.hid (HA.out.below h1)
      have hs1 := hb1.out.size
      clear ha1 ho1 h1 hb hsz hcell
      have hcells : ∀ j u, ([Value.slice a1 p.length c1] : List Value)[j]? = some u → (w1.alloc (.cells #[.slice a1 p.length c1] 23)).cell? ((⟨w1.heap.size, 0, none⟩ : Addr).add j) = some u := by
        intro j u hu
        rw [add_at, World.cell?_alloc_new]
        simpa using hu
      have HCE := Lib.hid hcells
      clear hcells
      go_wp2_with (at_builtin; refine wpList_append_own _ rfl _ _ 26 rfl w.heap.size 23 i0 (.slice none 0 0) 1 24 Try.underlying26 hi hz0 hz1 hz2 rfl (by decide) _ k vs rfl (HO1.out.alloc _) ⟨w1.heap.size, 0, none⟩ 1 1 [.slice a1 p.length c1] rfl rfl HCE.out (by intro u hu; simp at hu; subst hu; rfl) (by unfold maxLen; omega) (by omega) (by simp; omega) ?_; intro v2 w2 hown hgrow hnil)
      have hb2 : Below w.heap.size w w2 := (hb1.out.alloc hs1 _).grown hgrow (by simp; omega) (fun g h => ((HO1.out.alloc (.cells #[.slice a1 p.length c1] 23)).lt g h).1)
      have hrow := HO1.out.alloc (.cells #[.slice a1 p.length c1] 23)
      have HAS2 : Hid (OwnsP w2 w.heap.size (vs ++ [.slice a1 p.length c1]) (pss.take (k + 1))) := Lib.hid (by
        rw [List.take_add_one, HP.out]
        have ab := alloc_below w1 (.cells #[.slice a1 p.length c1] 23)
        exact OwnsP.kept hrow hgrow ((OwnsP.below ab HAS1.out).snoc (HA1.out.below ab)))
      have HO2 := Lib.hid hown
      clear hown hgrow hnil hrow
      go_wp2_with fail
      go_roundw
      case rel => exact ⟨k + 1, _, by omega, by go_num, HO2, HAS2, hb2⟩
      case measure => simp [intOf]; omega
    · obtain rfl : k = n := by omega
      have HF : Hid (OwnsP wr w.heap.size vs pss) := Lib.hid (by have h := HA.out; rwa [List.take_of_length_le (by rw [HN.out]; exact Nat.le_refl _)] at h)
      go_wp2_with fail
      go_ret
      exact ⟨_, vs, rfl, HO.out, HF.out, hb⟩
set_option maxHeartbeats 800000 in
set_option maxRecDepth 100000 in
theorem copied4_none (w : World) (a : Option Addr) (cap : Nat) :
    Calls Try.prog 22 #[.slice a 0 cap] w fun e w' => e = .returned (.slice none 0 0) ∧ w' = w := by
  go_enter Try.func22, Try.ntmps22
  go_wp2
  go_loop [3, 4] (fun v i => v = .slice none 0 0 ∧ i = .int .i64 0) (fun _ _ => 0)
  case atStart => exact ⟨rfl, rfl⟩
  case round =>
    obtain ⟨rfl, rfl⟩ := hrel
    go_wp2
    go_ret
    exact ⟨rfl, rfl⟩
/-- a row of slices, as pieces -/
theorem pieces_own {w : World} {B n : Nat} {u : Value} {vs : List Value} {pss : List (List Ins)} (h : w.ownsRow B 23 1 u n vs) (ha : ArgsP w vs pss) (h0 : 0 < n) : ∃ g cap, u = .slice (some ⟨g, 0, none⟩) n cap ∧ PiecesAt w g 0 pss := by
  obtain ⟨g, cap, hu⟩ : ∃ g cap, u = .slice (some ⟨g, 0, none⟩) n cap := by
    rcases h.2 with ⟨_, h1⟩ | ⟨g, cap, cur, h1, _⟩
    · omega
    · exact ⟨g, cap, h1⟩
  subst hu
  refine ⟨g, cap, rfl, (h.lt g rfl).2, fun k p hk => ?_⟩
  obtain ⟨v, h1, h2⟩ := ha.get k p hk
  have hc := h.cells (g := g) rfl k v h1
  rw [add_at] at hc
  exact ⟨v, by rw [Nat.zero_add]; exact hc, h2⟩
set_option maxHeartbeats 3200000 in
set_option maxRecDepth 100000 in
theorem alike4_any (w : World) (b off cap b2 off2 cap2 : Nat) (pss : List (List Ins)) (hc : PiecesAt w b off pss) (hc2 : PiecesAt w b2 off2 pss) (hm : pss.length ≤ 6000000000000) (hs : ∀ p ∈ pss, p.length ≤ 281474976710656) :
    Calls Try.prog 25 #[.slice (some ⟨b, off, none⟩) pss.length cap, .slice (some ⟨b2, off2, none⟩) pss.length cap2] w fun e w' => e = .returned (.bool true) ∧ Below w.heap.size w w' := by
  generalize hnn : pss.length = n at *
  have HN := Lib.hid hnn; have HC := Lib.hid hc; have HC2 := Lib.hid hc2; have HS := Lib.hid hs
  clear hnn hc hc2 hs
  go_enter Try.func25, Try.ntmps25
  go_wp2
  go_loopw [5] (fun i wr => ∃ k : Nat, k ≤ n ∧ i = .int .i64 k ∧ Below w.heap.size w wr) (fun i _ => n - (intOf i).toNat)
  case atStart => exact ⟨0, Nat.zero_le _, rfl, Below.refl _ _⟩
  case round =>
    obtain ⟨k, hk, rfl, hb⟩ := hrel
    have hsz := hb.size
    by_cases hlt : k < n
    · have hk1 : (k : Int) < (n : Int) := by omega
      have hk0 : (0 : Int) ≤ (k : Int) := by omega
      obtain ⟨p, hp⟩ := piece_at (pss := pss) (k := k) (by rw [HN.out]; exact hlt)
      obtain ⟨u, c1, hA⟩ := (HC.out.below hb).piece k p hp
      obtain ⟨u2, c2, hA2⟩ := (HC2.out.below hb).piece k p hp
      have HSM := Lib.hid (fun W (h : Below wr.heap.size wr W) => PSame_arg W u u2 p p true (hA.below h) (hA2.below h) (HS.out p (List.mem_of_getElem? hp)) (by simp))
      obtain ⟨pa, pcap, rfl⟩ := hA.form
      obtain ⟨pa2, pcap2, rfl⟩ := hA2.form
      have C1 := Lib.hid c1; have C2 := Lib.hid c2
      have HB := Lib.hid hb
      clear hp hA hA2 hb
      generalize p.length = q at *
      go_wp2_with fail
      go_region_held3 (fun w' => w'.cell? ⟨b, off + k, none⟩ = some (.slice pa q pcap) ∧ w'.cell? ⟨b2, off2 + k, none⟩ = some (.slice pa2 q pcap2)) (first | exact ⟨C1.out, C2.out⟩ | exact ⟨k1, k2⟩ | go_keep)
        (first
          | (go_simp; go_at_call 19; refine (HSM.out _ (by first | exact Below.refl _ _ | exact (Below.refl _ _).drew)).mono ?_; rintro e w8 ⟨rfl, h8⟩; have k1 := cell_keep h8 C1.out; have k2 := cell_keep h8 C2.out))
      have hb2 := Lib.hid (bstep (HB.out.drew) h8)
      clear h8 k1 k2
      go_wp2
      go_roundw
      case rel => exact ⟨k + 1, by omega, by go_num, hb2.out⟩
      case measure => simp [intOf]; omega
    · obtain rfl : k = n := by omega
      have e1 : ((k : Int) == (k : Int)) = true := by simp
      go_wp2
      go_ret
      exact ⟨rfl, hb⟩
set_option maxHeartbeats 1600000 in
set_option maxRecDepth 100000 in
theorem told_ok (w : World) (v vm : Value) (cs : List Ins) (h : ArgP w v cs) (hm : ArgP w vm cs) (hl : cs.length ≤ 281474976710656) :
    Calls Try.prog 31 #[v, .int .i64 0, .int .i64 0, vm] w fun e w' => e = .returned (.bool true) ∧ Below w.heap.size w w' := by
  have HS := Lib.hid (PSame_arg w v vm cs cs true h hm hl (by simp))
  obtain ⟨a, c, rfl⟩ := h.form
  obtain ⟨a2, c2, rfl⟩ := hm.form
  clear h hm
  go_enter Try.func31, Try.ntmps31
  go_wp2_with fail
  refine HS.out.mono ?_
  rintro e w1 ⟨rfl, h1⟩
  go_wp2
  go_ret
  exact ⟨rfl, h1⟩
set_option maxHeartbeats 1600000 in
set_option maxRecDepth 100000 in
theorem told_no (w : World) (vm : Value) (d : Int) (hd : d ≠ 0) (hm : ∃ a n c, vm = .slice a n c) :
    Calls Try.prog 31 #[.slice none 0 0, .int .i64 d, .int .i64 d, vm] w fun e w' => e = .returned (.bool true) ∧ Below w.heap.size w w' := by
  obtain ⟨a, n, c, rfl⟩ := hm
  have h1 : (d != 0) = true := by rw [bne_iff_ne]; exact hd
  have h2 : (d == d) = true := by simp
  clear hd
  go_enter Try.func31, Try.ntmps31
  go_wp2
  go_ret
  exact ⟨rfl, Below.refl _ _⟩
/-- what a function returned, kept through the law -/
def GotP (w : World) (v : Value) (er due : Int) (cs : List Ins) : Prop := er = due ∧ (∃ a n c, v = .slice a n c) ∧ (due = 0 → ArgP w v cs) ∧ (due ≠ 0 → v = .slice none 0 0)
theorem BPost.got {w w' : World} {due : Int} {cs : List Ins} {e : Ending} (h : BPost w due cs e w') : Below w.heap.size w w' ∧ ∃ v er, e = .returned (.tuple #[v, .int .i64 er]) ∧ (∃ a n c, v = .slice a n c) ∧ GotP w' v er due cs := by
  obtain ⟨h1, ⟨h2, v, rfl, h3⟩ | ⟨h2, rfl⟩⟩ := h
  · obtain ⟨a, c, rfl⟩ := h3.form
    exact ⟨h1, _, 0, rfl, ⟨_, _, _, rfl⟩, h2.symm, ⟨_, _, _, rfl⟩, fun _ => h3, fun h => absurd h2 h⟩
  · exact ⟨h1, _, due, rfl, ⟨_, _, _, rfl⟩, rfl, ⟨_, _, _, rfl⟩, fun h => absurd h h2, fun _ => rfl⟩
theorem GotP.below {w w1 : World} {v : Value} {er due : Int} {cs : List Ins} (h : GotP w v er due cs) (hb : Below w.heap.size w w1) : GotP w1 v er due cs := ⟨h.1, h.2.1, fun h0 => (h.2.2.1 h0).below hb, h.2.2.2⟩
/-- told, of what a function returned -/
theorem told_any (w : World) (v vm : Value) (er due : Int) (cs made : List Ins) (h : GotP w v er due cs) (hm : ArgP w vm made) (he : due = 0 → made = cs) (hl : cs.length ≤ 281474976710656) :
    Calls Try.prog 31 #[v, .int .i64 er, .int .i64 due, vm] w fun e w' => e = .returned (.bool true) ∧ Below w.heap.size w w' := by
  obtain ⟨rfl, _, h1, h2⟩ := h
  by_cases hd : er = 0
  · subst hd
    obtain rfl := he rfl
    exact told_ok w v vm made (h1 rfl) hm hl
  · obtain ⟨a, c, hf⟩ := hm.form
    rw [h2 hd]
    exact told_no w vm er hd ⟨_, _, _, hf⟩
end Go.Proofs.Ytmhoacnbmbhcjab

namespace Go.Proofs.Ytmhoacnbmbhcjab
open Go.RowKit Pl

set_option maxHeartbeats 800000 in
set_option maxRecDepth 100000 in
theorem rConst_any (w : World) (l : List UInt8) : Calls Try.prog 26 #[.string (S l)] w fun e w' => ∃ u, e = .returned u ∧ ArgP w' u [setI 0 l] ∧ Below w.heap.size w w' := by
  go_enter Try.func26, Try.ntmps26
  go_wp2_with fail
  refine (rset_is _ _ _).mono ?_
  rintro e w1 ⟨rfl, h1⟩
  have A1 := Lib.hid (lit_prog w1 [setI 0 l] (by simp))
  have hb := Lib.hid (h1.alloc h1.size (.cells (progV [setI 0 l]).toArray 39))
  go_wp2
  go_ret
  exact ⟨_, rfl, A1.out, hb.out⟩
open Classical in
/-- what the law has made, where it made something -/
noncomputable def mk (P : Prop) (L : List Ins) : List Ins := if P then L else []
theorem mk_yes {P : Prop} (h : P) (L : List Ins) : mk P L = L := if_pos h
theorem mk_no {P : Prop} (h : ¬ P) (L : List Ins) : mk P L = [] := if_neg h
theorem due_mk {l : List (List Ins)} {P : Prop} {L : List Ins} (h : (∀ p ∈ l, PValid p) → P) : dueP l (mk P L) = dueP l L := by
  by_cases h1 : ∃ p ∈ l, ¬ PValid p
  · rw [due_form h1, due_form h1]
  · rw [mk_yes (h (fun p hp => Classical.byContradiction fun hn => h1 ⟨p, hp, hn⟩))]
theorem due_zero {l : List (List Ins)} {cs : List Ins} (h : dueP l cs = 0) : ∀ p ∈ l, PValid p := fun p hp => Classical.byContradiction fun hn => by
  rw [due_form ⟨p, hp, hn⟩] at h; omega
theorem nil_arg (w : World) : ArgP w (.slice none 0 0) [] := .inl ⟨rfl, .inl rfl⟩
theorem pieces_tail {w : World} {b off : Nat} {p : List Ins} {pss : List (List Ins)} (h : PiecesAt w b off (p :: pss)) : PiecesAt w b (off + 1) pss :=
  ⟨h.lt, fun k q hk => by
    have := h.piece (k + 1) q (by simpa using hk)
    rwa [show off + (k + 1) = off + 1 + k by omega] at this⟩
theorem pieces_init {w : World} {b off : Nat} {p : List Ins} {pss : List (List Ins)} (h : PiecesAt w b off (pss ++ [p])) : PiecesAt w b off pss :=
  ⟨h.lt, fun k q hk => h.piece k q (by rw [List.getElem?_append_left (List.getElem?_eq_some_iff.1 hk).1]; exact hk)⟩
/-- trees that are not too large -/
def TB (L : List Ins) : Prop := ∀ x ∈ L, x.tree.length ≤ 2000000
theorem TB.app {a b : List Ins} (h : TB a) (k : TB b) : TB (a ++ b) := fun x hx => by
  rcases List.mem_append.1 hx with hx | hx
  · exact h x hx
  · exact k x hx
theorem tb_clean (m : Nat) : TB (cleanL m) := fun x hx => by
  unfold cleanL at hx
  obtain ⟨i, _, rfl⟩ := List.mem_map.1 hx
  simp [setI]
theorem tb_behind {p : List Ins} (h : PValid p) : TB (behind p) := (tb_clean _).app (valid_tree h)
theorem tb_cons {x : Ins} {l : List Ins} (h : x.tree.length ≤ 2000000) (k : TB l) : TB (x :: l) := fun y hy => by
  rcases List.mem_cons.1 hy with rfl | hy
  · exact h
  · exact k y hy
theorem tb_nil : TB [] := fun x hx => by cases hx
theorem tb_pair {p q : List Ins} (hp : PValid p) (hq : PValid q) : TB (pairL p q) := by
  unfold pairL
  exact ((((tb_cons (by simp [moveI]) tb_nil).app (valid_tree hp)).app (tb_cons (by simp [moveI]) (tb_cons (by simp [moveI]) tb_nil))).app (tb_behind hq)).app (tb_cons (by simp [consI]) tb_nil)
theorem tb_if {c p q : List Ins} (hc : PValid c) (hp : PValid p) (hq : PValid q) : TB (ifL c p q) := by
  unfold ifL
  exact (((((tb_cons (by simp [moveI]) tb_nil).app (valid_tree hc)).app (tb_cons (by simp [jumpI]) (tb_cons (by simp [moveI]) tb_nil))).app (tb_behind hq)).app (tb_cons (by simp [setI]) (tb_cons (by simp [jumpI]) (tb_cons (by simp [moveI]) tb_nil)))).app (tb_behind hp)
theorem tb_while {c p : List Ins} (hc : PValid c) (hp : PValid p) : TB (whileL c p) := by
  unfold whileL
  exact (((((tb_cons (by simp [moveI]) tb_nil).app (tb_behind hc)).app (tb_cons (by simp [jumpI]) (tb_cons (by simp [moveI]) (tb_cons (by simp [setI]) (tb_cons (by simp [jumpI]) (tb_cons (by simp [moveI]) tb_nil)))))).app (tb_behind hp)).app (tb_cons (by simp [setI]) tb_nil)).app (tb_cons (by simp [jumpI]) tb_nil)
theorem sz_mk {P : Prop} {L : List Ins} (h : P → TB L ∧ L.length ≤ 20000) : (mk P L).length ≤ 281474976710656 ∧ ∀ x ∈ mk P L, x.tree.length ≤ 281474976710656 := by
  by_cases hp : P
  · rw [mk_yes hp]
    obtain ⟨h1, h2⟩ := h hp
    exact ⟨by omega, fun x hx => by have := h1 x hx; omega⟩
  · rw [mk_no hp]; simp
set_option maxHeartbeats 6400000 in
set_option maxRecDepth 100000 in
theorem makes_any (w : World) (d : List UInt8) (vc vp vq : Value) (c p q : List Ins) (hd : d.length ≤ 281474976710656) (hc : ArgP w vc c) (hp : ArgP w vp p) (hq : ArgP w vq q) (sc : SizeP c) (sp : SizeP p) (sq : SizeP q) (lc : c.length * 48 ≤ 140737488355328) (lp : p.length * 48 ≤ 140737488355328) (lq : q.length * 48 ≤ 140737488355328) :
    Calls Try.prog 4 #[.string (S d), vc, vp, vq] w fun e w' => e = .returned (.bool true) ∧ Below w.heap.size w w' := by
  have hL0 := lit_pieces w [vc, vp, vq] [c, p, q] ⟨hc, hp, hq, trivial⟩
  have H0 := Lib.hid (copied4_any _ w.heap.size 0 3 [c, p, q] hL0 (by simp) (by intro r hr; simp only [List.mem_cons, List.not_mem_nil, or_false] at hr; rcases hr with rfl | rfl | rfl; exact lc; exact lp; exact lq))
  have HC := Lib.hid (fun W (h : Below w.heap.size w W) => hc.below h)
  have HP := Lib.hid (fun W (h : Below w.heap.size w W) => hp.below h)
  have HQ := Lib.hid (fun W (h : Below w.heap.size w W) => hq.below h)
  have H1 := Lib.hid (fun W => (Const_list d W hd).mono fun e w' h => BPost.got h)
  have H2 := Lib.hid (fun W h1 h2 => (Pair_any W vp vq p q h1 h2 sp sq).mono fun e w' h => BPost.got h)
  have H3 := Lib.hid (fun W h0 h1 h2 => (If_any W vc vp vq c p q h0 h1 h2 sc sp sq).mono fun e w' h => BPost.got h)
  have H4 := Lib.hid (fun W h0 h1 => (While_any W vc vp c p h0 h1 sc sp).mono fun e w' h => BPost.got h)
  have HAL := Lib.hid (fun W b2 cap2 h1 h2 => alike4_any W w.heap.size 0 3 b2 0 cap2 [c, p, q] h1 h2 (by simp) (by intro r hr; simp only [List.mem_cons, List.not_mem_nil, or_false] at hr; rcases hr with rfl | rfl | rfl; exact sc.1; exact sp.1; exact sq.1))
  have SC := Lib.hid sc; have SP := Lib.hid sp; have SQ := Lib.hid sq
  obtain ⟨ac, cc, rfl⟩ := hc.form
  obtain ⟨ap, cp, rfl⟩ := hp.form
  obtain ⟨aq, cq, rfl⟩ := hq.form
  have hb0 := Lib.hid (alloc_below w (.cells #[.slice ac c.length cc, .slice ap p.length cp, .slice aq q.length cq] 23))
  have HL0 := Lib.hid hL0
  clear hL0 hc hp hq sc sp sq lc lp lq
  go_enter Try.func4, Try.ntmps4
  go_wp2_with fail
  refine H0.out.mono ?_
  rintro e w1 ⟨u1, vs, rfl, ho1, hos1, h1⟩
  obtain ⟨g1, cap1, rfl, hpc1⟩ := pieces_own ho1 hos1.args (by simp)
  have hb1 := Lib.hid (bstep hb0.out h1)
  have HL1 := Lib.hid (HL0.out.below h1)
  have HK1 := Lib.hid hpc1
  clear ho1 hos1 h1 hpc1
  go_wp2_with fail
  refine (H1.out _).mono ?_
  rintro e w2 ⟨h2, va, ea, rfl, ⟨aa, na, ca, rfl⟩, ga⟩
  have hb2 := Lib.hid (bstep hb1.out h2)
  have GA := Lib.hid ga; have HL2 := Lib.hid (HL1.out.below h2); have HK2 := Lib.hid (HK1.out.below h2)
  clear ga h2
  go_wp2_with fail
  refine (H2.out _ (HP.out _ hb2.out) (HQ.out _ hb2.out)).mono ?_
  rintro e w3 ⟨h3, vb, eb, rfl, ⟨ab, nb, cb, rfl⟩, gb⟩
  have hb3 := Lib.hid (bstep hb2.out h3)
  have GA3 := Lib.hid (GA.out.below h3); have GB := Lib.hid gb; have HL3 := Lib.hid (HL2.out.below h3); have HK3 := Lib.hid (HK2.out.below h3)
  clear gb h3
  go_wp2_with fail
  refine (H3.out _ (HC.out _ hb3.out) (HP.out _ hb3.out) (HQ.out _ hb3.out)).mono ?_
  rintro e w4 ⟨h4, vx, ex, rfl, ⟨ax, nx, cx, rfl⟩, gx⟩
  have hb4 := Lib.hid (bstep hb3.out h4)
  have GA4 := Lib.hid (GA3.out.below h4); have GB4 := Lib.hid (GB.out.below h4); have GX := Lib.hid gx; have HL4 := Lib.hid (HL3.out.below h4); have HK4 := Lib.hid (HK3.out.below h4)
  clear gx h4
  go_wp2_with fail
  refine (H4.out _ (HC.out _ hb4.out) (HP.out _ hb4.out)).mono ?_
  rintro e w5 ⟨h5, vw, ew, rfl, ⟨aw, nw, cw, rfl⟩, gw⟩
  have hb5 := Lib.hid (bstep hb4.out h5)
  have GA5 := Lib.hid (GA4.out.below h5); have GB5 := Lib.hid (GB4.out.below h5); have GX5 := Lib.hid (GX.out.below h5); have GW := Lib.hid gw; have HL5 := Lib.hid (HL4.out.below h5); have HK5 := Lib.hid (HK4.out.below h5)
  clear gw h5
  go_wp2_with fail
  refine (HAL.out _ _ _ HL5.out HK5.out).mono ?_
  rintro e w6 ⟨rfl, h6⟩
  have hb6 := Lib.hid (bstep hb5.out h6)
  have GA6 := Lib.hid (GA5.out.below h6); have GB6 := Lib.hid (GB5.out.below h6); have GX6 := Lib.hid (GX5.out.below h6); have GW6 := Lib.hid (GW.out.below h6); have HL6 := Lib.hid (HL5.out.below h6)
  clear h6
  have HX := Lib.hid (fun W => rValid_eq (vld d) (S d) W (by rw [S_size]; exact hd) (by rw [S_list]))
  have HRC := Lib.hid (fun W => rConst_any W d)
  have HSM := Lib.hid (fun W u h1 h2 => PSame_arg W (.slice aa na ca) u [setI 0 d] [setI 0 d] true h1 h2 (by simp) (by simp))
  clear hd
  go_upto_if 57 with (go_at_call 13; refine (HX.out _).mono ?_; rintro e w7 ⟨rfl, rfl⟩)
  go_cut [] (fun wx => Below w6.heap.size w6 wx)
  case first =>
    cases hv : vld d with
    | true =>
      rw [hv] at GA6
      obtain ⟨rfl, _, g1, _⟩ := GA6.out
      have AA := Lib.hid (g1 rfl)
      clear g1 hv
      go_wp2_with fail
      refine (HRC.out _).mono ?_
      rintro e w8 ⟨u8, rfl, ha8, h8⟩
      obtain ⟨a8, c8, rfl⟩ := ha8.form
      have A8 := Lib.hid ha8
      have AA8 := Lib.hid (AA.out.below h8)
      have k8 := Lib.hid h8
      clear ha8 h8
      go_wp2_with fail
      refine (HSM.out _ _ AA8.out A8.out).mono ?_
      rintro e w9 ⟨rfl, h9⟩
      have k9 := Lib.hid (bstep k8.out h9)
      clear h9
      go_wp2_with fail
      go_meet
      exact k9.out
    | false =>
      rw [hv] at GA6
      obtain ⟨rfl, _, _, g2⟩ := GA6.out
      have e8 := g2 (by simp)
      obtain ⟨rfl, rfl, rfl⟩ : aa = none ∧ na = 0 ∧ ca = 0 := by simpa using e8
      clear g2 hv e8
      go_wp2_with fail
      go_meet
      exact Below.refl _ _
  case rest =>
    have GB7 := Lib.hid (GB6.out.below hcut); have GX7 := Lib.hid (GX6.out.below hcut); have GW7 := Lib.hid (GW6.out.below hcut); have HL7 := Lib.hid (HL6.out.below hcut)
    have hb7 := Lib.hid (bstep hb6.out hcut)
    clear hcut GA6 GB6 GX6 GW6 HL6 GA5 GB5 GX5 HL5 HK5 GA4 GB4 HL4 HK4 GA3 HL3 HK3 GA HL2 HK2 HL1 HK1 HL0 H0 H1 H2 H3 H4 HAL HX HRC HSM
    clear GW GX GB
    obtain ⟨bp, hbp⟩ := pv_bool p
    obtain ⟨bq, hbq⟩ := pv_bool q
    obtain ⟨bc, hbc⟩ := pv_bool c
    have VP := Lib.hid (fun W h => PV_arg W (.slice ap p.length cp) p bp h SP.out.1 SP.out.2 hbp)
    have VQ := Lib.hid (fun W h => PV_arg W (.slice aq q.length cq) q bq h SQ.out.1 SQ.out.2 hbq)
    have VC := Lib.hid (fun W h => PV_arg W (.slice ac c.length cc) c bc h SC.out.1 SC.out.2 hbc)
    have BP := Lib.hid hbp; have BQ := Lib.hid hbq; have BC := Lib.hid hbc
    clear hbp hbq hbc
    obtain ⟨bpq, hbpq⟩ : ∃ b, b = (bp && bq) := ⟨_, rfl⟩
    obtain ⟨bcp, hbcp⟩ : ∃ b, b = (bc && bp) := ⟨_, rfl⟩
    have HBPQ := Lib.hid hbpq; have HBCP := Lib.hid hbcp
    clear hbpq hbcp
    go_upto_region 15 with fail
    go_cut [79] (fun s wx => s = .bool bpq ∧ Below wc.heap.size wc wx)
    case first =>
      go_wp2_with fail
      refine (VP.out _ (HP.out _ hb7.out)).mono ?_
      rintro e w8 ⟨rfl, h8⟩
      have hb8 := Lib.hid (bstep hb7.out h8)
      have k8 := Lib.hid h8
      clear h8
      cases bp with
      | false =>
        go_wp2_with fail
        go_meet
        exact ⟨congrArg Value.bool HBPQ.out.symm, k8.out⟩
      | true =>
        go_wp2_with fail
        refine (VQ.out _ (HQ.out _ hb8.out)).mono ?_
        rintro e w9 ⟨rfl, h9⟩
        have k9 := Lib.hid (bstep k8.out h9)
        clear h9
        go_wp2_with fail
        go_meet
        exact ⟨congrArg Value.bool (by rw [HBPQ.out]; rfl), k9.out⟩
    case rest =>
      obtain ⟨rfl, hq1⟩ := hcut
      have GB8 := Lib.hid (GB7.out.below hq1); have GX8 := Lib.hid (GX7.out.below hq1); have GW8 := Lib.hid (GW7.out.below hq1); have HL8 := Lib.hid (HL7.out.below hq1)
      have hb8 := Lib.hid (bstep hb7.out hq1)
      clear hq1 GB7 GX7 GW7 HL7
      go_upto_if 79 with fail
      go_cut [19] (fun s wx => (∃ a n c, s = .slice a n c) ∧ ArgP wx s (mk (PValid p ∧ PValid q) (pairL p q)) ∧ Below wc.heap.size wc wx)
      case first =>
        cases bpq with
        | false =>
          have hn : Hid (¬ (PValid p ∧ PValid q)) := Lib.hid (fun h => by have h2 := HBPQ.out; rw [BP.out.2 h.1, BQ.out.2 h.2] at h2; cases h2)
          go_wp2_with fail
          go_meet
          exact ⟨⟨_, _, _, rfl⟩, by rw [mk_no hn.out]; exact nil_arg _, Below.refl _ _⟩
        | true =>
            have hy : Hid (PValid p ∧ PValid q) := Lib.hid (by have h2 := HBPQ.out; rw [eq_comm, Bool.and_eq_true] at h2; exact ⟨BP.out.1 h2.1, BQ.out.1 h2.2⟩)
            have HM := Lib.hid (rPair_any wc _ _ p q (HP.out _ hb8.out) (HQ.out _ hb8.out) hy.out.1 hy.out.2)
            go_wp2_with fail
            refine HM.out.mono ?_
            rintro e w9 ⟨u9, rfl, ha9, h9⟩
            obtain ⟨a9, c9, rfl⟩ := ha9.form
            have A9 := Lib.hid ha9
            have k9 := Lib.hid h9
            clear ha9 h9
            go_wp2_with fail
            go_meet
            exact ⟨⟨_, _, _, rfl⟩, by rw [mk_yes hy.out]; exact A9.out, k9.out⟩
      case rest =>
        obtain ⟨⟨a2, n2, c2, rfl⟩, hm2, hq2⟩ := hcut
        have M2 := Lib.hid hm2
        clear hm2
        have GB9 := Lib.hid (GB8.out.below hq2); have GX9 := Lib.hid (GX8.out.below hq2); have GW9 := Lib.hid (GW8.out.below hq2); have HL9 := Lib.hid (HL8.out.below hq2)
        have hb9 := Lib.hid (bstep hb8.out hq2)
        clear GB8 GX8 GW8 HL8
        clear hq2
        go_upto_region 17 with fail
        go_cut [88] (fun s wx => s = .bool bcp ∧ Below wc.heap.size wc wx)
        case first =>
          go_wp2_with fail
          refine (VC.out _ (HC.out _ hb9.out)).mono ?_
          rintro e w8 ⟨rfl, h8⟩
          have hbx := Lib.hid (bstep hb9.out h8)
          have k8 := Lib.hid h8
          clear h8
          cases bc with
          | false =>
            go_wp2_with fail
            go_meet
            exact ⟨congrArg Value.bool HBCP.out.symm, k8.out⟩
          | true =>
            go_wp2_with fail
            refine (VP.out _ (HP.out _ hbx.out)).mono ?_
            rintro e w9 ⟨rfl, h9⟩
            have k9 := Lib.hid (bstep k8.out h9)
            clear h9
            go_wp2_with fail
            go_meet
            exact ⟨congrArg Value.bool (by rw [HBCP.out]; rfl), k9.out⟩
        case rest =>
          obtain ⟨rfl, hq3⟩ := hcut
          have GB10 := Lib.hid (GB9.out.below hq3); have GX10 := Lib.hid (GX9.out.below hq3); have GW10 := Lib.hid (GW9.out.below hq3); have HL10 := Lib.hid (HL9.out.below hq3)
          have hb10 := Lib.hid (bstep hb9.out hq3)
          have M2a := Lib.hid (M2.out.below hq3)
          clear GB9 GX9 GW9 HL9 M2
          clear hq3
          go_upto_if 88 with fail
          go_cut [20, 21] (fun s20 s21 wx => ((∃ a n c, s20 = .slice a n c) ∧ (∃ a n c, s21 = .slice a n c)) ∧ ArgP wx s20 (mk (PValid c ∧ PValid p ∧ PValid q) (ifL c p q)) ∧ ArgP wx s21 (mk (PValid c ∧ PValid p) (whileL c p)) ∧ Below wc.heap.size wc wx)
          case first =>
            cases bcp with
            | false =>
              have hn : Hid (¬ (PValid c ∧ PValid p)) := Lib.hid (fun h => by have h2 := HBCP.out; rw [BC.out.2 h.1, BP.out.2 h.2] at h2; cases h2)
              go_wp2_with fail
              go_meet
              exact ⟨⟨⟨_, _, _, rfl⟩, ⟨_, _, _, rfl⟩⟩, by rw [mk_no (fun h => hn.out ⟨h.1, h.2.1⟩)]; exact nil_arg _, by rw [mk_no hn.out]; exact nil_arg _, Below.refl _ _⟩
            | true =>
                have hcv : Hid (PValid c ∧ PValid p) := Lib.hid (by have h2 := HBCP.out; rw [eq_comm, Bool.and_eq_true] at h2; exact ⟨BC.out.1 h2.1, BP.out.1 h2.2⟩)
                have HM := Lib.hid (rWhile_any wc _ _ c p (HC.out _ hb10.out) (HP.out _ hb10.out) hcv.out.1 hcv.out.2)
                go_wp2_with fail
                refine HM.out.mono ?_
                rintro e w9 ⟨u9, rfl, ha9, h9⟩
                obtain ⟨a9, c9, rfl⟩ := ha9.form
                have A9 := Lib.hid ha9
                have k9 := Lib.hid h9
                have hb11 := Lib.hid (bstep hb10.out h9)
                clear ha9 h9
                go_wp2_with fail
                refine (VQ.out _ (HQ.out _ hb11.out)).mono ?_
                rintro e w10 ⟨rfl, h10⟩
                have A10 := Lib.hid (A9.out.below h10)
                have k10 := Lib.hid (bstep k9.out h10)
                have hb12 := Lib.hid (bstep hb11.out h10)
                clear h10
                cases bq with
                | false =>
                  have hn : Hid (¬ PValid q) := Lib.hid (fun h => by have := BQ.out.2 h; cases this)
                  go_wp2_with fail
                  go_meet
                  exact ⟨⟨⟨_, _, _, rfl⟩, ⟨_, _, _, rfl⟩⟩, by rw [mk_no (fun h => hn.out h.2.2)]; exact nil_arg _, by rw [mk_yes hcv.out]; exact A10.out, k10.out⟩
                | true =>
                  have hqv : Hid (PValid q) := Lib.hid (BQ.out.1 rfl)
                  have HM2 := Lib.hid (rIf_any w10 _ _ _ c p q (HC.out _ hb12.out) (HP.out _ hb12.out) (HQ.out _ hb12.out) hcv.out.1 hcv.out.2 hqv.out)
                  go_wp2_with fail
                  refine HM2.out.mono ?_
                  rintro e w11 ⟨u11, rfl, ha11, h11⟩
                  obtain ⟨a11, c11, rfl⟩ := ha11.form
                  have A11 := Lib.hid ha11
                  have A10b := Lib.hid (A10.out.below h11)
                  have k11 := Lib.hid (bstep k10.out h11)
                  clear ha11 h11
                  go_wp2_with fail
                  go_meet
                  exact ⟨⟨⟨_, _, _, rfl⟩, ⟨_, _, _, rfl⟩⟩, by rw [mk_yes ⟨hcv.out.1, hcv.out.2, hqv.out⟩]; exact A11.out, by rw [mk_yes hcv.out]; exact A10b.out, k11.out⟩
          case rest =>
            obtain ⟨⟨⟨a3, n3, c3, rfl⟩, ⟨a4, n4, c4, rfl⟩⟩, hm3, hm4, hq4⟩ := hcut
            have M3 := Lib.hid hm3; have M4 := Lib.hid hm4
            clear hm3 hm4
            have GB11 := Lib.hid (GB10.out.below hq4); have GX11 := Lib.hid (GX10.out.below hq4); have GW11 := Lib.hid (GW10.out.below hq4); have HL11 := Lib.hid (HL10.out.below hq4)
            have hb11 := Lib.hid (bstep hb10.out hq4)
            have M2b := Lib.hid (M2a.out.below hq4)
            clear GB10 GX10 GW10 HL10 M2a
            clear hq4 VP VQ VC BP BQ BC
            have SZ2 := sz_mk (P := PValid p ∧ PValid q) (L := pairL p q) (fun h => ⟨tb_pair h.1 h.2, by have := pairL_len p q; have := behind_len q; have := rn_le h.2; have := h.1.1; have := h.2.1; omega⟩)
            have SZ3 := sz_mk (P := PValid c ∧ PValid p ∧ PValid q) (L := ifL c p q) (fun h => ⟨tb_if h.1 h.2.1 h.2.2, by have := ifL_len c p q; have := behind_len p; have := behind_len q; have := rn_le h.2.1; have := rn_le h.2.2; have := h.1.1; have := h.2.1.1; have := h.2.2.1; omega⟩)
            have SZ4 := sz_mk (P := PValid c ∧ PValid p) (L := whileL c p) (fun h => ⟨tb_while h.1 h.2, by have := whileL_len c p; have := behind_len c; have := behind_len p; have := rn_le h.1; have := rn_le h.2; have := h.1.1; have := h.2.1; omega⟩)
            have E2 : dueP [p, q] (mk (PValid p ∧ PValid q) (pairL p q)) = dueP [p, q] (pairL p q) := due_mk (fun h => ⟨h p (by simp), h q (by simp)⟩)
            have E3 : dueP [c, p, q] (mk (PValid c ∧ PValid p ∧ PValid q) (ifL c p q)) = dueP [c, p, q] (ifL c p q) := due_mk (fun h => ⟨h c (by simp), h p (by simp), h q (by simp)⟩)
            have E4 : dueP [c, p] (mk (PValid c ∧ PValid p) (whileL c p)) = dueP [c, p] (whileL c p) := due_mk (fun h => ⟨h c (by simp), h p (by simp)⟩)
            have Z2 : dueP [p, q] (pairL p q) = 0 → mk (PValid p ∧ PValid q) (pairL p q) = pairL p q := fun h => mk_yes ⟨due_zero h p (by simp), due_zero h q (by simp)⟩ _
            have Z3 : dueP [c, p, q] (ifL c p q) = 0 → mk (PValid c ∧ PValid p ∧ PValid q) (ifL c p q) = ifL c p q := fun h => mk_yes ⟨due_zero h c (by simp), due_zero h p (by simp), due_zero h q (by simp)⟩ _
            have Z4 : dueP [c, p] (whileL c p) = 0 → mk (PValid c ∧ PValid p) (whileL c p) = whileL c p := fun h => mk_yes ⟨due_zero h c (by simp), due_zero h p (by simp)⟩ _
            have G2 : ∀ W, GotP W (.slice ab nb cb) eb (dueP [p, q] (pairL p q)) (pairL p q) → ArgP W (.slice a2 n2 c2) (mk (PValid p ∧ PValid q) (pairL p q)) → Calls Try.prog 31 #[.slice ab nb cb, .int .i64 eb, .int .i64 (dueP [p, q] (pairL p q)), .slice a2 n2 c2] W fun e w' => e = .returned (.bool true) ∧ Below W.heap.size W w' := fun W h hm => by
              by_cases h0 : dueP [p, q] (pairL p q) = 0
              · have hv := due_zero h0; exact told_any W _ _ _ _ _ _ h hm Z2 (by have := pairL_len p q; have := behind_len q; have := rn_le (hv q (by simp)); have := (hv p (by simp)).1; have := (hv q (by simp)).1; omega)
              · obtain ⟨rfl, _, _, h2⟩ := h
                rw [h2 h0]; obtain ⟨a, c, hf⟩ := hm.form; exact told_no W _ _ h0 ⟨_, _, _, hf⟩
            have G3 : ∀ W, GotP W (.slice ax nx cx) ex (dueP [c, p, q] (ifL c p q)) (ifL c p q) → ArgP W (.slice a3 n3 c3) (mk (PValid c ∧ PValid p ∧ PValid q) (ifL c p q)) → Calls Try.prog 31 #[.slice ax nx cx, .int .i64 ex, .int .i64 (dueP [c, p, q] (ifL c p q)), .slice a3 n3 c3] W fun e w' => e = .returned (.bool true) ∧ Below W.heap.size W w' := fun W h hm => by
              by_cases h0 : dueP [c, p, q] (ifL c p q) = 0
              · have hv := due_zero h0; exact told_any W _ _ _ _ _ _ h hm Z3 (by have := ifL_len c p q; have := behind_len p; have := behind_len q; have := rn_le (hv p (by simp)); have := rn_le (hv q (by simp)); have := (hv c (by simp)).1; have := (hv p (by simp)).1; have := (hv q (by simp)).1; omega)
              · obtain ⟨rfl, _, _, h2⟩ := h
                rw [h2 h0]; obtain ⟨a, c, hf⟩ := hm.form; exact told_no W _ _ h0 ⟨_, _, _, hf⟩
            have G4 : ∀ W, GotP W (.slice aw nw cw) ew (dueP [c, p] (whileL c p)) (whileL c p) → ArgP W (.slice a4 n4 c4) (mk (PValid c ∧ PValid p) (whileL c p)) → Calls Try.prog 31 #[.slice aw nw cw, .int .i64 ew, .int .i64 (dueP [c, p] (whileL c p)), .slice a4 n4 c4] W fun e w' => e = .returned (.bool true) ∧ Below W.heap.size W w' := fun W h hm => by
              by_cases h0 : dueP [c, p] (whileL c p) = 0
              · have hv := due_zero h0; exact told_any W _ _ _ _ _ _ h hm Z4 (by have := whileL_len c p; have := behind_len c; have := behind_len p; have := rn_le (hv c (by simp)); have := rn_le (hv p (by simp)); have := (hv c (by simp)).1; have := (hv p (by simp)).1; omega)
              · obtain ⟨rfl, _, _, h2⟩ := h
                rw [h2 h0]; obtain ⟨a, c, hf⟩ := hm.form; exact told_no W _ _ h0 ⟨_, _, _, hf⟩
            have D2 := Lib.hid (fun W h hm => due_any W w.heap.size 1 2 [p, q] (.slice a2 n2 c2) (mk (PValid p ∧ PValid q) (pairL p q)) h (by simp) (by intro r hr; simp only [List.mem_cons, List.not_mem_nil, or_false] at hr; rcases hr with rfl | rfl; exact SP.out; exact SQ.out) (fun _ => hm) (ArgP.form hm) SZ2.1 SZ2.2)
            have D3 := Lib.hid (fun W h hm => due_any W w.heap.size 0 3 [c, p, q] (.slice a3 n3 c3) (mk (PValid c ∧ PValid p ∧ PValid q) (ifL c p q)) h (by simp) (by intro r hr; simp only [List.mem_cons, List.not_mem_nil, or_false] at hr; rcases hr with rfl | rfl | rfl; exact SC.out; exact SP.out; exact SQ.out) (fun _ => hm) (ArgP.form hm) SZ3.1 SZ3.2)
            have D4 := Lib.hid (fun W h hm => due_any W w.heap.size 0 3 [c, p] (.slice a4 n4 c4) (mk (PValid c ∧ PValid p) (whileL c p)) h (by simp) (by intro r hr; simp only [List.mem_cons, List.not_mem_nil, or_false] at hr; rcases hr with rfl | rfl; exact SC.out; exact SP.out) (fun _ => hm) (ArgP.form hm) SZ4.1 SZ4.2)
            rw [E2] at D2
            rw [E3] at D3
            rw [E4] at D4
            have T2 := Lib.hid G2; have T3 := Lib.hid G3; have T4 := Lib.hid G4
            clear SZ2 SZ3 SZ4 E2 E3 E4 Z2 Z3 Z4 G2 G3 G4
            generalize dueP [p, q] (pairL p q) = d2 at *
            generalize dueP [c, p, q] (ifL c p q) = d3 at *
            generalize dueP [c, p] (whileL c p) = d4 at *
            go_wp2_with fail
            refine (D2.out _ (pieces_tail HL11.out) M2b.out).mono ?_
            rintro e w20 ⟨rfl, h20⟩
            have GB12 := Lib.hid (GB11.out.below h20); have GX12 := Lib.hid (GX11.out.below h20); have GW12 := Lib.hid (GW11.out.below h20); have HL12 := Lib.hid (HL11.out.below h20)
            have hb12 := Lib.hid (bstep hb11.out h20)
            have M2c := Lib.hid (M2b.out.below h20)
            have M3c := Lib.hid (M3.out.below h20)
            have M4c := Lib.hid (M4.out.below h20)
            clear GB11 GX11 GW11 HL11 M2b M3 M4
            clear h20
            go_wp2_with fail
            refine (T2.out _ GB12.out M2c.out).mono ?_
            rintro e w21 ⟨rfl, h21⟩
            have GB13 := Lib.hid (GB12.out.below h21); have GX13 := Lib.hid (GX12.out.below h21); have GW13 := Lib.hid (GW12.out.below h21); have HL13 := Lib.hid (HL12.out.below h21)
            have hb13 := Lib.hid (bstep hb12.out h21)
            have M3d := Lib.hid (M3c.out.below h21)
            have M4d := Lib.hid (M4c.out.below h21)
            clear GB12 GX12 GW12 HL12 M3c M4c
            clear h21
            go_wp2_with fail
            refine (D3.out _ HL13.out M3d.out).mono ?_
            rintro e w22 ⟨rfl, h22⟩
            have GB14 := Lib.hid (GB13.out.below h22); have GX14 := Lib.hid (GX13.out.below h22); have GW14 := Lib.hid (GW13.out.below h22); have HL14 := Lib.hid (HL13.out.below h22)
            have hb14 := Lib.hid (bstep hb13.out h22)
            have M3e := Lib.hid (M3d.out.below h22)
            have M4e := Lib.hid (M4d.out.below h22)
            clear GB13 GX13 GW13 HL13 M3d M4d
            clear h22
            go_wp2_with fail
            refine (T3.out _ GX14.out M3e.out).mono ?_
            rintro e w23 ⟨rfl, h23⟩
            have GB15 := Lib.hid (GB14.out.below h23); have GX15 := Lib.hid (GX14.out.below h23); have GW15 := Lib.hid (GW14.out.below h23); have HL15 := Lib.hid (HL14.out.below h23)
            have hb15 := Lib.hid (bstep hb14.out h23)
            have M4f := Lib.hid (M4e.out.below h23)
            clear GB14 GX14 GW14 HL14 M4e
            clear h23
            go_wp2_with fail
            refine (D4.out _ (pieces_init (pss := [c, p]) (p := q) HL15.out) M4f.out).mono ?_
            rintro e w24 ⟨rfl, h24⟩
            have GB16 := Lib.hid (GB15.out.below h24); have GX16 := Lib.hid (GX15.out.below h24); have GW16 := Lib.hid (GW15.out.below h24); have HL16 := Lib.hid (HL15.out.below h24)
            have hb16 := Lib.hid (bstep hb15.out h24)
            have M4g := Lib.hid (M4f.out.below h24)
            clear GB15 GX15 GW15 HL15 M4f
            clear h24
            go_wp2_with fail
            refine (T4.out _ GW16.out M4g.out).mono ?_
            rintro e w25 ⟨rfl, h25⟩
            have hb17 := Lib.hid (bstep hb16.out h25)
            clear h25
            go_wp2_with fail
            refine (awake4_any _).mono ?_
            rintro e w26 ⟨rfl, h26⟩
            have hb18 := Lib.hid (bstep hb17.out h26)
            clear h26
            go_wp2
            go_ret
            exact ⟨rfl, hb18.out⟩
theorem BuildMakes_any (w : World) (d : ByteArray) (vc vp vq : Value) (c p q : List Ins) (hc : ArgP w vc c) (lc : c.length * 48 ≤ 140737488355328) (zc : ∀ x ∈ c, x.tree.length ≤ 281474976710656) (hp : ArgP w vp p) (lp : p.length * 48 ≤ 140737488355328) (zp : ∀ x ∈ p, x.tree.length ≤ 281474976710656) (hq : ArgP w vq q) (lq : q.length * 48 ≤ 140737488355328) (zq : ∀ x ∈ q, x.tree.length ≤ 281474976710656) (hd : d.size ≤ 281474976710656) :
    Calls Try.prog 4 #[.string d, vc, vp, vq] w fun e w' => e = .returned (.bool true) ∧ Below w.heap.size w w' := by
  obtain ⟨l, rfl⟩ : ∃ l, d = S l := ⟨d.data.toList, by simp [S]⟩
  rw [S_size] at hd
  exact makes_any w l vc vp vq c p q hd hc hp hq ⟨by omega, zc⟩ ⟨by omega, zp⟩ ⟨by omega, zq⟩ lc lp lq
end Go.Proofs.Ytmhoacnbmbhcjab
