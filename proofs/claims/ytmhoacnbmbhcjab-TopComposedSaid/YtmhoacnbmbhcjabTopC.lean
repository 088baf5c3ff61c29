/- The statement TopComposed, walked. By an AI agent. -/
import Derived.Test.YtmhoacnbmbhcjabTopL
namespace Go.Proofs.Ytmhoacnbmbhcjab
open Go.RowKit Pl

/-- what play has returned: a pointer, a number of steps, and how the run ended -/
def PR (ps : List Ins) (x : Tr) (K : Nat) (w : World) (Y : Option Addr) (n : Nat) (how : Int) : Prop :=
  (how = 0 ∧ ∃ y, out ps K (first x) = .ok y n ∧ n ≤ K ∧ (tx y).length ≤ 2000000 ∧ NodeW 106 w y (.pointer Y)) ∨
  (how = 1 ∧ out ps K (first x) = .fuel ∧ n ≤ K ∧ Y = none) ∨ (how = 2 ∧ out ps K (first x) = .size ∧ n ≤ K ∧ Y = none)
theorem PR.below {ps : List Ins} {x : Tr} {K : Nat} {w w' : World} {Y : Option Addr} {n : Nat} {how : Int} (h : PR ps x K w Y n how) (hb : Below w.heap.size w w') : PR ps x K w' Y n how := by
  rcases h with ⟨h1, y, h2, h3, h4, h5⟩ | h | h
  · exact .inl ⟨h1, y, h2, h3, h4, NodeW.below h5 hb⟩
  · exact .inr (.inl h)
  · exact .inr (.inr h)
theorem PR.steps {ps : List Ins} {x : Tr} {K : Nat} {w : World} {Y : Option Addr} {n : Nat} {how : Int} (h : PR ps x K w Y n how) : n ≤ K := by
  rcases h with ⟨_, _, _, h, _⟩ | ⟨_, _, h, _⟩ | ⟨_, _, h, _⟩ <;> exact h
theorem play_pr (w : World) (v : Value) (K : Nat) (ps : List Ins) (x : Tr) (X : Option Addr) (h : ArgP w v ps) (hv : PValid ps) (hx : NodeW 106 w x (.pointer X)) (hxl : (tx x).length ≤ 2000000) (hK : K ≤ 10000000) :
    Calls Try.prog 45 #[v, .pointer X, .int .i64 (K : Int)] w fun e w' => ∃ Y n how, e = .returned (.tuple #[.pointer Y, .int .i64 ((n : Nat) : Int), .int .i64 how]) ∧ PR ps x K w' Y n how ∧ Below w.heap.size w w' := by
  refine (play_any w v K ps x X h hv hx hxl hK).mono ?_
  rintro e w' ⟨hb, ⟨y, n, Y, h1, h2, h3, rfl, h5⟩ | ⟨h1, rfl⟩ | ⟨n, h1, h2, rfl⟩⟩
  · exact ⟨Y, n, 0, rfl, .inl ⟨rfl, y, h1, h2, h3, h5⟩, hb⟩
  · exact ⟨none, K, 1, rfl, .inr (.inl ⟨rfl, h1, Nat.le_refl _, rfl⟩), hb⟩
  · exact ⟨none, n, 2, rfl, .inr (.inr ⟨rfl, h1, by omega, rfl⟩), hb⟩
theorem fits_then2 {p q : List Ins} (hp : GoodP p 60 2000 ∧ rn p ≤ 28) (hq : GoodP q 60 2000 ∧ rn q ≤ 28) : FitsP (thenL [p, q]) := by
  have h1 := small_len p hp
  have h2 := behind_small hq
  rw [(then_eq p q).2]
  unfold FitsP
  simp only [List.length_append, List.length_nil, trees_app, trees_nil]
  omega
theorem fits_pair2 {p q : List Ins} (hp : GoodP p 60 2000 ∧ rn p ≤ 28) (hq : GoodP q 60 2000 ∧ rn q ≤ 28) : FitsP (pairL p q) := by
  have h1 := small_len p hp
  have h2 := behind_small hq
  unfold FitsP pairL
  simp only [List.length_append, List.length_cons, List.length_nil, trees_app, trees_cons, trees_nil, moveI, consI]
  omega
theorem fits_if3 {c p q : List Ins} (hc : GoodP c 60 2000 ∧ rn c ≤ 28) (hp : GoodP p 60 2000 ∧ rn p ≤ 28) (hq : GoodP q 60 2000 ∧ rn q ≤ 28) : FitsP (ifL c p q) := by
  have h0 := small_len c hc
  have h1 := behind_small hp
  have h2 := behind_small hq
  unfold FitsP ifL
  simp only [List.length_append, List.length_cons, List.length_nil, trees_app, trees_cons, trees_nil, moveI, jumpI, setI]
  omega
theorem few_two {p q : List Ins} (hp : GoodP p 60 2000 ∧ rn p ≤ 28) (hq : GoodP q 60 2000 ∧ rn q ≤ 28) : FewP [p, q] := by
  intro r hr; simp only [List.mem_cons, List.not_mem_nil, or_false] at hr; rcases hr with rfl | rfl; exact hp; exact hq
theorem few_three {c p q : List Ins} (hc : GoodP c 60 2000 ∧ rn c ≤ 28) (hp : GoodP p 60 2000 ∧ rn p ≤ 28) (hq : GoodP q 60 2000 ∧ rn q ≤ 28) : FewP [c, p, q] := by
  intro r hr; simp only [List.mem_cons, List.not_mem_nil, or_false] at hr; rcases hr with rfl | rfl | rfl; exact hc; exact hp; exact hq
set_option maxHeartbeats 12800000 in
set_option maxRecDepth 100000 in
theorem composed_in (w : World) (vc vp vq : Value) (d : List UInt8) (c p q : List Ins) (hc : ArgP w vc c) (hp : ArgP w vp p) (hq : ArgP w vq q) (fc : GoodP c 60 2000 ∧ rn c ≤ 28) (fp : GoodP p 60 2000 ∧ rn p ≤ 28) (fq : GoodP q 60 2000 ∧ rn q ≤ 28) (x : Tr) (hd : tx x = d) (hdl : d.length ≤ 2000) :
    Calls Try.prog 10 #[vc, vp, .agg #[vq, .string (S d)]] w fun e w' => e = .returned (.bool true) ∧ Below w.heap.size w w' := by
  have hvc := good_valid fc.1 (by omega) (by omega)
  have hvp := good_valid fp.1 (by omega) (by omega)
  have hvq := good_valid fq.1 (by omega) (by omega)
  have hxl : (tx x).length ≤ 2000000 := by rw [hd]; omega
  have hf3 := few_three fc fp fq
  have HG := Lib.hid (fun W => grow_any d 2000 W hdl (by omega))
  have HFW := Lib.hid (fun W b cap h => few_any W b 0 cap [c, p, q] true h (by simp) (by intro r hr; simp only [List.mem_cons, List.not_mem_nil, or_false] at hr; rcases hr with rfl | rfl | rfl; exact few_size fc; exact few_size fp; exact few_size fq) (by simp [hf3]))
  have HTC := Lib.hid (fun W h => ttwin_arg W vc c h (by have := fc.1.1; omega))
  have HTP := Lib.hid (fun W h => ttwin_arg W vp p h (by have := fp.1.1; omega))
  have HTQ := Lib.hid (fun W h => ttwin_arg W vq q h (by have := fq.1.1; omega))
  have HTH := Lib.hid (fun W b cap h => Then_some W b 0 cap [p, q] h (by simp) (by intro r hr; simp only [List.mem_cons, List.not_mem_nil, or_false] at hr; rcases hr with rfl | rfl; exact few_size fp; exact few_size fq))
  rw [due_zero' (few_two fp fq) (fits_then2 fp fq)] at HTH
  have HPA := Lib.hid (fun W up uq h1 h2 => Pair_any W up uq p q h1 h2 (few_size fp) (few_size fq))
  rw [due_zero' (few_two fp fq) (fits_pair2 fp fq)] at HPA
  have HIF := Lib.hid (fun W uc up uq h0 h1 h2 => If_any W uc up uq c p q h0 h1 h2 (few_size fc) (few_size fp) (few_size fq))
  rw [due_zero' hf3 (fits_if3 fc fp fq)] at HIF
  have hvt : PValid (thenL [p, q]) := (fits_valid (allR_then (by intro r hr; simp only [List.mem_cons, List.not_mem_nil, or_false] at hr; rcases hr with rfl | rfl; exact hvp; exact hvq))).2 (fits_then2 fp fq)
  have hvb : PValid (pairL p q) := (fits_valid (allR_pair hvp hvq fp.2 fq.2)).2 (fits_pair2 fp fq)
  have hvi : PValid (ifL c p q) := (fits_valid (allR_if hvc hvp hvq fc.2 fp.2 fq.2)).2 (fits_if3 fc fp fq)
  have HPC := Lib.hid (fun W y Y h hy hl => play_pr W vc 300 c y Y h hvc hy hl (by omega))
  have HPP := Lib.hid (fun W y Y h hy hl => play_pr W vp 300 p y Y h hvp hy hl (by omega))
  have HPQ := Lib.hid (fun W y Y h hy hl => play_pr W vq 300 q y Y h hvq hy hl (by omega))
  have HRP := Lib.hid (fun W h => tregs_arg W vp p h hvp)
  have HRQ := Lib.hid (fun W h => tregs_arg W vq q h hvq)
  rw [← rn_eq] at HRP HRQ
  have HLT := Lib.hid (fun W v X h hx ho => lasts_ok W v 300 (thenL [p, q]) x X h hvt hx hxl (by omega) ho)
  have HLB := Lib.hid (fun W v X h hx ho => lasts_ok W v 300 (pairL p q) x X h hvb hx hxl (by omega) ho)
  have HLI := Lib.hid (fun W v X h hx ho => lasts_ok W v 300 (ifL c p q) x X h hvi hx hxl (by omega) ho)
  have HET := Lib.hid (fun W v K y X Y h hx hy hK ho => returns_ok W v K (thenL [p, q]) x y X Y h hvt hx hy hxl hK ho)
  have HEB := Lib.hid (fun W v K y X Y h hx hy hK ho => returns_ok W v K (pairL p q) x y X Y h hvb hx hy hxl hK ho)
  have HEI := Lib.hid (fun W v K y X Y h hx hy hK ho => returns_ok W v K (ifL c p q) x y X Y h hvi hx hy hxl hK ho)
  have M1 := Lib.hid (fun (F : Nat) (h : out p F (first x) = .fuel) => And.intro (then_going (q := q) hvp hxl h) (pair_going hvp fp.2 fq.2 hxl h))
  have M2 := Lib.hid (fun (y z : Tr) (k n F : Nat) (h1 : out p F (first x) = .ok y k) (h2 : out q F (first y) = .ok z n) => then_end hvp hvq hxl h1 h2)
  have M3 := Lib.hid (fun (y : Tr) (k F : Nat) (h1 : out p F (first x) = .ok y k) (h2 : out q F (first y) = .fuel) => then_going2 hvp hvq hxl h1 h2)
  have M4 := Lib.hid (fun (y z : Tr) (k n F : Nat) (h1 : out p F (first x) = .ok y k) (h2 : out q F (first x) = .ok z n) (hz : (tx (.pair y z)).length ≤ 2000000) => pair_end hvp hvq fp.2 fq.2 hxl h1 h2 hz)
  have M5 := Lib.hid (fun (F : Nat) (h : out c F (first x) = .fuel) => if_going (p := p) (q := q) hvc fc.2 fp.2 fq.2 hxl h)
  have M6 := Lib.hid (fun (y : Tr) (k F : Nat) (h : out c F (first x) = .ok y k) => if_all hvc hvp hvq fc.2 fp.2 fq.2 hxl h)
  have hrp : (rn p : Int) ≤ 28 := by have := fp.2; omega
  have hrq : (rn q : Int) ≤ 28 := by have := fq.2; omega
  have hrp0 : (0 : Int) ≤ (rn p : Int) := by omega
  have hrq0 : (1 : Int) ≤ (rn q : Int) := by have := rn_pos q; omega
  have HAC := Lib.hid hc; have HAP := Lib.hid hp; have HAQ := Lib.hid hq; have HD := Lib.hid hd
  have HXL := Lib.hid hxl
  obtain ⟨ac, cc, rfl⟩ := hc.form
  obtain ⟨ap, cp, rfl⟩ := hp.form
  obtain ⟨aq, cq, rfl⟩ := hq.form
  clear hc hp hq fc fp fq hd hdl hvc hvp hvq hxl hf3 hvt hvb hvi
  generalize c.length = lc at *
  generalize p.length = lp at *
  generalize q.length = lq at *
  generalize rn p = rp at *
  generalize rn q = rq at *
  have HIN := Lib.hid (alloc_below w (.cells #[.slice aq lq cq, .string (S d)] 64))
  go_enter Try.func10, Try.ntmps10
  go_wp2_with fail
  refine (HG.out _).mono ?_
  rintro e w1 ⟨h1, ⟨t1, v1, ht1, rfl, hn1⟩ | ⟨hno, _⟩⟩
  rotate_left
  · exact absurd ⟨x, HD.out⟩ hno
  obtain rfl : t1 = x := tx_inj (by rw [ht1, HD.out])
  obtain ⟨X, rfl⟩ := hn1.one
  have NX1 := Lib.hid hn1; have B1 := Lib.hid (bstep HIN.out h1)
  clear hn1 h1 ht1
  have L2 := Lib.hid (lit_pieces w1 [.slice ac lc cc, .slice ap lp cp, .slice aq lq cq] [c, p, q] ⟨HAC.out.below B1.out, HAP.out.below B1.out, HAQ.out.below B1.out, trivial⟩)
  have B2 := Lib.hid (bstep B1.out (alloc_below w1 (.cells #[.slice ac lc cc, .slice ap lp cp, .slice aq lq cq] 23)))
  have NX2 := Lib.hid (NodeW.below NX1.out (alloc_below w1 (.cells #[.slice ac lc cc, .slice ap lp cp, .slice aq lq cq] 23)))
  go_wp2_with fail
  refine (HFW.out _ _ 3 L2.out).mono ?_
  rintro e w3 ⟨rfl, h3⟩
  have B3 := Lib.hid (bstep B2.out h3); have NX3 := Lib.hid (NodeW.below NX2.out h3)
  clear h3 L2
  go_wp2_with fail
  refine (HTP.out _ (HAP.out.below B3.out)).mono ?_
  rintro e w4 ⟨v4, rfl, ha, h⟩
  have B4 := Lib.hid (bstep B3.out h); have NX4 := Lib.hid (NodeW.below NX3.out h); have A4 := Lib.hid ha
  clear h ha
  obtain ⟨ta4, tc4, rfl⟩ := A4.out.form
  generalize hlp2 : p.length = lp2 at *
  clear hlp2
  go_wp2_with fail
  refine (HTQ.out _ (HAQ.out.below B4.out)).mono ?_
  rintro e w5 ⟨v5, rfl, ha, h⟩
  have B5 := Lib.hid (bstep B4.out h); have NX5 := Lib.hid (NodeW.below NX4.out h); have A5 := Lib.hid ha
  have A4 := Lib.hid (A4.out.below h)
  clear h ha
  obtain ⟨ta5, tc5, rfl⟩ := A5.out.form
  generalize hlq2 : q.length = lq2 at *
  clear hlq2
  have L3 := Lib.hid (lit_pieces w5 [.slice ta4 lp2 tc4, .slice ta5 lq2 tc5] [p, q] ⟨A4.out, A5.out, trivial⟩)
  have BL := Lib.hid (bstep B5.out (alloc_below w5 (.cells #[.slice ta4 lp2 tc4, .slice ta5 lq2 tc5] 23)))
  have NXL := Lib.hid (NodeW.below NX5.out (alloc_below w5 (.cells #[.slice ta4 lp2 tc4, .slice ta5 lq2 tc5] 23)))
  go_wp2_with fail
  refine (HTH.out _ _ 2 L3.out).mono ?_
  rintro e w6 ⟨h, ⟨_, v6, rfl, ha⟩ | ⟨h0, _⟩⟩
  rotate_left
  · exact absurd rfl h0
  have B6 := Lib.hid (bstep BL.out h); have NX6 := Lib.hid (NodeW.below NXL.out h); have AT := Lib.hid ha
  clear h ha L3
  go_wp2_with fail
  refine (HTP.out _ (HAP.out.below B6.out)).mono ?_
  rintro e w7 ⟨v7, rfl, ha, h⟩
  have B7 := Lib.hid (bstep B6.out h); have NX7 := Lib.hid (NodeW.below NX6.out h); have A7 := Lib.hid ha
  have AT := Lib.hid (AT.out.below h)
  clear h ha
  go_wp2_with fail
  refine (HTQ.out _ (HAQ.out.below B7.out)).mono ?_
  rintro e w8 ⟨v8, rfl, ha, h⟩
  have B8 := Lib.hid (bstep B7.out h); have NX8 := Lib.hid (NodeW.below NX7.out h); have A8 := Lib.hid ha
  have AT := Lib.hid (AT.out.below h)
  have A7 := Lib.hid (A7.out.below h)
  clear h ha
  go_wp2_with fail
  refine (HPA.out _ _ _ A7.out A8.out).mono ?_
  rintro e w9 ⟨h, ⟨_, v9, rfl, ha⟩ | ⟨h0, _⟩⟩
  rotate_left
  · exact absurd rfl h0
  have B9 := Lib.hid (bstep B8.out h); have NX9 := Lib.hid (NodeW.below NX8.out h); have AB := Lib.hid ha
  have AT := Lib.hid (AT.out.below h)
  have A7 := Lib.hid (A7.out.below h)
  have A8 := Lib.hid (A8.out.below h)
  clear h ha
  go_wp2_with fail
  refine (HTC.out _ (HAC.out.below B9.out)).mono ?_
  rintro e w10 ⟨v10, rfl, ha, h⟩
  have B10 := Lib.hid (bstep B9.out h); have NX10 := Lib.hid (NodeW.below NX9.out h); have A10 := Lib.hid ha
  have AT := Lib.hid (AT.out.below h)
  have AB := Lib.hid (AB.out.below h)
  clear h ha
  go_wp2_with fail
  refine (HTP.out _ (HAP.out.below B10.out)).mono ?_
  rintro e w11 ⟨v11, rfl, ha, h⟩
  have B11 := Lib.hid (bstep B10.out h); have NX11 := Lib.hid (NodeW.below NX10.out h); have A11 := Lib.hid ha
  have AT := Lib.hid (AT.out.below h)
  have AB := Lib.hid (AB.out.below h)
  have A10 := Lib.hid (A10.out.below h)
  clear h ha
  go_wp2_with fail
  refine (HTQ.out _ (HAQ.out.below B11.out)).mono ?_
  rintro e w12 ⟨v12, rfl, ha, h⟩
  have B12 := Lib.hid (bstep B11.out h); have NX12 := Lib.hid (NodeW.below NX11.out h); have A12 := Lib.hid ha
  have AT := Lib.hid (AT.out.below h)
  have AB := Lib.hid (AB.out.below h)
  have A10 := Lib.hid (A10.out.below h)
  have A11 := Lib.hid (A11.out.below h)
  clear h ha
  go_wp2_with fail
  refine (HIF.out _ _ _ _ A10.out A11.out A12.out).mono ?_
  rintro e w13 ⟨h, ⟨_, v13, rfl, ha⟩ | ⟨h0, _⟩⟩
  rotate_left
  · exact absurd rfl h0
  have B13 := Lib.hid (bstep B12.out h); have NX13 := Lib.hid (NodeW.below NX12.out h); have AI := Lib.hid ha
  have AT := Lib.hid (AT.out.below h)
  have AB := Lib.hid (AB.out.below h)
  have A10 := Lib.hid (A10.out.below h)
  have A11 := Lib.hid (A11.out.below h)
  have A12 := Lib.hid (A12.out.below h)
  clear h ha
  have HBA := Lib.hid (fun W (h : Below w13.heap.size w13 W) => bstep B13.out h)
  have HXA := Lib.hid (fun W (h : Below w13.heap.size w13 W) => NodeW.below NX13.out h)
  have HTA := Lib.hid (fun W (h : Below w13.heap.size w13 W) => AT.out.below h)
  have HPB := Lib.hid (fun W (h : Below w13.heap.size w13 W) => AB.out.below h)
  have HIA := Lib.hid (fun W (h : Below w13.heap.size w13 W) => AI.out.below h)
  go_wp2_with fail
  refine (HPP.out _ _ X (HAP.out.below B13.out) NX13.out HXL.out).mono ?_
  rintro e w20 ⟨Y, k, how, rfl, hpr, h⟩
  have PR1 := Lib.hid hpr; have C20 := Lib.hid h
  have hk0 : (0 : Int) ≤ (k : Int) := by omega
  have hk1 : (k : Int) ≤ 300 := by have := hpr.steps; omega
  clear hpr h
  go_upto_region 9 with fail
  go_cut [94] (fun s94 wx => s94 = .bool false ∧ Below w20.heap.size w20 wx)
  case first => as_aux_lemma =>
    rcases PR1.out with ⟨rfl, _⟩ | ⟨rfl, ho, _, rfl⟩ | ⟨rfl, _⟩
    · go_wp2_with fail
      go_meet
      exact ⟨rfl, Below.refl _ _⟩
    · have HO := Lib.hid ho
      clear ho
      go_wp2_with fail
      refine (HLT.out _ _ _ (HTA.out _ C20.out) (HXA.out _ C20.out) (M1.out _ HO.out).1).mono ?_
      rintro e w21 ⟨rfl, h⟩
      have D21 := Lib.hid h
      have C21 := Lib.hid (C20.out.trans (h.mono C20.out.size))
      clear h
      go_wp2_with fail
      refine (HLB.out _ _ _ (HPB.out _ C21.out) (HXA.out _ C21.out) (M1.out _ HO.out).2).mono ?_
      rintro e w22 ⟨rfl, h⟩
      have D22 := Lib.hid (bstep D21.out h)
      clear h
      go_wp2_with fail
      go_meet
      exact ⟨rfl, D22.out⟩
    · go_wp2_with fail
      go_meet
      exact ⟨rfl, Below.refl _ _⟩
  case rest => as_aux_lemma =>
    obtain ⟨rfl, hcut⟩ := hcut
    rename World => w30
    have D30 := Lib.hid hcut
    have C30 := Lib.hid (C20.out.trans (hcut.mono C20.out.size))
    have PR2 := Lib.hid (PR1.out.below hcut)
    clear hcut
    go_wp2_with fail
    refine (HRQ.out _ (HAQ.out.below (HBA.out _ C30.out))).mono ?_
    rintro e w31 ⟨rfl, h⟩
    have C31 := Lib.hid (C30.out.trans (h.mono C30.out.size))
    have PR3 := Lib.hid (PR2.out.below h)
    clear h D30 PR1 PR2
    go_upto_if 99 with fail
    go_cut [] (fun wx => Below w31.heap.size w31 wx)
    case first => as_aux_lemma =>
      rcases PR3.out with ⟨rfl, y, ho, _, hyl, hY⟩ | ⟨rfl, _⟩ | ⟨rfl, _⟩
      rotate_left
      · go_wp2_with fail
        go_meet
        exact Below.refl _ _
      · go_wp2_with fail
        go_meet
        exact Below.refl _ _
      have HO := Lib.hid ho; have HYL := Lib.hid hyl; have HY := Lib.hid hY
      clear ho hyl hY
      go_wp2_with fail
      refine (HPQ.out _ y Y (HAQ.out.below (HBA.out _ C31.out)) HY.out HYL.out).mono ?_
      rintro e w32 ⟨Z, l, how2, rfl, hpr, h⟩
      have PQ1 := Lib.hid hpr; have D32 := Lib.hid h
      have C32 := Lib.hid (C31.out.trans (h.mono C31.out.size))
      have hl0 : (0 : Int) ≤ (l : Int) := by omega
      have hl1 : (l : Int) ≤ 300 := by have := hpr.steps; omega
      clear hpr h
      go_upto_region 14 with fail
      go_cut [132] (fun s132 wx => s132 = .bool false ∧ Below w32.heap.size w32 wx)
      case first => as_aux_lemma =>
        rcases PQ1.out with ⟨rfl, z, ho, _, _, hZ⟩ | ⟨rfl, ho, _, rfl⟩ | ⟨rfl, _⟩
        · have hcast : ((k + l + (rq - 1) : Nat) : Int) = (k : Int) + (l : Int) + ((rq : Int) - 1) := by omega
          have HR := Lib.hid (HET.out w32 v6 _ z X Z (HTA.out _ C32.out) (HXA.out _ C32.out) hZ (by omega) (M2.out _ _ _ _ _ HO.out ho))
          rw [hcast] at HR
          clear ho hZ hcast
          go_wp2_with fail
          refine HR.out.mono ?_
          rintro e w33 ⟨rfl, h⟩
          have D33 := Lib.hid h
          clear h
          go_wp2_with fail
          go_meet
          exact ⟨rfl, D33.out⟩
        · have HR := Lib.hid (HLT.out w32 v6 X (HTA.out _ C32.out) (HXA.out _ C32.out) (M3.out _ _ _ HO.out ho))
          clear ho
          go_wp2_with fail
          refine HR.out.mono ?_
          rintro e w33 ⟨rfl, h⟩
          have D33 := Lib.hid h
          clear h
          go_wp2_with fail
          go_meet
          exact ⟨rfl, D33.out⟩
        · go_wp2_with fail
          go_meet
          exact ⟨rfl, Below.refl _ _⟩
      case rest => as_aux_lemma =>
        obtain ⟨rfl, hcut⟩ := hcut
        rename World => w40
        have D40 := Lib.hid (bstep D32.out hcut)
        have C40 := Lib.hid (C32.out.trans (hcut.mono C32.out.size))
        clear hcut
        go_wp2_with fail
        refine (HPQ.out _ t1 X (HAQ.out.below (HBA.out _ C40.out)) (HXA.out _ C40.out) HXL.out).mono ?_
        rintro e w41 ⟨Z2, l2, how3, rfl, hpr, h⟩
        have PQ2 := Lib.hid hpr; have D41 := Lib.hid (bstep D40.out h)
        have C41 := Lib.hid (C40.out.trans (h.mono C40.out.size))
        have hl20 : (0 : Int) ≤ (l2 : Int) := by omega
        have hl21 : (l2 : Int) ≤ 300 := by have := hpr.steps; omega
        clear hpr h
        rcases PQ2.out with ⟨rfl, z, ho, _, hzl, hZ⟩ | ⟨rfl, _⟩ | ⟨rfl, _⟩
        rotate_left
        · go_wp2_with fail
          go_meet
          exact D41.out
        · go_wp2_with fail
          go_meet
          exact D41.out
        have HS1 := Lib.hid (fun W h => tsize_any W y (.pointer Y) h)
        have HS2 := Lib.hid (fun W h => tsize_any W z (.pointer Z2) h)
        have HY41 := Lib.hid (NodeW.below HY.out D41.out)
        have HZ := Lib.hid hZ; have HZO := Lib.hid ho; have HZL := Lib.hid hzl
        have HPL := Lib.hid (tx_pair y z)
        obtain ⟨sy, hsy⟩ : ∃ sy, (tx y).length = sy := ⟨_, rfl⟩
        obtain ⟨sz, hsz⟩ : ∃ sz, (tx z).length = sz := ⟨_, rfl⟩
        have hsy2 : (sy : Int) ≤ 2000000 := len_le hsy HYL.out
        have hsz2 : (sz : Int) ≤ 2000000 := len_le hsz hzl
        rw [hsy] at HS1 HPL
        rw [hsz] at HS2 HPL
        clear hZ ho hzl hsy hsz
        by_cases hz : (sy : Int) + (sz : Int) < 2000000
        · have hcast : ((k + l2 + (rq - 1) + 4 : Nat) : Int) = (k : Int) + (l2 : Int) + ((rq : Int) - 1) + 4 := by omega
          have HPO := Lib.hid (M4.out _ _ _ _ _ HO.out HZO.out (by rw [HPL.out]; omega))
          have HCA := Lib.hid hcast
          have hz' : decide ((sy : Int) + (sz : Int) < 2000000) = true := decide_eq_true hz
          clear hcast hz
          go_wp2_with fail
          refine (HS1.out _ HY41.out).mono ?_
          rintro e w' ⟨rfl, rfl⟩
          go_wp2_with fail
          refine (HS2.out _ HZ.out).mono ?_
          rintro e w' ⟨rfl, rfl⟩
          go_wp2_with fail
          refine (tpair_any _ y z _ _ HY41.out HZ.out (by have := HYL.out; omega) (by have := HZL.out; omega)).mono ?_
          rintro e w42 ⟨v42, rfl, hv42, h⟩
          obtain ⟨V, rfl⟩ := hv42.one
          have HV := Lib.hid hv42; have D42 := Lib.hid (bstep D41.out h)
          have C42 := Lib.hid (C41.out.trans (h.mono C41.out.size))
          clear hv42 h
          have HR := Lib.hid (HEB.out w42 v9 _ _ X V (HPB.out _ C42.out) (HXA.out _ C42.out) HV.out (by omega) HPO.out)
          rw [HCA.out] at HR
          go_wp2_with fail
          refine HR.out.mono ?_
          rintro e w43 ⟨rfl, h⟩
          have D43 := Lib.hid (bstep D42.out h)
          clear h
          go_wp2_with fail
          go_meet
          exact D43.out
        · have hz' : decide ((sy : Int) + (sz : Int) < 2000000) = false := decide_eq_false hz
          clear hz
          go_wp2_with fail
          refine (HS1.out _ HY41.out).mono ?_
          rintro e w' ⟨rfl, rfl⟩
          go_wp2_with fail
          refine (HS2.out _ HZ.out).mono ?_
          rintro e w' ⟨rfl, rfl⟩
          go_wp2_with fail
          go_meet
          exact D41.out
    case rest => as_aux_lemma =>
      rename World => w50
      have C50 := Lib.hid (C31.out.trans (hcut.mono C31.out.size))
      clear hcut PR3
      go_wp2_with fail
      refine (HPC.out _ t1 X (HAC.out.below (HBA.out _ C50.out)) (HXA.out _ C50.out) HXL.out).mono ?_
      rintro e w51 ⟨Z, l, how2, rfl, hpr, h⟩
      have C51 := Lib.hid (C50.out.trans (h.mono C50.out.size))
      have hl0 : (0 : Int) ≤ (l : Int) := by omega
      have hl1 : (l : Int) ≤ 300 := by have := hpr.steps; omega
      rcases hpr with ⟨rfl, z, ho, _, hzl, hZ⟩ | ⟨rfl, ho, _, rfl⟩ | ⟨rfl, _, _, rfl⟩
      · have HZ := Lib.hid hZ; have HZO := Lib.hid ho
        clear hZ ho hzl h
        go_wp2_with fail
        refine (HRP.out _ (HAP.out.below (HBA.out _ C51.out))).mono ?_
        rintro e w52 ⟨rfl, h⟩
        have C52 := Lib.hid (C51.out.trans (h.mono C51.out.size))
        clear h
        cases z with
        | nil =>
          obtain rfl : Z = none := by have h9 : Value.pointer Z = .pointer none := HZ.out; injection h9
          have MM := Lib.hid ((M6.out _ _ _ HZO.out).2 rfl)
          go_wp2_with fail
          refine (HRQ.out _ (HAQ.out.below (HBA.out _ C52.out))).mono ?_
          rintro e w53 ⟨rfl, h⟩
          have C53 := Lib.hid (C52.out.trans (h.mono C52.out.size))
          clear h
          go_wp2_with fail
          refine (HPQ.out _ t1 X (HAQ.out.below (HBA.out _ C53.out)) (HXA.out _ C53.out) HXL.out).mono ?_
          rintro e w60 ⟨U, m, how4, rfl, hpr, h⟩
          have C60 := Lib.hid (C53.out.trans (h.mono C53.out.size))
          have hm0 : (0 : Int) ≤ (m : Int) := by omega
          have hm1 : (m : Int) ≤ 300 := by have := hpr.steps; omega
          rcases hpr with ⟨rfl, u, ho, _, hul, hU⟩ | ⟨rfl, ho, _, rfl⟩ | ⟨rfl, _, _, rfl⟩
          · have hcast : ((l + rq + 4 + m : Nat) : Int) = (l : Int) + (rq : Int) + 4 + (m : Int) := by omega
            have HR := Lib.hid (HEI.out w60 v13 _ u X U (HIA.out _ C60.out) (HXA.out _ C60.out) hU (by omega) (MM.out.1 _ _ _ ho))
            rw [hcast] at HR
            clear hcast ho hul hU h
            go_wp2_with fail
            refine HR.out.mono ?_
            rintro e w61 ⟨rfl, h⟩
            have C61 := Lib.hid (C60.out.trans (h.mono C60.out.size))
            clear h
            go_wp2_with fail
            refine (composes_any _).mono ?_
            rintro e w62 ⟨rfl, h⟩
            have B62 := Lib.hid (bstep (HBA.out _ C61.out) h)
            clear h
            go_wp2_with fail
            go_ret
            exact ⟨rfl, B62.out⟩
          · have HR := Lib.hid (HLI.out w60 v13 X (HIA.out _ C60.out) (HXA.out _ C60.out) (MM.out.2 _ ho))
            clear ho h
            go_wp2_with fail
            refine HR.out.mono ?_
            rintro e w61 ⟨rfl, h⟩
            have C61 := Lib.hid (C60.out.trans (h.mono C60.out.size))
            clear h
            go_wp2_with fail
            refine (composes_any _).mono ?_
            rintro e w62 ⟨rfl, h⟩
            have B62 := Lib.hid (bstep (HBA.out _ C61.out) h)
            clear h
            go_wp2_with fail
            go_ret
            exact ⟨rfl, B62.out⟩
          · clear h
            go_wp2_with fail
            refine (composes_any _).mono ?_
            rintro e w62 ⟨rfl, h⟩
            have B62 := Lib.hid (bstep (HBA.out _ C60.out) h)
            clear h
            go_wp2_with fail
            go_ret
            exact ⟨rfl, B62.out⟩
        | pair za zb =>
          obtain ⟨nB, no, xa, xb, hZp, _⟩ := HZ.out
          injection hZp with hZp
          subst hZp
          have MM := Lib.hid ((M6.out _ _ _ HZO.out).1 (by simp))
          go_wp2_with fail
          refine (HPP.out _ t1 X (HAP.out.below (HBA.out _ C52.out)) (HXA.out _ C52.out) HXL.out).mono ?_
          rintro e w60 ⟨U, m, how4, rfl, hpr, h⟩
          have C60 := Lib.hid (C52.out.trans (h.mono C52.out.size))
          have hm0 : (0 : Int) ≤ (m : Int) := by omega
          have hm1 : (m : Int) ≤ 300 := by have := hpr.steps; omega
          rcases hpr with ⟨rfl, u, ho, _, hul, hU⟩ | ⟨rfl, ho, _, rfl⟩ | ⟨rfl, _, _, rfl⟩
          · have hcast : ((l + rp + 2 + m : Nat) : Int) = (l : Int) + (rp : Int) + 2 + (m : Int) := by omega
            have HR := Lib.hid (HEI.out w60 v13 _ u X U (HIA.out _ C60.out) (HXA.out _ C60.out) hU (by omega) (MM.out.1 _ _ _ ho))
            rw [hcast] at HR
            clear hcast ho hul hU h
            go_wp2_with fail
            refine HR.out.mono ?_
            rintro e w61 ⟨rfl, h⟩
            have C61 := Lib.hid (C60.out.trans (h.mono C60.out.size))
            clear h
            go_wp2_with fail
            refine (composes_any _).mono ?_
            rintro e w62 ⟨rfl, h⟩
            have B62 := Lib.hid (bstep (HBA.out _ C61.out) h)
            clear h
            go_wp2_with fail
            go_ret
            exact ⟨rfl, B62.out⟩
          · have HR := Lib.hid (HLI.out w60 v13 X (HIA.out _ C60.out) (HXA.out _ C60.out) (MM.out.2 _ ho))
            clear ho h
            go_wp2_with fail
            refine HR.out.mono ?_
            rintro e w61 ⟨rfl, h⟩
            have C61 := Lib.hid (C60.out.trans (h.mono C60.out.size))
            clear h
            go_wp2_with fail
            refine (composes_any _).mono ?_
            rintro e w62 ⟨rfl, h⟩
            have B62 := Lib.hid (bstep (HBA.out _ C61.out) h)
            clear h
            go_wp2_with fail
            go_ret
            exact ⟨rfl, B62.out⟩
          · clear h
            go_wp2_with fail
            refine (composes_any _).mono ?_
            rintro e w62 ⟨rfl, h⟩
            have B62 := Lib.hid (bstep (HBA.out _ C60.out) h)
            clear h
            go_wp2_with fail
            go_ret
            exact ⟨rfl, B62.out⟩
      · have HO := Lib.hid ho
        clear ho h
        have HR := Lib.hid (HLI.out w51 v13 X (HIA.out _ C51.out) (HXA.out _ C51.out) (M5.out _ HO.out))
        go_wp2_with fail
        refine HR.out.mono ?_
        rintro e w52 ⟨rfl, h⟩
        have C52 := Lib.hid (C51.out.trans (h.mono C51.out.size))
        clear h
        go_wp2_with fail
        refine (composes_any _).mono ?_
        rintro e w53 ⟨rfl, h⟩
        have B53 := Lib.hid (bstep (HBA.out _ C52.out) h)
        clear h
        go_wp2_with fail
        go_ret
        exact ⟨rfl, B53.out⟩
      · clear h
        go_wp2_with fail
        refine (composes_any _).mono ?_
        rintro e w53 ⟨rfl, h⟩
        have B53 := Lib.hid (bstep (HBA.out _ C51.out) h)
        clear h
        go_wp2_with fail
        go_ret
        exact ⟨rfl, B53.out⟩
end Go.Proofs.Ytmhoacnbmbhcjab
