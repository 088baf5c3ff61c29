/- BuildLoops: its walk. By an AI agent. -/
import Derived.Test.YtmhoacnbmbhcjabPly
namespace Go.Proofs.Ytmhoacnbmbhcjab
open Go.RowKit Pl

theorem due_nil_zero {l : List (List Ins)} (h : dueP l [] = 0) : (∀ p ∈ l, PValid p) ∧ ∀ p ∈ l, rn p ≤ 28 := by
  unfold dueP at h
  by_cases h1 : ∃ p ∈ l, ¬ PValid p
  · rw [if_pos h1] at h; omega
  rw [if_neg h1] at h
  by_cases h2 : ∃ p ∈ l, 28 < rn p
  · rw [if_pos h2] at h; omega
  exact ⟨fun p hp => Classical.byContradiction fun hn => h1 ⟨p, hp, hn⟩, fun p hp => Nat.le_of_not_lt fun hn => h2 ⟨p, hp, hn⟩⟩
theorem round_last {c p : List Ins} (hc : PValid c) (hp : PValid p) (h0 : rn c ≤ 28) (h1 : rn p ≤ 28) {s0 : St} {a : PlS} (h : LInv (whileL c p) s0 a) (he : a.e = 0) (hy : ((a.other 1).cleaned c a.x).1 = [48]) :
    EndsP (whileL c p) s0 ((((a.other 1).cleaned c a.x).2.other 2).other 2) := by
  rcases h with ⟨_, x, s, hax, hx, hs, ha, hr⟩ | h
  · have h2 := round_is hc hp h0 h1 hax hx he hs ha hr
    unfold playRound at h2
    simp only [if_pos hy] at h2
    rcases h2 with h2 | h2
    · exact h2.2
    · exact absurd h2.1 (by simp)
  · exact absurd he h.ne
/-- what is kept behind a round that was not the last one -/
noncomputable def nextP (c p : List Ins) (a : PlS) : PlS :=
  let r2 := ((((a.other 1).cleaned c a.x).2.other 2).cleaned p a.x)
  if (r2.2.other 2).e = 0 then { (r2.2.other 2) with x := r2.1 } else r2.2.other 2
theorem round_next {c p : List Ins} (hc : PValid c) (hp : PValid p) (h0 : rn c ≤ 28) (h1 : rn p ≤ 28) {s0 : St} {a : PlS} (h : LInv (whileL c p) s0 a) (he : a.e = 0) (hy : ((a.other 1).cleaned c a.x).1 ≠ [48]) :
    LInv (whileL c p) s0 (nextP c p a) := by
  rcases h with ⟨_, x, s, hax, hx, hs, ha, hr⟩ | h
  · have h2 := round_is hc hp h0 h1 hax hx he hs ha hr
    unfold playRound at h2
    simp only [if_neg hy] at h2
    rcases h2 with h2 | h2
    · exact absurd h2.1 (by simp)
    · exact h2.2
  · exact absurd he h.ne
theorem LInv.vld {cs : List Ins} {s0 : St} {a : PlS} (h : LInv cs s0 a) (he : a.e = 0) : vld a.x = true := by
  rcases h with ⟨_, x, s, hax, hx, _⟩ | h
  · rw [hax]; exact vld_tx hx
  · exact absurd he h.ne
theorem other_e (a : PlS) (k : Nat) : (a.other k).e = a.e := by unfold PlS.other; split <;> rfl
theorem next_n {c p : List Ins} (h0 : rn c ≤ 28) (h1 : rn p ≤ 28) (a : PlS) : (nextP c p a).n ≤ a.n + 4100 := by
  have h := round_n (c := c) (p := p) (by omega) (by omega) a
  unfold nextP
  have e1 := other_n a 1
  have e2 := cleaned_n (a.other 1) c a.x (by omega)
  have e3 := other_n ((a.other 1).cleaned c a.x).2 2
  have e4 := cleaned_n (((a.other 1).cleaned c a.x).2.other 2) p a.x (by omega)
  have e5 := other_n ((((a.other 1).cleaned c a.x).2.other 2).cleaned p a.x).2 2
  simp only
  split
  · show (PlS.other 2 _).n ≤ _; omega
  · omega
open Classical in
noncomputable def FitsC (cs : List Ins) : Bool := decide (FitsP cs)
theorem FitsC_iff {cs : List Ins} : FitsC cs = true ↔ FitsP cs := by unfold FitsC; simp
theorem due_fits {l : List (List Ins)} {cs : List Ins} (h : ∀ p ∈ l, PValid p) (h2 : ∀ p ∈ l, rn p ≤ 28) : dueP l cs = if FitsC cs = true then 0 else 3 := by
  unfold dueP
  rw [if_neg (by rintro ⟨p, h1, h2⟩; exact h2 (h p h1)), if_neg (by rintro ⟨p, h1, h3⟩; have := h2 p h1; omega)]
  by_cases h3 : FitsP cs
  · rw [if_pos h3, if_pos (FitsC_iff.2 h3)]
  · rw [if_neg h3, if_neg (fun h4 => h3 (FitsC_iff.1 h4))]
set_option maxHeartbeats 3200000 in
set_option maxRecDepth 100000 in
theorem loops_out (w : World) (vc vp : Value) (c p : List Ins) (x : List UInt8) (hc : ArgP w vc c) (hp : ArgP w vp p) (sc : SizeP c) (sp : SizeP p) (hx : x.length ≤ 281474976710656) (h : dueP [c, p] [] ≠ 0 ∨ vld x = false) :
    Calls Try.prog 7 #[vc, vp, .string (S x)] w fun e w' => e = .returned (.bool true) ∧ Below w.heap.size w w' := by
  have HD := Lib.hid (due_any _ w.heap.size 0 2 [c, p] (.slice none 0 0) [] (lit_pieces w [vc, vp] [c, p] ⟨hc, hp, trivial⟩) (by simp) (by
    intro q hq
    simp only [List.mem_cons, List.not_mem_nil, or_false] at hq
    rcases hq with rfl | rfl
    · exact sc
    · exact sp) (fun _ => .inl ⟨rfl, .inl rfl⟩) ⟨none, 0, rfl⟩ (by simp) (by simp))
  obtain ⟨ac, cc, rfl⟩ := hc.form
  obtain ⟨ap, cp, rfl⟩ := hp.form
  have hb0 := Lib.hid (alloc_below w (.cells #[.slice ac c.length cc, .slice ap p.length cp] 23))
  clear hc hp sc sp
  by_cases h0 : dueP [c, p] [] = 0
  · have hv : vld x = false := by rcases h with h | h; exact absurd h0 h; exact h
    have HX := Lib.hid (fun W => rValid_eq false (S x) W (by rw [S_size]; exact hx) (by rw [S_list]; exact hv))
    rw [h0] at HD
    clear h h0 hv hx
    go_enter Try.func7, Try.ntmps7
    go_wp2_with fail
    refine HD.out.mono ?_
    rintro e w1 ⟨rfl, h1⟩
    have hb1 := Lib.hid (bstep hb0.out h1)
    clear h1
    go_wp2_with fail
    refine (HX.out _).mono ?_
    rintro e w2 ⟨rfl, rfl⟩
    go_wp2_with fail
    refine (awake4_any _).mono ?_
    rintro e w3 ⟨rfl, h3⟩
    have hb3 := Lib.hid (bstep hb1.out h3)
    clear h3
    go_wp2
    go_ret
    exact ⟨rfl, hb3.out⟩
  · have h0' : (dueP [c, p] [] != 0) = true := by rw [bne_iff_ne]; exact h0
    generalize dueP [c, p] [] = d at *
    clear h h0 hx
    go_enter Try.func7, Try.ntmps7
    go_wp2_with fail
    refine HD.out.mono ?_
    rintro e w1 ⟨rfl, h1⟩
    have hb1 := Lib.hid (bstep hb0.out h1)
    clear h1
    go_wp2_with fail
    refine (awake4_any _).mono ?_
    rintro e w3 ⟨rfl, h3⟩
    have hb3 := Lib.hid (bstep hb1.out h3)
    clear h3
    go_wp2
    go_ret
    exact ⟨rfl, hb3.out⟩
set_option maxHeartbeats 6400000 in
set_option maxRecDepth 100000 in
theorem loops_in (w : World) (vc vp : Value) (c p : List Ins) (x : List UInt8) (hc : ArgP w vc c) (hp : ArgP w vp p) (sc : SizeP c) (sp : SizeP p) (hx : vld x = true) (h : dueP [c, p] [] = 0) :
    Calls Try.prog 7 #[vc, vp, .string (S x)] w fun e w' => e = .returned (.bool true) ∧ Below w.heap.size w w' := by
  have HD := Lib.hid (due_any _ w.heap.size 0 2 [c, p] (.slice none 0 0) [] (lit_pieces w [vc, vp] [c, p] ⟨hc, hp, trivial⟩) (by simp) (by
    intro q hq
    simp only [List.mem_cons, List.not_mem_nil, or_false] at hq
    rcases hq with rfl | rfl
    · exact sc
    · exact sp) (fun _ => .inl ⟨rfl, .inl rfl⟩) ⟨none, 0, rfl⟩ (by simp) (by simp))
  rw [h] at HD
  obtain ⟨hv, h28⟩ := due_nil_zero h
  have cv := hv c (by simp); have pv := hv p (by simp); have c28 := h28 c (by simp); have p28 := h28 p (by simp)
  have HC := Lib.hid (fun W (h : Below w.heap.size w W) => hc.below h)
  have HP := Lib.hid (fun W (h : Below w.heap.size w W) => hp.below h)
  have HWH := Lib.hid (fun W h1 h2 => While_any W vc vp c p h1 h2 sc sp)
  have HX := Lib.hid (fun W => rValid_eq true (S x) W (by rw [S_size]; have := (vld_iff.1 hx).1; omega) (by rw [S_list]; exact hx))
  obtain ⟨ac, cc, rfl⟩ := hc.form
  obtain ⟨ap, cp, rfl⟩ := hp.form
  have hb0 := Lib.hid (alloc_below w (.cells #[.slice ac c.length cc, .slice ap p.length cp] 23))
  have hdue : dueP [c, p] (whileL c p) = if FitsC (whileL c p) = true then 0 else 3 := due_fits hv h28
  have HDUE := Lib.hid hdue
  have HAR := Lib.hid (allR_while cv pv c28 p28)
  have HST := Lib.hid (loop_start c p (x := rd x) (by rw [tx_rd hx]; exact (vld_iff.1 hx).1))
  rw [tx_rd hx] at HST
  have HRL := Lib.hid (fun a => round_last cv pv c28 p28 (s0 := first (rd x)) (a := a))
  have HRN := Lib.hid (fun a => round_next cv pv c28 p28 (s0 := first (rd x)) (a := a))
  have HNN := Lib.hid (fun a => next_n c28 p28 a)
  have HEN := Lib.hid (fun W b a v h hn hA hv he => ends_any W b a v (whileL c p) x h hn hA hv hx he)
  have HCL := Lib.hid (fun W b a y h hn hA hy => cleaned_any W b a (.slice ac c.length cc) c y h hn hA cv hy)
  have HPL := Lib.hid (fun W b a y h hn hA hy => cleaned_any W b a (.slice ap p.length cp) p y h hn hA pv hy)
  have HCN := Lib.hid (fun a y => cleaned_n a c y (by omega)); have HPN := Lib.hid (fun a y => cleaned_n a p y (by omega))
  have HXV := Lib.hid hx
  clear hc hp sc sp hv h28 cv pv c28 p28 h hdue hx
  go_enter Try.func7, Try.ntmps7
  go_wp2_with fail
  refine HD.out.mono ?_
  rintro e w1 ⟨rfl, h1⟩
  have hb1 := Lib.hid (bstep hb0.out h1)
  clear h1
  go_wp2_with fail
  refine (HX.out _).mono ?_
  rintro e w2 ⟨rfl, rfl⟩
  go_wp2_with fail
  refine (HWH.out _ (HC.out _ hb1.out) (HP.out _ hb1.out)).mono ?_
  intro e w3 hJ
  obtain ⟨h3, hJ⟩ := hJ
  have hb3 := Lib.hid (bstep hb1.out h3)
  clear h3
  rw [HDUE.out] at hJ
  cases hF : FitsC (whileL c p) with
  | false =>
    rw [hF] at hJ
    rcases hJ with ⟨h0, _⟩ | ⟨_, rfl⟩
    · exact absurd h0 (by simp)
    · clear hF
      go_wp2_with fail
      refine (awake4_any _).mono ?_
      rintro e w4 ⟨rfl, h4⟩
      have hb4 := Lib.hid (bstep hb3.out h4)
      clear h4
      go_wp2
      go_ret
      exact ⟨rfl, hb4.out⟩
  | true =>
    rw [hF] at hJ
    obtain ⟨v, rfl, hA⟩ : ∃ v, e = .returned (.tuple #[v, .int .i64 0]) ∧ ArgP w3 v (whileL c p) := by
      rcases hJ with ⟨_, h0⟩ | ⟨h0, _⟩
      · exact h0
      · exact absurd rfl h0
    clear hJ
    have HWV : Hid (PValid (whileL c p)) := Lib.hid ((fits_valid HAR.out).2 (FitsC_iff.1 hF))
    obtain ⟨va, vcap, rfl⟩ := hA.form
    have HA3 := Lib.hid hA
    have hP : PlAt (w3.alloc (.cells #[.string (S x), .int .i64 0, .int .i64 0] 54)) w3.heap.size ⟨x, 0, 0⟩ := PlAt.new w3 x 0 _
    have HP0 := Lib.hid hP
    have hb34 := Lib.hid (alloc_below w3 (.cells #[.string (S x), .int .i64 0, .int .i64 0] 54))
    clear hF hA hP
    go_wp2_with fail
    generalize w3.alloc (.cells #[.string (S x), .int .i64 0, .int .i64 0] 54) = W4 at *
    have HLOW := Lib.hid (fun W (hW : Below w3.heap.size w3 W) => bstep hb3.out hW)
    have HAW := Lib.hid (fun W (hW : Below w3.heap.size w3 W) => HA3.out.below hW)
    generalize hB : w3.heap.size = B at *
    clear hB
    go_loopw [10] (fun i wr => ∃ (k : Nat) (a : PlS), k ≤ 60 ∧ i = .int .i64 k ∧ Hid (LInv (whileL c p) (first (rd x)) a) ∧ Hid (PlAt wr B a) ∧ Hid (a.n ≤ k * 4100) ∧ Hid (Below B w3 wr)) (fun i _ => 60 - (intOf i).toNat)
    case atStart => exact ⟨0, _, Nat.zero_le _, rfl, HST, HP0, Lib.hid (Nat.zero_le _), hb34⟩
    case round =>
      clear HP0 hb34 HST
      obtain ⟨k, a, hk, rfl, HI, HPA, HNA, HB⟩ := hrel
      by_cases he : a.e = 0
      · by_cases hlt : k < 60
        · have hk1 : (k : Int) < 60 := by omega
          have hna := HNA.out
          have hax := LInv.vld HI.out he
          obtain ⟨a1, e1⟩ : ∃ q, a.other 1 = q := ⟨_, rfl⟩
          obtain ⟨y1, a2, e2⟩ : ∃ y q, a1.cleaned c a.x = (y, q) := ⟨_, _, rfl⟩
          obtain ⟨a3, e3⟩ : ∃ q, a2.other 2 = q := ⟨_, rfl⟩
          have n1 := other_n a 1; rw [e1] at n1
          have n2 := HCN.out a1 a.x; rw [e2] at n2
          have n3 := other_n a2 2; rw [e3] at n3
          have x1 := other_x a 1; rw [e1] at x1
          have x2 := cleaned_x a1 c a.x; rw [e2] at x2
          have x3 := other_x a2 2; rw [e3] at x3
          have v1 := other_e a 1; rw [e1] at v1
          have HO1 := Lib.hid (fun W h => other_any W B 1 a h (by omega) (by omega)); rw [e1] at HO1
          have HO2 := Lib.hid (fun W h hA => HCL.out W B a1 a.x h (by omega) hA (fun _ => hax)); rw [e2] at HO2
          have n2' : a2.n ≤ 300000 := by simp only at n2; omega
          have HO3 := Lib.hid (fun W h => other_any W B 2 a2 h (by omega) (by omega)); rw [e3] at HO3
          have c2 := HPA.out.c2
          rw [he] at c2
          have E1 := Lib.hid e1; have E2 := Lib.hid e2; have E3 := Lib.hid e3
          have XX := Lib.hid (show a3.x = a.x by rw [x3]; exact x2.trans x1)
          have X1 := Lib.hid x1
          have N3 : Hid (a3.n ≤ 300010) := Lib.hid (by omega)
          have HE := Lib.hid he; have HAX := Lib.hid hax
          have N3' : Hid (a3.n ≤ a.n + 2034) := Lib.hid (by simp only at n2; omega)
          clear n1 n2 n3 x1 x2 x3 v1 e1 e2 e3 n2' hax hna he
          go_wp2_with fail
          refine (HO1.out _ HPA.out).mono ?_
          rintro e w5 ⟨rfl, hp5, h5⟩
          have HP5 := Lib.hid hp5
          have hB5 := Lib.hid (HB.out.trans h5)
          have c0 := hp5.c0
          rw [X1.out] at c0
          clear hp5 h5 c2
          go_wp2_with fail
          refine (HO2.out _ HP5.out (fun W' h => HC.out _ (HLOW.out _ (hB5.out.trans h)))).mono ?_
          rintro e w6 ⟨rfl, hp6, h6⟩
          have HP6 := Lib.hid hp6
          have hB6 := Lib.hid (hB5.out.trans h6)
          clear hp6 h6 c0
          go_wp2_with fail
          refine (HO3.out _ HP6.out).mono ?_
          rintro e w7 ⟨rfl, hp7, h7⟩
          have HP7 := Lib.hid hp7
          have hB7 := Lib.hid (hB6.out.trans h7)
          clear hp7 h7
          by_cases hy : y1 = [48]
          · obtain ⟨a4, e4⟩ : ∃ q, a3.other 2 = q := ⟨_, rfl⟩
            have n4 := other_n a3 2; rw [e4] at n4
            have N4 : Hid (a4.n ≤ 10000000) := Lib.hid (by have := N3.out; omega)
            have HO4 := Lib.hid (fun W h => other_any W B 2 a3 h (by have := N3.out; omega) (by omega)); rw [e4] at HO4
            have HEP : Hid (EndsP (whileL c p) (first (rd x)) a4) := Lib.hid (by
              have h := HRL.out a HI.out HE.out (by rw [E1.out, E2.out]; exact hy)
              rw [E1.out, E2.out] at h
              rw [← e4, ← E3.out]; exact h)
            subst hy
            clear n4 e4
            go_wp2_with fail
            refine (HO4.out _ HP7.out).mono ?_
            rintro e w8 ⟨rfl, hp8, h8⟩
            have HP8 := Lib.hid hp8
            have hB8 := Lib.hid (hB7.out.trans h8)
            clear hp8 h8
            go_wp2_with fail
            refine (HEN.out _ _ a4 _ HP8.out N4.out (HAW.out _ hB8.out) HWV.out HEP.out).mono ?_
            rintro e w9 ⟨rfl, h9⟩
            have hb9 := Lib.hid (bstep (HLOW.out _ hB8.out) h9)
            clear h9
            go_wp2_with fail
            refine (awake4_any _).mono ?_
            rintro e w10 ⟨rfl, h10⟩
            have hb10 := Lib.hid (bstep hb9.out h10)
            clear h10
            go_wp2
            go_ret
            exact ⟨rfl, hb10.out⟩
          · obtain ⟨z, a5, e5⟩ : ∃ y q, a3.cleaned p a.x = (y, q) := ⟨_, _, rfl⟩
            obtain ⟨a6, e6⟩ : ∃ q, a5.other 2 = q := ⟨_, rfl⟩
            have n3 := N3.out
            have n5 := HPN.out a3 a.x; rw [e5] at n5
            have n5' : a5.n ≤ 400000 := by simp only at n5; omega
            have n6 := other_n a5 2; rw [e6] at n6
            have HO5 := Lib.hid (fun W h hA => HPL.out W B a3 a.x h (by omega) hA (fun _ => HAX.out)); rw [e5] at HO5
            have HO6 := Lib.hid (fun W h => other_any W B 2 a5 h (by omega) (by omega)); rw [e6] at HO6
            have hnx : nextP c p a = if a6.e = 0 then { a6 with x := z } else a6 := by
              unfold nextP
              rw [E1.out, E2.out]
              simp only
              rw [E3.out, e5]
              simp only
              rw [e6]
            have HLN : Hid (LInv (whileL c p) (first (rd x)) (if a6.e = 0 then { a6 with x := z } else a6)) := Lib.hid (by
              rw [← hnx]
              exact HRN.out a HI.out HE.out (by rw [E1.out, E2.out]; exact hy))
            have HNX : Hid ((if a6.e = 0 then { a6 with x := z } else a6 : PlS).n ≤ (k + 1) * 4100) := Lib.hid (by
              have h9 : (if a6.e = 0 then { a6 with x := z } else a6 : PlS).n = a6.n := by split <;> rfl
              rw [h9]
              have := N3'.out; have := HNA.out
              simp only at n5; omega)
            have hq : (y1 == [48]) = false := beq_eq_false_iff_ne.2 hy
            have c0 := HP7.out.c0
            rw [XX.out] at c0
            clear n3 n5 n5' n6 hnx e5 e6 hy
            go_wp2_with fail
            refine (HO5.out _ HP7.out (fun W' h => HP.out _ (HLOW.out _ (hB7.out.trans h)))).mono ?_
            rintro e w8 ⟨rfl, hp8, h8⟩
            have HP8 := Lib.hid hp8
            have hB8 := Lib.hid (hB7.out.trans h8)
            clear hp8 h8 c0
            go_wp2_with fail
            refine (HO6.out _ HP8.out).mono ?_
            rintro e w9 ⟨rfl, hp9, h9⟩
            have HP9 := Lib.hid hp9
            have hB9 := Lib.hid (hB8.out.trans h9)
            have d2 := hp9.c2
            clear hp9 h9 hq
            by_cases he6 : a6.e = 0
            · rw [if_pos he6] at HLN HNX
              rw [he6] at d2
              have c0 := HP9.out.c0; have f0 := HP9.out.f0
              have HP10 := Lib.hid (HP9.out.setX z)
              have hB10 := Lib.hid (hB9.out.setCell (p := ⟨B, 0, none⟩) (Nat.le_refl _) (.string (S z)))
              clear he6
              go_wp2_with fail
              go_roundw
              case rel => exact ⟨k + 1, _, by omega, by go_num, HLN, HP10, HNX, hB10⟩
              case measure => simp [intOf]; omega
            · rw [if_neg he6] at HLN HNX
              have he7 : (a6.e == 0) = false := beq_eq_false_iff_ne.2 he6
              clear he6
              go_wp2_with fail
              go_roundw
              case rel => exact ⟨k + 1, _, by omega, by go_num, HLN, HP9, HNX, hB9⟩
              case measure => simp [intOf]; omega
        · have hk1 : ¬ (k : Int) < 60 := by omega
          have HOV := Lib.hid (loop_over HI.out)
          rw [if_pos he] at HOV
          have c2 := HPA.out.c2; have f2 := HPA.out.f2
          rw [he] at c2
          have HP5 := Lib.hid (HPA.out.setE 7)
          have hB5 := Lib.hid (HB.out.setCell (p := ⟨B, 2, none⟩) (Nat.le_refl _) (.int .i64 7))
          have N5 : Hid (a.n ≤ 10000000) := Lib.hid (by have := HNA.out; omega)
          clear he
          go_wp2_with fail
          refine (HEN.out _ _ _ _ HP5.out N5.out (HAW.out _ hB5.out) HWV.out HOV.out).mono ?_
          rintro e w9 ⟨rfl, h9⟩
          have hb9 := Lib.hid (bstep (HLOW.out _ hB5.out) h9)
          clear h9
          go_wp2_with fail
          refine (awake4_any _).mono ?_
          rintro e w10 ⟨rfl, h10⟩
          have hb10 := Lib.hid (bstep hb9.out h10)
          clear h10
          go_wp2
          go_ret
          exact ⟨rfl, hb10.out⟩
      · have HOV := Lib.hid (loop_over HI.out)
        rw [if_neg he] at HOV
        have c2 := HPA.out.c2
        have he7 : (a.e == 0) = false := beq_eq_false_iff_ne.2 he
        have N5 : Hid (a.n ≤ 10000000) := Lib.hid (by have := HNA.out; omega)
        clear he
        by_cases hlt : k < 60
        · have hk1 : (k : Int) < 60 := by omega
          go_wp2_with fail
          refine (HEN.out _ _ _ _ HPA.out N5.out (HAW.out _ HB.out) HWV.out HOV.out).mono ?_
          rintro e w9 ⟨rfl, h9⟩
          have hb9 := Lib.hid (bstep (HLOW.out _ HB.out) h9)
          clear h9
          go_wp2_with fail
          refine (awake4_any _).mono ?_
          rintro e w10 ⟨rfl, h10⟩
          have hb10 := Lib.hid (bstep hb9.out h10)
          clear h10
          go_wp2
          go_ret
          exact ⟨rfl, hb10.out⟩
        · have hk1 : ¬ (k : Int) < 60 := by omega
          go_wp2_with fail
          refine (HEN.out _ _ _ _ HPA.out N5.out (HAW.out _ HB.out) HWV.out HOV.out).mono ?_
          rintro e w9 ⟨rfl, h9⟩
          have hb9 := Lib.hid (bstep (HLOW.out _ HB.out) h9)
          clear h9
          go_wp2_with fail
          refine (awake4_any _).mono ?_
          rintro e w10 ⟨rfl, h10⟩
          have hb10 := Lib.hid (bstep hb9.out h10)
          clear h10
          go_wp2
          go_ret
          exact ⟨rfl, hb10.out⟩
theorem BuildLoops_any (w : World) (vc vp : Value) (x : ByteArray) (c p : List Ins) (hc : ArgP w vc c) (lc : c.length ≤ 281474976710656) (zc : ∀ x ∈ c, x.tree.length ≤ 281474976710656) (hp : ArgP w vp p) (lp : p.length ≤ 281474976710656) (zp : ∀ x ∈ p, x.tree.length ≤ 281474976710656) (hx : x.size ≤ 281474976710656) :
    Calls Try.prog 7 #[vc, vp, .string x] w fun e w' => e = .returned (.bool true) ∧ Below w.heap.size w w' := by
  obtain ⟨l, rfl⟩ : ∃ l, x = S l := ⟨x.data.toList, by simp [S]⟩
  rw [S_size] at hx
  cases hv : vld l with
  | false => exact loops_out w vc vp c p l hc hp ⟨lc, zc⟩ ⟨lp, zp⟩ hx (.inr hv)
  | true =>
    by_cases h : dueP [c, p] [] = 0
    · exact loops_in w vc vp c p l hc hp ⟨lc, zc⟩ ⟨lp, zp⟩ hv h
    · exact loops_out w vc vp c p l hc hp ⟨lc, zc⟩ ⟨lp, zp⟩ hx (.inl h)
end Go.Proofs.Ytmhoacnbmbhcjab
