/- BuildRuns: its walk. By an AI agent. -/
import Derived.Test.YtmhoacnbmbhcjabLoops
import Derived.Deep.DeepCutAuto
namespace Go.Proofs.Ytmhoacnbmbhcjab
open Go.RowKit Pl

theorem part_e {p : List Ins} {y : List UInt8} {a : PlS} (hv : PValid p) (hy : a.e = 0 → vld y = true) (h : (a.part p y).2.e = 0) : vld (a.part p y).1 = true := by
  unfold PlS.part at h ⊢
  by_cases he : a.e = 0
  · rw [if_pos he] at h ⊢
    have hyv := hy he
    cases ho : out p 2000 (first (rd y)) with
    | ok z k =>
      obtain ⟨t, g1, _, _, g4⟩ := out_ok ho
      have hf : (first (rd y)).ok p.length := first_ok _ (by rw [tx_rd hyv]; exact (vld_iff.1 hyv).1)
      have := St.reg_le (g1.ok hv hf) 0
      rw [g4] at this
      exact vld_tx this
    | size => rw [ho] at h; exact absurd h (by simp)
    | fuel => rw [ho] at h; exact absurd h (by simp)
  · rw [if_neg he] at h; exact absurd h he
theorem part_len {p : List Ins} {y : List UInt8} {a : PlS} (hv : PValid p) (hy : a.e = 0 → vld y = true) : (a.part p y).1.length ≤ 2000000 := by
  by_cases h : (a.part p y).2.e = 0
  · exact (vld_iff.1 (part_e hv hy h)).1
  · unfold PlS.part at h ⊢
    by_cases he : a.e = 0
    · rw [if_pos he] at h ⊢
      cases ho : out p 2000 (first (rd y)) with
      | ok z k => rw [ho] at h; exact absurd he h
      | size => simp
      | fuel => simp
    · rw [if_neg he]; simp
theorem cleaned_len {p : List Ins} {y : List UInt8} {a : PlS} (hv : PValid p) (hy : a.e = 0 → vld y = true) : (a.cleaned p y).1.length ≤ 2000000 := by
  unfold PlS.cleaned
  exact part_len hv (fun h0 => hy (by rw [← other_e a (rn p - 1)]; exact h0))
theorem cleaned_e {p : List Ins} {y : List UInt8} {a : PlS} (hv : PValid p) (hy : a.e = 0 → vld y = true) (h : (a.cleaned p y).2.e = 0) : vld (a.cleaned p y).1 = true := by
  unfold PlS.cleaned at h ⊢
  exact part_e hv (fun h0 => hy (by rw [← other_e a (rn p - 1)]; exact h0)) h
/-- what a law keeps of a program that came in -/
structure Given (w : World) (v : Value) (p : List Ins) : Prop where
  arg : ArgP w v p
  ok : PValid p
  few : rn p ≤ 28
set_option maxHeartbeats 3200000 in
set_option maxRecDepth 100000 in
theorem bruns_out (w : World) (vc vp vq : Value) (c p q : List Ins) (x : List UInt8) (hc : ArgP w vc c) (hp : ArgP w vp p) (hq : ArgP w vq q) (sc : SizeP c) (sp : SizeP p) (sq : SizeP q) (hx : x.length ≤ 281474976710656) (h : dueP [c, p, q] [] ≠ 0 ∨ vld x = false) :
    Calls Try.prog 6 #[vc, vp, vq, .string (S x)] w fun e w' => e = .returned (.bool true) ∧ Below w.heap.size w w' := by
  have HD := Lib.hid (due_any _ w.heap.size 0 3 [c, p, q] (.slice none 0 0) [] (lit_pieces w [vc, vp, vq] [c, p, q] ⟨hc, hp, hq, trivial⟩) (by simp) (by
    intro r hr
    simp only [List.mem_cons, List.not_mem_nil, or_false] at hr
    rcases hr with rfl | rfl | rfl
    · exact sc
    · exact sp
    · exact sq) (fun _ => .inl ⟨rfl, .inl rfl⟩) ⟨none, 0, rfl⟩ (by simp) (by simp))
  obtain ⟨ac, cc, rfl⟩ := hc.form
  obtain ⟨ap, cp, rfl⟩ := hp.form
  obtain ⟨aq, cq, rfl⟩ := hq.form
  have hb0 := Lib.hid (alloc_below w (.cells #[.slice ac c.length cc, .slice ap p.length cp, .slice aq q.length cq] 23))
  clear hc hp hq sc sp sq
  by_cases h0 : dueP [c, p, q] [] = 0
  · have hv : vld x = false := by rcases h with h | h; exact absurd h0 h; exact h
    have HX := Lib.hid (fun W => rValid_eq false (S x) W (by rw [S_size]; exact hx) (by rw [S_list]; exact hv))
    rw [h0] at HD
    clear h h0 hv hx
    go_enter Try.func6, Try.ntmps6
    go_wp2_with fail
    refine HD.out.mono ?_
    rintro e w1 ⟨rfl, h1⟩
    have hb1 := Lib.hid (bstep hb0.out h1)
    clear h1
    go_wp2_with fail
    refine (HX.out _).mono ?_
    rintro e w2 ⟨rfl, rfl⟩
    go_wp2_with fail
    refine (awake4_any _).mono ?_
    rintro e w3 ⟨rfl, h3⟩
    have hb3 := Lib.hid (bstep hb1.out h3)
    clear h3
    go_wp2
    go_ret
    exact ⟨rfl, hb3.out⟩
  · have h0' : (dueP [c, p, q] [] != 0) = true := by rw [bne_iff_ne]; exact h0
    generalize dueP [c, p, q] [] = d at *
    clear h h0 hx
    go_enter Try.func6, Try.ntmps6
    go_wp2_with fail
    refine HD.out.mono ?_
    rintro e w1 ⟨rfl, h1⟩
    have hb1 := Lib.hid (bstep hb0.out h1)
    clear h1
    go_wp2_with fail
    refine (awake4_any _).mono ?_
    rintro e w3 ⟨rfl, h3⟩
    have hb3 := Lib.hid (bstep hb1.out h3)
    clear h3
    go_wp2
    go_ret
    exact ⟨rfl, hb3.out⟩
/-- a function's result, where all that came in is fit -/
theorem BPost.two {w w' : World} {cs : List Ins} {e : Ending} {l : List (List Ins)} (h : BPost w (dueP l cs) cs e w') (hv : ∀ p ∈ l, PValid p) (h28 : ∀ p ∈ l, rn p ≤ 28) (hr : AllR cs) :
    Below w.heap.size w w' ∧ ∃ v er, e = .returned (.tuple #[v, .int .i64 er]) ∧ (∃ a n c, v = .slice a n c) ∧ (er = 0 ∨ er = 3) ∧ (er = 0 → ArgP w' v cs ∧ PValid cs) := by
  refine ⟨h.1, ?_⟩
  rw [due_fits hv h28] at h
  cases hF : FitsC cs with
  | true =>
    rw [hF] at h
    obtain ⟨_, ⟨_, v, h1, h2⟩ | ⟨h1, _⟩⟩ := h
    · obtain ⟨a, c, rfl⟩ := h2.form
      exact ⟨_, 0, h1, ⟨_, _, _, rfl⟩, .inl rfl, fun _ => ⟨h2, (fits_valid hr).2 (FitsC_iff.1 hF)⟩⟩
    · exact absurd rfl h1
  | false =>
    rw [hF] at h
    obtain ⟨_, ⟨h1, _⟩ | ⟨_, h1⟩⟩ := h
    · exact absurd h1 (by simp)
    · exact ⟨_, 3, h1, ⟨_, _, _, rfl⟩, .inr rfl, fun h => by omega⟩
set_option maxHeartbeats 6400000 in
set_option maxRecDepth 100000 in
theorem bruns_in (w : World) (vc vp vq : Value) (c p q : List Ins) (x : List UInt8) (hc : ArgP w vc c) (hp : ArgP w vp p) (hq : ArgP w vq q) (sc : SizeP c) (sp : SizeP p) (sq : SizeP q) (hx : vld x = true) (h : dueP [c, p, q] [] = 0) :
    Calls Try.prog 6 #[vc, vp, vq, .string (S x)] w fun e w' => e = .returned (.bool true) ∧ Below w.heap.size w w' := by
  have hss : ∀ r ∈ [c, p, q], SizeP r := by
    intro r hr
    simp only [List.mem_cons, List.not_mem_nil, or_false] at hr
    rcases hr with rfl | rfl | rfl
    · exact sc
    · exact sp
    · exact sq
  have HD := Lib.hid (due_any _ w.heap.size 0 3 [c, p, q] (.slice none 0 0) [] (lit_pieces w [vc, vp, vq] [c, p, q] ⟨hc, hp, hq, trivial⟩) (by simp) hss (fun _ => .inl ⟨rfl, .inl rfl⟩) ⟨none, 0, rfl⟩ (by simp) (by simp))
  rw [h] at HD
  obtain ⟨hv, h28⟩ := due_nil_zero h
  have cv := hv c (by simp); have pv := hv p (by simp); have qv := hv q (by simp); have c28 := h28 c (by simp); have p28 := h28 p (by simp); have q28 := h28 q (by simp)
  have HC := Lib.hid (fun W (h : Below w.heap.size w W) => hc.below h)
  have HP := Lib.hid (fun W (h : Below w.heap.size w W) => hp.below h)
  have HQ := Lib.hid (fun W (h : Below w.heap.size w W) => hq.below h)
  have HX := Lib.hid (fun W => rValid_eq true (S x) W (by rw [S_size]; have := (vld_iff.1 hx).1; omega) (by rw [S_list]; exact hx))
  have hrx : (tx (rd x)).length ≤ 2000000 := by rw [tx_rd hx]; exact (vld_iff.1 hx).1
  have hxx := tx_rd hx
  have H1 := Lib.hid (fun W b cap h => (Then_some W b 0 cap [c, p, q] h (by simp) hss).mono fun e w' h => BPost.two h hv h28 (allR_then hv))
  have H2 := Lib.hid (fun W h1 h2 => (Pair_any W vp vq p q h1 h2 sp sq).mono fun e w' h => BPost.two h (by intro r hr; exact hv r (by simp at hr ⊢; exact .inr hr)) (by intro r hr; exact h28 r (by simp at hr ⊢; exact .inr hr)) (allR_pair pv qv p28 q28))
  have H3 := Lib.hid (fun W h0 h1 h2 => (If_any W vc vp vq c p q h0 h1 h2 sc sp sq).mono fun e w' h => BPost.two h hv h28 (allR_if cv pv qv c28 p28 q28))
  have E1 := ends_then cv pv qv hrx
  have E2 := ends_pair pv qv p28 q28 hrx
  have E3 := ends_if cv pv qv c28 p28 q28 hrx
  rw [hxx] at E1 E2 E3
  have K1 := Lib.hid E1; have K2 := Lib.hid E2; have K3 := Lib.hid E3
  have HEN := Lib.hid (fun W b a v cs h hn hA hv he => ends_any W b a v cs x h hn hA hv hx he)
  obtain ⟨ac, cc, rfl⟩ := hc.form
  obtain ⟨ap, cp, rfl⟩ := hp.form
  obtain ⟨aq, cq, rfl⟩ := hq.form
  have hb0 := Lib.hid (alloc_below w (.cells #[.slice ac c.length cc, .slice ap p.length cp, .slice aq q.length cq] 23))
  have PC := Lib.hid (fun W b a y h hn hA hy => part_any W b a (.slice ac c.length cc) c y h hn hA cv hy)
  have PP := Lib.hid (fun W b a y h hn hA hy => part_any W b a (.slice ap p.length cp) p y h hn hA pv hy)
  have LP := Lib.hid (fun W b a y h hn hA hy => cleaned_any W b a (.slice ap p.length cp) p y h hn hA pv hy)
  have LQ := Lib.hid (fun W b a y h hn hA hy => cleaned_any W b a (.slice aq q.length cq) q y h hn hA qv hy)
  have NP := Lib.hid (fun a y => cleaned_n a p y (by omega)); have NQ := Lib.hid (fun a y => cleaned_n a q y (by omega))
  have HPE := Lib.hid (fun (a : PlS) (y : List UInt8) hy => part_e (a := a) (y := y) cv hy); have HCE := Lib.hid (fun (a : PlS) (y : List UInt8) hy => cleaned_e (a := a) (y := y) pv hy)
  have PLE := Lib.hid (fun (a : PlS) (y : List UInt8) hy => part_len (a := a) (y := y) pv hy); have QLE := Lib.hid (fun (a : PlS) (y : List UInt8) hy => cleaned_len (a := a) (y := y) qv hy)
  have HXV := Lib.hid hx
  clear hc hp hq sc sp sq hss h hv h28 cv pv qv c28 p28 q28 hrx hxx E1 E2 E3 hx
  go_enter Try.func6, Try.ntmps6
  go_wp2_with fail
  refine HD.out.mono ?_
  rintro e w1 ⟨rfl, h1⟩
  have hb1 := Lib.hid (bstep hb0.out h1)
  clear h1
  go_wp2_with fail
  refine (HX.out _).mono ?_
  rintro e w2 ⟨rfl, rfl⟩
  have HL := Lib.hid (lit_pieces w1 [.slice ac c.length cc, .slice ap p.length cp, .slice aq q.length cq] [c, p, q] ⟨HC.out _ hb1.out, HP.out _ hb1.out, HQ.out _ hb1.out, trivial⟩)
  have hb1a := Lib.hid (hb1.out.alloc hb1.out.size (.cells #[.slice ac c.length cc, .slice ap p.length cp, .slice aq q.length cq] 23))
  go_wp2_with fail
  refine (H1.out _ _ 3 HL.out).mono ?_
  rintro e w3 ⟨h3, v3, er1, rfl, ⟨a3, n3, c3, rfl⟩, he1, hok1⟩
  have hb3 := Lib.hid (bstep hb1a.out h3)
  have OK1 := Lib.hid hok1
  clear h3 hok1
  go_upto_if 42 with fail
  go_cut [] (fun wx => Below w.heap.size w wx)
  case first =>
    rcases he1 with rfl | rfl
    · obtain ⟨ha3, hv3⟩ := OK1.out rfl
      have HA3 := Lib.hid ha3; have HV3 := Lib.hid hv3
      clear ha3 hv3
      have hP : PlAt (w3.alloc (.cells #[.string ⟨#[]⟩, .int .i64 0, .int .i64 0] 54)) w3.heap.size ⟨[], 0, 0⟩ := PlAt.new w3 [] 0 _
      have HP0 := Lib.hid hP
      have hB0 := Lib.hid (alloc_below w3 (.cells #[.string ⟨#[]⟩, .int .i64 0, .int .i64 0] 54))
      have HLOW := Lib.hid (fun W (hW : Below w3.heap.size w3 W) => bstep hb3.out hW)
      have HAW := Lib.hid (fun W (hW : Below w3.heap.size w3 W) => HA3.out.below hW)
      obtain ⟨y1, a1, e1⟩ : ∃ y a, (⟨[], 0, 0⟩ : PlS).part c x = (y, a) := ⟨_, _, rfl⟩
      obtain ⟨y2, a2, e2⟩ : ∃ y a, a1.cleaned p y1 = (y, a) := ⟨_, _, rfl⟩
      obtain ⟨y3, a4, e3⟩ : ∃ y a, a2.cleaned q y2 = (y, a) := ⟨_, _, rfl⟩
      have n1 := part_n ⟨[], 0, 0⟩ c x; rw [e1] at n1
      have n2 := NP.out a1 y1; rw [e2] at n2
      have n3 := NQ.out a2 y2; rw [e3] at n3
      simp only at n1 n2 n3
      have s1 := HPE.out ⟨[], 0, 0⟩ x (fun _ => HXV.out); rw [e1] at s1
      have s2 := HCE.out a1 y1 s1; rw [e2] at s2
      have HE : Hid (EndsP (thenL [c, p, q]) (first (rd x)) { a4 with x := y3 }) := Lib.hid (by
        have h := K1.out
        unfold playThen at h
        rw [e1] at h
        simp only at h
        rw [e2] at h
        simp only at h
        rw [e3] at h
        exact h)
      have C1 := Lib.hid (fun W b h hA => PC.out W b ⟨[], 0, 0⟩ x h (by simp) hA (fun _ => HXV.out)); rw [e1] at C1
      have C2 := Lib.hid (fun W b h hA => LP.out W b a1 y1 h (by omega) hA s1); rw [e2] at C2
      have C3 := Lib.hid (fun W b h hA => LQ.out W b a2 y2 h (by omega) hA s2); rw [e3] at C3
      have N4 : Hid (a4.n ≤ 10000000) := Lib.hid (by omega)
      clear hP n1 n2 n3 s1 s2 e1 e2 e3
      go_wp2_with fail
      generalize w3.alloc (.cells #[.string ⟨#[]⟩, .int .i64 0, .int .i64 0] 54) = W4 at *
      generalize hB : w3.heap.size = B at *
      clear hB
      refine (C1.out _ _ HP0.out (HC.out _ (HLOW.out _ hB0.out))).mono ?_
      rintro e w5 ⟨rfl, hp5, h5⟩
      have HP5 := Lib.hid hp5
      have hB5 := Lib.hid (hB0.out.trans h5)
      clear hp5 h5
      go_wp2_with fail
      refine (C2.out _ _ HP5.out (fun W' h => HP.out _ (HLOW.out _ (hB5.out.trans h)))).mono ?_
      rintro e w6 ⟨rfl, hp6, h6⟩
      have HP6 := Lib.hid hp6
      have hB6 := Lib.hid (hB5.out.trans h6)
      clear hp6 h6
      go_wp2_with fail
      refine (C3.out _ _ HP6.out (fun W' h => HQ.out _ (HLOW.out _ (hB6.out.trans h)))).mono ?_
      rintro e w7 ⟨rfl, hp7, h7⟩
      have HP7 := Lib.hid hp7
      have hB7 := Lib.hid (hB6.out.trans h7)
      have c0 := hp7.c0; have f0 := hp7.f0
      have HP8 := Lib.hid (hp7.setX y3)
      have hB8 := Lib.hid (hB7.out.setCell (p := ⟨B, 0, none⟩) (Nat.le_refl _) (.string (S y3)))
      clear hp7 h7
      go_wp2_with fail
      refine (HEN.out _ _ _ _ _ HP8.out N4.out (HAW.out _ hB8.out) HV3.out HE.out).mono ?_
      rintro e w9 ⟨rfl, h9⟩
      have hb9 := Lib.hid (bstep (HLOW.out _ hB8.out) h9)
      clear h9 c0 f0
      go_wp2_with fail
      go_meet
      exact hb9.out
    · go_wp2_with fail
      go_meet
      exact hb3.out
  case rest =>
    have hbc := Lib.hid hcut
    clear hcut hb3 OK1
    go_wp2_with fail
    refine (H2.out _ (HP.out _ hbc.out) (HQ.out _ hbc.out)).mono ?_
    rintro e w3 ⟨h3, v3, er2, rfl, ⟨a3, n3, c3, rfl⟩, he2, hok2⟩
    have hb3 := Lib.hid (bstep hbc.out h3)
    have OK2 := Lib.hid hok2
    clear h3 hok2
    go_upto_if 70 with fail
    go_cut [] (fun wx => Below w.heap.size w wx)
    case first =>
      rcases he2 with rfl | rfl
      · obtain ⟨ha3, hv3⟩ := OK2.out rfl
        have HA3 := Lib.hid ha3; have HV3 := Lib.hid hv3
        clear ha3 hv3
        have hP : PlAt (w3.alloc (.cells #[.string ⟨#[]⟩, .int .i64 1, .int .i64 0] 54)) w3.heap.size ⟨[], 1, 0⟩ := PlAt.new w3 [] 1 _
        have HP0 := Lib.hid hP
        have hB0 := Lib.hid (alloc_below w3 (.cells #[.string ⟨#[]⟩, .int .i64 1, .int .i64 0] 54))
        have HLOW := Lib.hid (fun W (hW : Below w3.heap.size w3 W) => bstep hb3.out hW)
        have HAW := Lib.hid (fun W (hW : Below w3.heap.size w3 W) => HA3.out.below hW)
        obtain ⟨y1, a1, e1⟩ : ∃ y a, (⟨[], 1, 0⟩ : PlS).part p x = (y, a) := ⟨_, _, rfl⟩
        obtain ⟨a2, e2⟩ : ∃ a, a1.other 2 = a := ⟨_, rfl⟩
        obtain ⟨z, a4, e4⟩ : ∃ y a, a2.cleaned q x = (y, a) := ⟨_, _, rfl⟩
        obtain ⟨a5, e5⟩ : ∃ a, a4.other 1 = a := ⟨_, rfl⟩
        have n1 := part_n ⟨[], 1, 0⟩ p x; rw [e1] at n1
        have n2 := other_n a1 2; rw [e2] at n2
        have n4 := NQ.out a2 x; rw [e4] at n4
        have n5 := other_n a4 1; rw [e5] at n5
        simp only at n1 n4
        have ly := PLE.out ⟨[], 1, 0⟩ x (fun _ => HXV.out); rw [e1] at ly
        have lz := QLE.out a2 x (fun _ => HXV.out); rw [e4] at lz
        simp only at ly lz
        have HE : Hid (EndsP (pairL p q) (first (rd x)) (if a5.e = 0 ∧ 2000000 < (49 :: (y1 ++ z)).length then ⟨49 :: (y1 ++ z), a5.n, 3⟩ else { a5 with x := 49 :: (y1 ++ z) })) := Lib.hid (by
          have h := K2.out
          unfold playPair at h
          rw [e1] at h
          simp only at h
          rw [e2] at h
          rw [e4] at h
          simp only at h
          rw [e5] at h
          exact h)
        have C1 := Lib.hid (fun W b h hA => PP.out W b ⟨[], 1, 0⟩ x h (by simp) hA (fun _ => HXV.out)); rw [e1] at C1
        have C2 := Lib.hid (fun W b h => other_any W b 2 a1 h (by omega) (by omega)); rw [e2] at C2
        have C3 := Lib.hid (fun W b h hA => LQ.out W b a2 x h (by omega) hA (fun _ => HXV.out)); rw [e4] at C3
        have C4 := Lib.hid (fun W b h => other_any W b 1 a4 h (by omega) (by omega)); rw [e5] at C4
        have N5 : Hid (a5.n ≤ 10000000) := Lib.hid (by omega)
        clear hP n1 n2 n4 n5 e1 e2 e4 e5
        go_wp2_with fail
        generalize w3.alloc (.cells #[.string ⟨#[]⟩, .int .i64 1, .int .i64 0] 54) = W4 at *
        generalize hB : w3.heap.size = B at *
        clear hB
        refine (C1.out _ _ HP0.out (HP.out _ (HLOW.out _ hB0.out))).mono ?_
        rintro e w5 ⟨rfl, hp5, h5⟩
        have HP5 := Lib.hid hp5
        have hB5 := Lib.hid (hB0.out.trans h5)
        clear hp5 h5
        go_wp2_with fail
        refine (C2.out _ _ HP5.out).mono ?_
        rintro e w6 ⟨rfl, hp6, h6⟩
        have HP6 := Lib.hid hp6
        have hB6 := Lib.hid (hB5.out.trans h6)
        clear hp6 h6
        go_wp2_with fail
        refine (C3.out _ _ HP6.out (fun W' h => HQ.out _ (HLOW.out _ (hB6.out.trans h)))).mono ?_
        rintro e w7 ⟨rfl, hp7, h7⟩
        have HP7 := Lib.hid hp7
        have hB7 := Lib.hid (hB6.out.trans h7)
        clear hp7 h7
        go_wp2_with fail
        refine (C4.out _ _ HP7.out).mono ?_
        rintro e w8 ⟨rfl, hp8, h8⟩
        have HP8 := Lib.hid hp8
        have hB8 := Lib.hid (hB7.out.trans h8)
        have c0 := hp8.c0; have f0 := hp8.f0; have c2 := hp8.c2
        clear hp8 h8
        have l1 : ¬ 9223372036854775807 < 1 + y1.length := by omega
        have l2 : ¬ 9223372036854775807 < 1 + y1.length + z.length := by omega
        have hcat : S (49 :: (y1 ++ z)) = ⟨#[49]⟩ ++ S y1 ++ S z := (S_inj (by simp)).symm
        have hp9 := HP8.out.setX (49 :: (y1 ++ z))
        rw [hcat] at hp9
        have HP9 := Lib.hid hp9
        have hB9 := Lib.hid (hB8.out.setCell (p := ⟨B, 0, none⟩) (Nat.le_refl _) (.string (⟨#[49]⟩ ++ S y1 ++ S z)))
        have f2 := HP8.out.f2
        have hlen : (49 :: (y1 ++ z)).length = 1 + y1.length + z.length := by simp; omega
        clear hcat hp9
        by_cases he : a5.e = 0
        · rw [he] at c2
          by_cases hl : 2000000 < (49 :: (y1 ++ z)).length
          · rw [if_pos ⟨he, hl⟩] at HE
            have hl' : (2000000 : Int) < 1 + (y1.length : Int) + (z.length : Int) := by rw [hlen] at hl; omega
            have HPF := Lib.hid (HP9.out.setE 3)
            have HBF := Lib.hid (hB9.out.setCell (p := ⟨B, 2, none⟩) (Nat.le_refl _) (.int .i64 3))
            clear he hl hlen
            go_wp2_with fail
            refine (HEN.out _ _ _ _ _ HPF.out N5.out (HAW.out _ HBF.out) HV3.out HE.out).mono ?_
            rintro e w9 ⟨rfl, h9⟩
            have hb9 := Lib.hid (bstep (HLOW.out _ HBF.out) h9)
            clear h9
            go_wp2_with fail
            go_meet
            exact hb9.out
          · rw [if_neg (fun h => hl h.2)] at HE
            have hl' : ¬ (2000000 : Int) < 1 + (y1.length : Int) + (z.length : Int) := by rw [hlen] at hl; omega
            have HPF := HP9
            have HBF := hB9
            clear he hl hlen
            go_wp2_with fail
            refine (HEN.out _ _ _ _ _ HPF.out N5.out (HAW.out _ HBF.out) HV3.out HE.out).mono ?_
            rintro e w9 ⟨rfl, h9⟩
            have hb9 := Lib.hid (bstep (HLOW.out _ HBF.out) h9)
            clear h9
            go_wp2_with fail
            go_meet
            exact hb9.out
        · rw [if_neg (fun h => he h.1)] at HE
          have he7 : (a5.e == 0) = false := beq_eq_false_iff_ne.2 he
          have HPF := HP9
          have HBF := hB9
          clear he hlen
          go_wp2_with fail
          refine (HEN.out _ _ _ _ _ HPF.out N5.out (HAW.out _ HBF.out) HV3.out HE.out).mono ?_
          rintro e w9 ⟨rfl, h9⟩
          have hb9 := Lib.hid (bstep (HLOW.out _ HBF.out) h9)
          clear h9
          go_wp2_with fail
          go_meet
          exact hb9.out
      · go_wp2_with fail
        go_meet
        exact hb3.out
    case rest =>
      have hbc := Lib.hid hcut
      clear hcut hb3 OK2
      go_wp2_with fail
      refine (H3.out _ (HC.out _ hbc.out) (HP.out _ hbc.out) (HQ.out _ hbc.out)).mono ?_
      rintro e w3 ⟨h3, v3, er3, rfl, ⟨a3, n3, c3, rfl⟩, he3, hok3⟩
      have hb3 := Lib.hid (bstep hbc.out h3)
      have OK3 := Lib.hid hok3
      clear h3 hok3
      go_upto_if 121 with fail
      go_cut [] (fun wx => Below w.heap.size w wx)
      case first =>
        rcases he3 with rfl | rfl
        · obtain ⟨ha3, hv3⟩ := OK3.out rfl
          have HA3 := Lib.hid ha3; have HV3 := Lib.hid hv3
          clear ha3 hv3
          have hP : PlAt (w3.alloc (.cells #[.string ⟨#[]⟩, .int .i64 1, .int .i64 0] 54)) w3.heap.size ⟨[], 1, 0⟩ := PlAt.new w3 [] 1 _
          have HP0 := Lib.hid hP
          have hB0 := Lib.hid (alloc_below w3 (.cells #[.string ⟨#[]⟩, .int .i64 1, .int .i64 0] 54))
          have HLOW := Lib.hid (fun W (hW : Below w3.heap.size w3 W) => bstep hb3.out hW)
          have HAW := Lib.hid (fun W (hW : Below w3.heap.size w3 W) => HA3.out.below hW)
          obtain ⟨y1, a1, e1⟩ : ∃ y a, (⟨[], 1, 0⟩ : PlS).part c x = (y, a) := ⟨_, _, rfl⟩
          obtain ⟨a2, e2⟩ : ∃ a, a1.other 2 = a := ⟨_, rfl⟩
          have n1 := part_n ⟨[], 1, 0⟩ c x; rw [e1] at n1
          have n2 := other_n a1 2; rw [e2] at n2
          simp only at n1
          have C1 := Lib.hid (fun W b h hA => PC.out W b ⟨[], 1, 0⟩ x h (by simp) hA (fun _ => HXV.out)); rw [e1] at C1
          have C2 := Lib.hid (fun W b h => other_any W b 2 a1 h (by omega) (by omega)); rw [e2] at C2
          clear hP
          go_wp2_with fail
          generalize w3.alloc (.cells #[.string ⟨#[]⟩, .int .i64 1, .int .i64 0] 54) = W4 at *
          generalize hB : w3.heap.size = B at *
          clear hB
          refine (C1.out _ _ HP0.out (HC.out _ (HLOW.out _ hB0.out))).mono ?_
          rintro e w5 ⟨rfl, hp5, h5⟩
          have HP5 := Lib.hid hp5
          have hB5 := Lib.hid (hB0.out.trans h5)
          clear hp5 h5
          go_wp2_with fail
          refine (C2.out _ _ HP5.out).mono ?_
          rintro e w6 ⟨rfl, hp6, h6⟩
          have HP6 := Lib.hid hp6
          have hB6 := Lib.hid (hB5.out.trans h6)
          clear hp6 h6
          by_cases hy : y1 ≠ [48]
          · obtain ⟨y2, a3', e3⟩ : ∃ y a, a2.cleaned p x = (y, a) := ⟨_, _, rfl⟩
            have n3 := NP.out a2 x; rw [e3] at n3
            simp only at n3
            have hq : (y1 == [48]) = false := beq_eq_false_iff_ne.2 hy
            have hq2 : (y1 != [48]) = true := by rw [bne_iff_ne]; exact hy
            have HE : Hid (EndsP (ifL c p q) (first (rd x)) { a3' with x := y2 }) := Lib.hid (by
              have h := K3.out
              unfold playIf at h
              rw [e1] at h
              simp only at h
              rw [e2, if_pos hy, e3] at h
              exact h)
            have NF : Hid (a3'.n ≤ 10000000) := Lib.hid (by omega)
            have C3 := Lib.hid (fun W b h hA => LP.out W b a2 x h (by omega) hA (fun _ => HXV.out)); rw [e3] at C3
            clear e1 e2 e3 n1 n2 n3
            go_wp2_with fail
            refine (C3.out _ _ HP6.out (fun W' h => HP.out _ (HLOW.out _ (hB6.out.trans h)))).mono ?_
            rintro e w7 ⟨rfl, hp7, h7⟩
            have hB7 := Lib.hid (hB6.out.trans h7)
            have c0 := hp7.c0; have f0 := hp7.f0
            have HP8 := Lib.hid (hp7.setX y2)
            have hB8 := Lib.hid (hB7.out.setCell (p := ⟨B, 0, none⟩) (Nat.le_refl _) (.string (S y2)))
            clear hp7 h7
            go_wp2_with fail
            have HPF := HP8
            have HBF := hB8
            refine (HEN.out _ _ _ _ _ HPF.out NF.out (HAW.out _ HBF.out) HV3.out HE.out).mono ?_
            rintro e w9 ⟨rfl, h9⟩
            have hb9 := Lib.hid (bstep (HLOW.out _ HBF.out) h9)
            clear h9
            go_wp2_with fail
            go_meet
            exact hb9.out
          · have hy := Classical.not_not.1 hy
            obtain ⟨y2, a3', e3⟩ : ∃ y a, a2.cleaned q x = (y, a) := ⟨_, _, rfl⟩
            have n3 := NQ.out a2 x; rw [e3] at n3
            simp only at n3
            obtain ⟨a4, e4⟩ : ∃ a, ({ a3' with x := y2 } : PlS).other 2 = a := ⟨_, rfl⟩
            have n4 := other_n { a3' with x := y2 } 2; rw [e4] at n4
            simp only at n4
            have HE : Hid (EndsP (ifL c p q) (first (rd x)) a4) := Lib.hid (by
              have h := K3.out
              unfold playIf at h
              rw [e1] at h
              simp only at h
              rw [e2, if_neg (fun h => h hy), e3] at h
              simp only at h
              rw [e4] at h
              exact h)
            have NF : Hid (a4.n ≤ 10000000) := Lib.hid (by omega)
            have C4 := Lib.hid (fun W b h => other_any W b 2 { a3' with x := y2 } h (by show a3'.n ≤ _; omega) (by omega)); rw [e4] at C4
            subst hy
            have C3 := Lib.hid (fun W b h hA => LQ.out W b a2 x h (by omega) hA (fun _ => HXV.out)); rw [e3] at C3
            clear e1 e2 e3 n1 n2 n3 n4 e4
            go_wp2_with fail
            refine (C3.out _ _ HP6.out (fun W' h => HQ.out _ (HLOW.out _ (hB6.out.trans h)))).mono ?_
            rintro e w7 ⟨rfl, hp7, h7⟩
            have hB7 := Lib.hid (hB6.out.trans h7)
            have c0 := hp7.c0; have f0 := hp7.f0
            have HP8 := Lib.hid (hp7.setX y2)
            have hB8 := Lib.hid (hB7.out.setCell (p := ⟨B, 0, none⟩) (Nat.le_refl _) (.string (S y2)))
            clear hp7 h7
            go_wp2_with fail
            refine (C4.out _ _ HP8.out).mono ?_
            rintro e w10 ⟨rfl, hp10, h10⟩
            have HPF := Lib.hid hp10
            have HBF := Lib.hid (hB8.out.trans h10)
            clear hp10 h10
            go_wp2_with fail
            refine (HEN.out _ _ _ _ _ HPF.out NF.out (HAW.out _ HBF.out) HV3.out HE.out).mono ?_
            rintro e w9 ⟨rfl, h9⟩
            have hb9 := Lib.hid (bstep (HLOW.out _ HBF.out) h9)
            clear h9
            go_wp2_with fail
            go_meet
            exact hb9.out
        · go_wp2_with fail
          go_meet
          exact hb3.out
      case rest =>
        have hbc := Lib.hid hcut
        clear hcut hb3 OK3 H1 H2 H3 HD HX K1 K2 K3
        rcases he1 with rfl | rfl <;> rcases he2 with rfl | rfl <;> rcases he3 with rfl | rfl <;> (
          go_wp2_with fail
          refine (awake4_any _).mono ?_
          rintro e w10 ⟨rfl, h10⟩
          have hb10 := Lib.hid (bstep hbc.out h10)
          clear h10
          go_wp2
          go_ret
          exact ⟨rfl, hb10.out⟩)
theorem BuildRuns_any (w : World) (vc vp vq : Value) (x : ByteArray) (c p q : List Ins) (hc : ArgP w vc c) (lc : c.length ≤ 281474976710656) (zc : ∀ x ∈ c, x.tree.length ≤ 281474976710656) (hp : ArgP w vp p) (lp : p.length ≤ 281474976710656) (zp : ∀ x ∈ p, x.tree.length ≤ 281474976710656) (hq : ArgP w vq q) (lq : q.length ≤ 281474976710656) (zq : ∀ x ∈ q, x.tree.length ≤ 281474976710656) (hx : x.size ≤ 281474976710656) :
    Calls Try.prog 6 #[vc, vp, vq, .string x] w fun e w' => e = .returned (.bool true) ∧ Below w.heap.size w w' := by
  obtain ⟨l, rfl⟩ : ∃ l, x = S l := ⟨x.data.toList, by simp [S]⟩
  rw [S_size] at hx
  cases hv : vld l with
  | false => exact bruns_out w vc vp vq c p q l hc hp hq ⟨lc, zc⟩ ⟨lp, zp⟩ ⟨lq, zq⟩ hx (.inr hv)
  | true =>
    by_cases h : dueP [c, p, q] [] = 0
    · exact bruns_in w vc vp vq c p q l hc hp hq ⟨lc, zc⟩ ⟨lp, zp⟩ ⟨lq, zq⟩ hv h
    · exact bruns_out w vc vp vq c p q l hc hp hq ⟨lc, zc⟩ ⟨lp, zp⟩ ⟨lq, zq⟩ hx (.inl h)
end Go.Proofs.Ytmhoacnbmbhcjab
