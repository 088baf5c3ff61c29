/- The statement SpecFound, walked. By an AI agent. -/
import Derived.Test.YtmhoacnbmbhcjaaGreatDoorMetaM
import Derived.Test.YtmhoacnbmbhcjaaGreatDoorSp5
import Derived.Test.YtmhoacnbmbhcjaaGreatDoorGens
import Derived.Test.YtmhoacnbmbhcjaaGreatDoorRecog
import Derived.Test.YtmhoacnbmbhcjaaGreatDoorKnowO
namespace Go.Proofs.YtmhoacnbmbhcjaaGreatDoor
open Go.RowKit Pl

theorem Decode_hit5 (s : ByteArray) (ps : List Ins) (w : World) (hs : s.size ≤ 281474976710656) (hE : Env w) (hv : vld s.data.toList = true) (hp : PValid ps) (he : enc (codes ps) = s.data.toList) :
    Calls Tryz.prog 46 #[.string s] w fun e w' => ∃ v, e = .returned (.tuple #[v, .int .i64 0]) ∧ ArgP w' v ps ∧ Below w.heap.size w w' := by
  have hl := (vld_iff.1 hv).1
  refine (Decode_gen s w hs hE).mono fun e w' ⟨h1, h2⟩ => ?_
  rcases h1 with ⟨qs, v, hq, hqe, _, e1, h3⟩ | ⟨n, h1 | ⟨_, _, h1⟩, _⟩
  · obtain rfl : ps = qs := code_inj hp hq (by rw [he]; exact hl) (by rw [he, hqe])
    exact ⟨v, e1, h3, h2⟩
  · rw [h1.2] at hv; cases hv
  · exact absurd he (h1 ps hp)
/-- the list that is found is the code of the program that supplies -/
theorem tx_listT {p : List Ins} {d : List UInt8} (hv : vld d = true) (h : AllR (specL p d)) : tx (listT (lst (codeL p)) (rd d)) = enc (codes (specL p d)) := by
  have h1 : listT (lst (codeL p)) (rd d) = lst (codeL (specL p d)) := by
    have := lst_spec p (rd d)
    rw [tx_rd hv] at this
    rw [this]; rfl
  rw [h1, tx_code h]
set_option maxHeartbeats 3200000 in
set_option maxRecDepth 100000 in
theorem specFound_no (w : World) (v : Value) (p : List Ins) (s : ByteArray) (h : ArgP w v p) (hl : p.length * 48 ≤ 140737488355328) (hz : ∀ x ∈ p, x.tree.length ≤ 281474976710656) (hs : s.size ≤ 281474976710656) (hn : ¬ PValid p ∨ vld s.data.toList = false) :
    Calls Tryz.prog 11 #[v, .string s] w fun e w' => e = .returned (.bool true) ∧ Below w.heap.size w w' := by
  have HV := Lib.hid (fun W => rValid_any s W hs)
  obtain ⟨a, c, rfl⟩ := h.form
  by_cases hp : PValid p
  · have hv : vld s.data.toList = false := by
      rcases hn with h | h
      · exact absurd hp h
      · exact h
    have HPV := Lib.hid (fun W h => PV_arg W (.slice a p.length c) p true h (by omega) hz (by simp [hp]))
    have HA := Lib.hid h
    rw [hv] at HV
    clear hn hv hs h hl hz hp
    generalize p.length = n at *
    go_enter Tryz.func11, Tryz.ntmps11
    go_wp2_with fail
    refine (HPV.out _ HA.out).mono ?_
    rintro e w1 ⟨rfl, h1⟩
    have HB1 := Lib.hid h1
    clear h1
    go_wp2_with fail
    refine (HV.out _).mono ?_
    rintro e w1 ⟨rfl, rfl⟩
    go_wp2_with fail
    refine (awake5_any _).mono ?_
    rintro e w2 ⟨rfl, h2⟩
    have HB := Lib.hid (bstep HB1.out h2)
    clear h2
    go_wp2_with fail
    go_ret
    exact ⟨rfl, HB.out⟩
  · have HPV := Lib.hid (fun W h => PV_arg W (.slice a p.length c) p false h (by omega) hz (by simp [hp]))
    have HA := Lib.hid h
    clear hn hs h hl hz hp
    generalize p.length = n at *
    go_enter Tryz.func11, Tryz.ntmps11
    go_wp2_with fail
    refine (HPV.out _ HA.out).mono ?_
    rintro e w1 ⟨rfl, h1⟩
    have HB1 := Lib.hid h1
    clear h1
    go_wp2_with fail
    refine (awake5_any _).mono ?_
    rintro e w2 ⟨rfl, h2⟩
    have HB := Lib.hid (bstep HB1.out h2)
    clear h2
    go_wp2_with fail
    go_ret
    exact ⟨rfl, HB.out⟩
set_option maxHeartbeats 6400000 in
set_option maxRecDepth 100000 in
theorem specFound_yes (w : World) (hE : Env w) (v : Value) (p : List Ins) (d : List UInt8) (h : ArgP w v p) (hp : PValid p) (hv : vld d = true) :
    Calls Tryz.prog 11 #[v, .string (S d)] w fun e w' => e = .returned (.bool true) ∧ Below w.heap.size w w' := by
  have hpl := hp.1
  have hz : ∀ x ∈ p, x.tree.length ≤ 281474976710656 := fun x hx => by have := pvalid_tree hp hx; omega
  have hvs := (vld_iff.1 hv).1
  have HV := Lib.hid (fun W => rValid_any (S d) W (by rw [S_size]; omega))
  rw [S_list, hv] at HV
  have HPV := Lib.hid (fun W u h => PV_arg W u p true h (by omega) hz (by simp [hp]))
  have HT := Lib.hid (fun W h => Twin_arg W v p h (by omega))
  have HCD : Hid (∀ W u, ArgP W u p → Calls Tryz.prog 44 #[u] W fun e w' => Below W.heap.size W w' ∧ (((enc (codes p)).length ≤ 2000000 ∧ e = .returned (.tuple #[.string (S (enc (codes p))), .int .i64 0])) ∨ e = .returned (.tuple #[.string (S []), .int .i64 3]))) := Lib.hid (fun W u h => (PCode_arg W u p h hp).mono fun e w' ⟨h1, h2⟩ => ⟨h2, h1.imp id (fun h => h.2)⟩)
  have HSP := Lib.hid (fun W u h => Spec_yes W u p d h hp hv)
  have HD : Hid (specDue p d = 0 ∧ PValid (specL p d) ∨ specDue p d = 3) := Lib.hid (by
    by_cases hf : FitsP (specL p d)
    · exact .inl ⟨specDue_yes hp hv hf, (fits_valid (allR_spec hp hv)).2 hf⟩
    · exact .inr (specDue_size hp hv hf))
  have HRD := Lib.hid (fun W => rRead_any (S d) W (by rw [S_list]; exact hv))
  rw [S_list] at HRD
  have HVT : Hid ((enc (codes p)).length ≤ 2000000 → vld (enc (codes p)) = true) := Lib.hid (fun hc => code_vld hp hc)
  have HVC : Hid (∀ W, (enc (codes p)).length ≤ 2000000 → Calls Tryz.prog 28 #[.string (S (enc (codes p)))] W fun e w' => e = .returned (.bool true) ∧ W = w') := Lib.hid (fun W hc => by
    have h := rValid_any (S (enc (codes p))) W (by rw [S_size]; omega)
    rw [S_list, HVT.out hc] at h
    exact h)
  have HRC := Lib.hid (fun W (hc : (enc (codes p)).length ≤ 2000000) => rRead_any (S (enc (codes p))) W (by rw [S_list]; exact HVT.out hc))
  have hrt : (rd (enc (codes p))) = lst (codeL p) := by rw [← tx_code hp.2.2, rd_tx]
  rw [S_list, hrt] at HRC
  have HM := Lib.hid (fun W x y (hc : (enc (codes p)).length ≤ 2000000) hx hy => meta_any W (lst (codeL p)) (rd d) x y hx hy (by rw [tx_code hp.2.2]; exact hc) (by rw [tx_rd hv]; exact hvs))
  have HTX := Lib.hid (fun W x (h1 : NodeW 42 W (listT (lst (codeL p)) (rd d)) x) hl => rText_any (listT (lst (codeL p)) (rd d)) x W h1 hl)
  have HDC := Lib.hid (fun W (hE : Env W) (hf : PValid (specL p d)) (hl : (tx (listT (lst (codeL p)) (rd d))).length ≤ 2000000) => Decode_hit5 (S (tx (listT (lst (codeL p)) (rd d)))) (specL p d) W (by rw [S_size]; omega) hE (by rw [S_list]; exact vld_tx hl) hf (by rw [S_list]; exact (tx_listT hv hf.2.2).symm))
  have HSA := Lib.hid (fun W u u2 h1 h2 (hf : PValid (specL p d)) => PSame_arg W u u2 (specL p d) (specL p d) true h1 h2 (by have := hf.1; omega) (by simp))
  have HA := Lib.hid h; have HE := Lib.hid hE
  obtain ⟨a, c, rfl⟩ := h.form
  clear h hE hv hp hvs hz hpl hrt
  generalize rd d = y at *
  generalize lst (codeL p) = t at *
  generalize S (tx (listT t y)) = z at *
  generalize S (enc (codes p)) = cz at *
  generalize (enc (codes p)).length = cl at *
  generalize p.length = n at *
  generalize specDue p d = due at *
  go_enter Tryz.func11, Tryz.ntmps11
  go_wp2_with fail
  refine (HPV.out _ _ HA.out).mono ?_
  rintro e w1 ⟨rfl, h1⟩
  have HB1 := Lib.hid h1; have HA1 := Lib.hid (HA.out.below h1)
  clear h1
  go_wp2_with fail
  refine (HV.out _).mono ?_
  rintro e w1 ⟨rfl, rfl⟩
  go_wp2_with fail
  refine (HT.out _ HA1.out).mono ?_
  rintro e w2 ⟨v2, rfl, ht, h2⟩
  have HB2 := Lib.hid (bstep HB1.out h2); have HA2 := Lib.hid (HA1.out.below h2); have HT2 : Hid (ArgP w2 v2 p) := Lib.hid (own_prog ht).2.1
  obtain ⟨a2, c2, rfl⟩ := HT2.out.form
  clear h2 ht
  generalize p.length = n2 at *
  go_wp2_with fail
  refine (HCD.out _ _ HT2.out).mono ?_
  rintro e w3 ⟨h3, ⟨hc, rfl⟩ | rfl⟩
  · have HB3 := Lib.hid (bstep HB2.out h3); have HA3 := Lib.hid (HA2.out.below h3); have HC := Lib.hid hc
    clear h3 hc
    go_wp2_with fail
    refine (HT.out _ HA3.out).mono ?_
    rintro e w4 ⟨v4, rfl, ht, h4⟩
    have HB4 := Lib.hid (bstep HB3.out h4); have HT4 : Hid (ArgP w4 v4 p) := Lib.hid (own_prog ht).2.1
    obtain ⟨a4, c4, rfl⟩ := HT4.out.form
    clear h4 ht
    generalize p.length = n4 at *
    go_wp2_with fail
    refine (HSP.out _ _ HT4.out).mono ?_
    rintro e w5 ⟨h5, ⟨rfl, v5, rfl, ha5⟩ | ⟨hd0, rfl⟩⟩
    · have HF : Hid (PValid (specL p d)) := Lib.hid (by
        rcases HD.out with h | h
        · exact h.2
        · cases h)
      have HB5 := Lib.hid (bstep HB4.out h5); have HA5 := Lib.hid ha5
      obtain ⟨a5, c5, rfl⟩ := HA5.out.form
      clear h5 ha5
      generalize (specL p d).length = n5 at *
      go_wp2_with fail
      refine (HVC.out _ HC.out).mono ?_
      rintro e w6 ⟨rfl, rfl⟩
      go_wp2_with fail
      refine (HRC.out _ HC.out).mono ?_
      rintro e w6 ⟨v6, rfl, n6, h6⟩
      obtain ⟨V6, rfl⟩ := n6.one
      have HB6 := Lib.hid (bstep HB5.out h6); have N6 := Lib.hid n6; have HA6 := Lib.hid (HA5.out.below h6)
      clear n6 h6
      go_wp2_with fail
      refine (HRD.out _).mono ?_
      rintro e w7 ⟨v7, rfl, n7, h7⟩
      obtain ⟨V7, rfl⟩ := n7.one
      have HB7 := Lib.hid (bstep HB6.out h7); have N7 := Lib.hid n7; have M7 := Lib.hid (NodeW.below N6.out h7); have HA7 := Lib.hid (HA6.out.below h7)
      clear n7 h7
      go_wp2_with fail
      refine (HM.out _ _ _ HC.out M7.out N7.out).mono ?_
      rintro e w8 ⟨h8, ⟨hl, V8, rfl, n8⟩ | rfl⟩
      · have HB8 := Lib.hid (bstep HB7.out h8); have N8 := Lib.hid n8; have HA8 := Lib.hid (HA7.out.below h8); have LL := Lib.hid hl
        clear h8 n8 hl
        go_wp2_with fail
        refine (HTX.out _ _ N8.out LL.out).mono ?_
        rintro e w9 ⟨rfl, h9⟩
        have HB9 := Lib.hid (bstep HB8.out h9); have HA9 := Lib.hid (HA8.out.below h9)
        clear h9
        go_wp2_with fail
        refine (HDC.out _ (HE.out.below HB9.out) HF.out LL.out).mono ?_
        rintro e w10 ⟨v10, rfl, ha10, h10⟩
        have HB10 := Lib.hid (bstep HB9.out h10); have HA10 := Lib.hid (HA9.out.below h10); have HD10 := Lib.hid ha10
        obtain ⟨a10, c10, rfl⟩ := HD10.out.form
        clear h10 ha10
        generalize (specL p d).length = n10 at *
        go_wp2_with fail
        refine (HSA.out _ _ _ HA10.out HD10.out HF.out).mono ?_
        rintro e w11 ⟨rfl, h11⟩
        have HB11 := Lib.hid (bstep HB10.out h11)
        clear h11
        go_wp2_with fail
        refine (awake5_any _).mono ?_
        rintro e w12 ⟨rfl, h12⟩
        have HB12 := Lib.hid (bstep HB11.out h12)
        clear h12
        go_wp2_with fail
        go_ret
        exact ⟨rfl, HB12.out⟩
      · have HB8 := Lib.hid (bstep HB7.out h8)
        clear h8
        go_wp2_with fail
        refine (awake5_any _).mono ?_
        rintro e w12 ⟨rfl, h12⟩
        have HB12 := Lib.hid (bstep HB8.out h12)
        clear h12
        go_wp2_with fail
        go_ret
        exact ⟨rfl, HB12.out⟩
    · obtain rfl : due = 3 := by
        rcases HD.out with h | h
        · exact absurd h.1 hd0
        · exact h
      have HB5 := Lib.hid (bstep HB4.out h5)
      clear h5 hd0
      go_wp2_with fail
      refine (awake5_any _).mono ?_
      rintro e w12 ⟨rfl, h12⟩
      have HB12 := Lib.hid (bstep HB5.out h12)
      clear h12
      go_wp2_with fail
      go_ret
      exact ⟨rfl, HB12.out⟩
  · have HB3 := Lib.hid (bstep HB2.out h3); have HA3 := Lib.hid (HA2.out.below h3)
    clear h3
    go_wp2_with fail
    refine (HT.out _ HA3.out).mono ?_
    rintro e w4 ⟨v4, rfl, ht, h4⟩
    have HB4 := Lib.hid (bstep HB3.out h4); have HT4 : Hid (ArgP w4 v4 p) := Lib.hid (own_prog ht).2.1
    obtain ⟨a4, c4, rfl⟩ := HT4.out.form
    clear h4 ht
    generalize p.length = n4 at *
    go_wp2_with fail
    refine (HSP.out _ _ HT4.out).mono ?_
    rintro e w5 ⟨h5, ⟨rfl, v5, rfl, ha5⟩ | ⟨hd0, rfl⟩⟩
    · have HB5 := Lib.hid (bstep HB4.out h5)
      obtain ⟨a5, c5, rfl⟩ := ha5.form
      clear h5 ha5
      generalize (specL p d).length = n5 at *
      go_wp2_with fail
      refine (awake5_any _).mono ?_
      rintro e w12 ⟨rfl, h12⟩
      have HB12 := Lib.hid (bstep HB5.out h12)
      clear h12
      go_wp2_with fail
      go_ret
      exact ⟨rfl, HB12.out⟩
    · obtain rfl : due = 3 := by
        rcases HD.out with h | h
        · exact absurd h.1 hd0
        · exact h
      have HB5 := Lib.hid (bstep HB4.out h5)
      clear h5 hd0
      go_wp2_with fail
      refine (awake5_any _).mono ?_
      rintro e w12 ⟨rfl, h12⟩
      have HB12 := Lib.hid (bstep HB5.out h12)
      clear h12
      go_wp2_with fail
      go_ret
      exact ⟨rfl, HB12.out⟩
theorem SpecFound_any (w : World) (hE : Env w) (v : Value) (s : ByteArray) (p : List Ins) (h : ArgP w v p) (hl : p.length * 48 ≤ 140737488355328) (hz : ∀ x ∈ p, x.tree.length ≤ 281474976710656) (hs : s.size ≤ 281474976710656) :
    Calls Tryz.prog 11 #[v, .string s] w fun e w' => e = .returned (.bool true) ∧ Below w.heap.size w w' := by
  by_cases hp : PValid p
  · cases hv : vld s.data.toList with
    | false => exact specFound_no w v p s h hl hz hs (.inr hv)
    | true =>
      have := specFound_yes w hE v p s.data.toList h hp hv
      rwa [S_back] at this
  · exact specFound_no w v p s h hl hz hs (.inl hp)
end Go.Proofs.YtmhoacnbmbhcjaaGreatDoor
