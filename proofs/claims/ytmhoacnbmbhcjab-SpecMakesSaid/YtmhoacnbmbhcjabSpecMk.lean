/- The statement SpecMakes, walked. By an AI agent. -/
import Derived.Test.YtmhoacnbmbhcjabSp5
import Derived.Test.YtmhoacnbmbhcjabPly
import Derived.Test.YtmhoacnbmbhcjabSameP
namespace Go.Proofs.Ytmhoacnbmbhcjab
open Go.RowKit Pl
set_option maxHeartbeats 1600000 in
set_option maxRecDepth 100000 in
theorem specMakes_form (w : World) (v : Value) (d : List UInt8) (p : List Ins) (h : ArgP w v p) (hl : p.length * 48 ≤ 140737488355328) (hz : ∀ x ∈ p, x.tree.length ≤ 281474976710656) (hd : d.length ≤ 281474976710656) (hn : ¬ PValid p) :
    Calls Try.prog 8 #[v, .string (S d)] w fun e w' => e = .returned (.bool true) ∧ Below w.heap.size w w' := by
  have HT := Lib.hid (twin_any w v p h hl)
  have HSP := Lib.hid (fun W h => Spec_any W v p d h (by omega) hz hd)
  have HSA := Lib.hid (fun W v2 h1 h2 => PSame_arg W v v2 p p true h1 h2 (by omega) (by simp))
  rw [specDue_no (.inl hn)] at HSP
  have HV := Lib.hid (fun W h => PV_arg W v p false h (by omega) hz (by simp [hn]))
  have HA := Lib.hid h
  obtain ⟨a, c, rfl⟩ := h.form
  clear h hl hz hd hn
  generalize p.length = q at *
  go_enter Try.func8, Try.ntmps8
  go_wp2_with fail
  refine HT.out.mono ?_
  rintro e w1 ⟨v1, rfl, ha1, h1⟩
  have HA1 := Lib.hid ha1; have HB1 := Lib.hid h1
  clear ha1 h1
  go_wp2_with fail
  refine (HSP.out _ (HA.out.below HB1.out)).mono ?_
  rintro e w2 ⟨h2, ⟨h0, _⟩ | ⟨_, rfl⟩⟩
  · exact absurd h0 (by decide)
  · have HA2 := Lib.hid (HA1.out.below h2); have HB2 := Lib.hid (bstep HB1.out h2)
    clear h2
    go_wp2_with fail
    refine (HSA.out _ _ (HA.out.below HB2.out) HA2.out).mono ?_
    rintro e w3 ⟨rfl, h3⟩
    have HB3 := Lib.hid (bstep HB2.out h3)
    clear h3
    go_wp2_with fail
    refine (HV.out _ (HA.out.below HB3.out)).mono ?_
    rintro e w4 ⟨rfl, h4⟩
    have HB4 := Lib.hid (bstep HB3.out h4)
    clear h4
    go_wp2_with fail
    refine (awake5_any _).mono ?_
    rintro e w5 ⟨rfl, h5⟩
    have HB5 := Lib.hid (bstep HB4.out h5)
    clear h5
    go_wp2_with fail
    go_ret
    exact ⟨rfl, HB5.out⟩
set_option maxHeartbeats 1600000 in
set_option maxRecDepth 100000 in
theorem specMakes_tree (w : World) (v : Value) (d : List UInt8) (p : List Ins) (h : ArgP w v p) (hl : p.length * 48 ≤ 140737488355328) (hz : ∀ x ∈ p, x.tree.length ≤ 281474976710656) (hd : d.length ≤ 281474976710656) (hp : PValid p) (hn : vld d = false) :
    Calls Try.prog 8 #[v, .string (S d)] w fun e w' => e = .returned (.bool true) ∧ Below w.heap.size w w' := by
  have HT := Lib.hid (twin_any w v p h hl)
  have HSP := Lib.hid (fun W h => Spec_any W v p d h (by omega) hz hd)
  have HSA := Lib.hid (fun W v2 h1 h2 => PSame_arg W v v2 p p true h1 h2 (by omega) (by simp))
  rw [specDue_no (.inr hn)] at HSP
  have HV := Lib.hid (fun W h => PV_arg W v p true h (by omega) hz (by simp [hp]))
  have HRV := Lib.hid (fun W => rValid_eq false (S d) W (by rw [S_size]; exact hd) (by rw [S_list]; exact hn))
  have HA := Lib.hid h
  obtain ⟨a, c, rfl⟩ := h.form
  clear h hl hz hd hn hp
  generalize p.length = q at *
  go_enter Try.func8, Try.ntmps8
  go_wp2_with fail
  refine HT.out.mono ?_
  rintro e w1 ⟨v1, rfl, ha1, h1⟩
  have HA1 := Lib.hid ha1; have HB1 := Lib.hid h1
  clear ha1 h1
  go_wp2_with fail
  refine (HSP.out _ (HA.out.below HB1.out)).mono ?_
  rintro e w2 ⟨h2, ⟨h0, _⟩ | ⟨_, rfl⟩⟩
  · exact absurd h0 (by decide)
  · have HA2 := Lib.hid (HA1.out.below h2); have HB2 := Lib.hid (bstep HB1.out h2)
    clear h2
    go_wp2_with fail
    refine (HSA.out _ _ (HA.out.below HB2.out) HA2.out).mono ?_
    rintro e w3 ⟨rfl, h3⟩
    have HB3 := Lib.hid (bstep HB2.out h3)
    clear h3
    go_wp2_with fail
    refine (HV.out _ (HA.out.below HB3.out)).mono ?_
    rintro e w4 ⟨rfl, h4⟩
    have HB4 := Lib.hid (bstep HB3.out h4)
    clear h4
    go_wp2_with fail
    refine (HRV.out _).mono ?_
    rintro e w5 ⟨rfl, rfl⟩
    go_wp2_with fail
    refine (awake5_any _).mono ?_
    rintro e w5 ⟨rfl, h5⟩
    have HB5 := Lib.hid (bstep HB4.out h5)
    clear h5
    go_wp2_with fail
    go_ret
    exact ⟨rfl, HB5.out⟩
set_option maxHeartbeats 1600000 in
set_option maxRecDepth 100000 in
theorem specMakes_size (w : World) (v : Value) (d : List UInt8) (p : List Ins) (h : ArgP w v p) (hl : p.length * 48 ≤ 140737488355328) (hz : ∀ x ∈ p, x.tree.length ≤ 281474976710656) (hd : d.length ≤ 281474976710656) (hp : PValid p) (hv : vld d = true) (hn : ¬ FitsP (specL p d)) :
    Calls Try.prog 8 #[v, .string (S d)] w fun e w' => e = .returned (.bool true) ∧ Below w.heap.size w w' := by
  have HT := Lib.hid (twin_any w v p h hl)
  have HSP := Lib.hid (fun W h => Spec_any W v p d h (by omega) hz hd)
  have HSA := Lib.hid (fun W v2 h1 h2 => PSame_arg W v v2 p p true h1 h2 (by omega) (by simp))
  rw [specDue_size hp hv hn] at HSP
  have HV := Lib.hid (fun W h => PV_arg W v p true h (by omega) hz (by simp [hp]))
  have HRV := Lib.hid (fun W => rValid_eq true (S d) W (by rw [S_size]; exact hd) (by rw [S_list]; exact hv))
  have HRS := Lib.hid (fun W h => rSpec_any W v p d h (by have := hp.1; omega))
  have HFI := Lib.hid (fun W u h => fits_any W u (specL p d) false h (by rw [spec_len]; have := hp.1; omega) (spec_trees hp hv) (by simp [hn]))
  have HA := Lib.hid h
  obtain ⟨a, c, rfl⟩ := h.form
  clear h hl hz hd hn hp hv
  generalize p.length = q at *
  go_enter Try.func8, Try.ntmps8
  go_wp2_with fail
  refine HT.out.mono ?_
  rintro e w1 ⟨v1, rfl, ha1, h1⟩
  have HA1 := Lib.hid ha1; have HB1 := Lib.hid h1
  clear ha1 h1
  go_wp2_with fail
  refine (HSP.out _ (HA.out.below HB1.out)).mono ?_
  rintro e w2 ⟨h2, ⟨h0, _⟩ | ⟨_, rfl⟩⟩
  · exact absurd h0 (by decide)
  · have HA2 := Lib.hid (HA1.out.below h2); have HB2 := Lib.hid (bstep HB1.out h2)
    clear h2
    go_wp2_with fail
    refine (HSA.out _ _ (HA.out.below HB2.out) HA2.out).mono ?_
    rintro e w3 ⟨rfl, h3⟩
    have HB3 := Lib.hid (bstep HB2.out h3)
    clear h3
    go_wp2_with fail
    refine (HV.out _ (HA.out.below HB3.out)).mono ?_
    rintro e w4 ⟨rfl, h4⟩
    have HB4 := Lib.hid (bstep HB3.out h4)
    clear h4
    go_wp2_with fail
    refine (HRV.out _).mono ?_
    rintro e w5 ⟨rfl, rfl⟩
    go_wp2_with fail
    refine (HRS.out _ (HA.out.below HB4.out)).mono ?_
    rintro e w6 ⟨v6, rfl, ha6, h6⟩
    have HB6 := Lib.hid (bstep HB4.out h6)
    have HA6 := Lib.hid ha6
    clear ha6 h6
    go_wp2_with fail
    refine (HFI.out _ _ HA6.out).mono ?_
    rintro e w7 ⟨rfl, h7⟩
    have HB7 := Lib.hid (bstep HB6.out h7)
    clear h7
    go_wp2_with fail
    refine (awake5_any _).mono ?_
    rintro e w8 ⟨rfl, h8⟩
    have HB8 := Lib.hid (bstep HB7.out h8)
    clear h8
    go_wp2_with fail
    go_ret
    exact ⟨rfl, HB8.out⟩
set_option maxHeartbeats 1600000 in
set_option maxRecDepth 100000 in
theorem specMakes_ok (w : World) (v : Value) (d : List UInt8) (p : List Ins) (h : ArgP w v p) (hl : p.length * 48 ≤ 140737488355328) (hz : ∀ x ∈ p, x.tree.length ≤ 281474976710656) (hd : d.length ≤ 281474976710656) (hp : PValid p) (hv : vld d = true) (hn : FitsP (specL p d)) :
    Calls Try.prog 8 #[v, .string (S d)] w fun e w' => e = .returned (.bool true) ∧ Below w.heap.size w w' := by
  have HT := Lib.hid (twin_any w v p h hl)
  have HSP := Lib.hid (fun W h => Spec_any W v p d h (by omega) hz hd)
  have HSA := Lib.hid (fun W v2 h1 h2 => PSame_arg W v v2 p p true h1 h2 (by omega) (by simp))
  rw [specDue_yes hp hv hn] at HSP
  have HV := Lib.hid (fun W h => PV_arg W v p true h (by omega) hz (by simp [hp]))
  have HRV := Lib.hid (fun W => rValid_eq true (S d) W (by rw [S_size]; exact hd) (by rw [S_list]; exact hv))
  have HRS := Lib.hid (fun W h => rSpec_any W v p d h (by have := hp.1; omega))
  have HFI := Lib.hid (fun W u h => fits_any W u (specL p d) true h (by rw [spec_len]; have := hp.1; omega) (spec_trees hp hv) (by simp [hn]))
  have HSS := Lib.hid (fun W u u2 h1 h2 => PSame_arg W u u2 (specL p d) (specL p d) true h1 h2 (by rw [spec_len]; have := hp.1; omega) (by simp))
  have HA := Lib.hid h
  obtain ⟨a, c, rfl⟩ := h.form
  clear h hl hz hd hn hp hv
  generalize p.length = q at *
  go_enter Try.func8, Try.ntmps8
  go_wp2_with fail
  refine HT.out.mono ?_
  rintro e w1 ⟨v1, rfl, ha1, h1⟩
  have HA1 := Lib.hid ha1; have HB1 := Lib.hid h1
  clear ha1 h1
  go_wp2_with fail
  refine (HSP.out _ (HA.out.below HB1.out)).mono ?_
  rintro e w2 ⟨h2, ⟨_, v2, rfl, ha2⟩ | ⟨h0, _⟩⟩
  · have HA2 := Lib.hid (HA1.out.below h2); have HB2 := Lib.hid (bstep HB1.out h2)
    have HG2 := Lib.hid ha2
    clear h2 ha2
    go_wp2_with fail
    refine (HSA.out _ _ (HA.out.below HB2.out) HA2.out).mono ?_
    rintro e w3 ⟨rfl, h3⟩
    have HB3 := Lib.hid (bstep HB2.out h3)
    have HG3 := Lib.hid (HG2.out.below h3)
    clear h3
    go_wp2_with fail
    refine (HV.out _ (HA.out.below HB3.out)).mono ?_
    rintro e w4 ⟨rfl, h4⟩
    have HB4 := Lib.hid (bstep HB3.out h4)
    have HG4 := Lib.hid (HG3.out.below h4)
    clear h4
    go_wp2_with fail
    refine (HRV.out _).mono ?_
    rintro e w5 ⟨rfl, rfl⟩
    go_wp2_with fail
    refine (HRS.out _ (HA.out.below HB4.out)).mono ?_
    rintro e w6 ⟨v6, rfl, ha6, h6⟩
    have HB6 := Lib.hid (bstep HB4.out h6)
    have HA6 := Lib.hid ha6
    have HG6 := Lib.hid (HG4.out.below h6)
    clear ha6 h6
    go_wp2_with fail
    refine (HFI.out _ _ HA6.out).mono ?_
    rintro e w7 ⟨rfl, h7⟩
    have HB7 := Lib.hid (bstep HB6.out h7)
    have HG7 := Lib.hid (HG6.out.below h7); have HA7 := Lib.hid (HA6.out.below h7)
    clear h7
    go_wp2_with fail
    refine (HSS.out _ _ _ HG7.out HA7.out).mono ?_
    rintro e w8 ⟨rfl, h8⟩
    have HB8 := Lib.hid (bstep HB7.out h8)
    clear h8
    go_wp2_with fail
    refine (awake5_any _).mono ?_
    rintro e w9 ⟨rfl, h9⟩
    have HB9 := Lib.hid (bstep HB8.out h9)
    clear h9
    go_wp2_with fail
    go_ret
    exact ⟨rfl, HB9.out⟩
  · exact absurd rfl h0
theorem SpecMakes_any (w : World) (v : Value) (s : ByteArray) (p : List Ins) (h : ArgP w v p) (hl : p.length * 48 ≤ 140737488355328) (hz : ∀ x ∈ p, x.tree.length ≤ 281474976710656) (hs : s.size ≤ 281474976710656) :
    Calls Try.prog 8 #[v, .string s] w fun e w' => e = .returned (.bool true) ∧ Below w.heap.size w w' := by
  have e : S s.data.toList = s := by simp [S]
  have hd : s.data.toList.length ≤ 281474976710656 := by rw [len_eq]; exact hs
  rw [← e]
  generalize s.data.toList = d at *
  by_cases hp : PValid p
  · cases hv : vld d with
    | false => exact specMakes_tree w v d p h hl hz hd hp hv
    | true =>
      by_cases hn : FitsP (specL p d)
      · exact specMakes_ok w v d p h hl hz hd hp hv hn
      · exact specMakes_size w v d p h hl hz hd hp hv hn
  · exact specMakes_form w v d p h hl hz hd hp
end Go.Proofs.Ytmhoacnbmbhcjab
