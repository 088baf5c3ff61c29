/- The statement SpecMeta, walked. By an AI agent. -/
import Derived.Test.YtmhoacnbmbhcjaaGreatDoorMetaM
import Derived.Test.YtmhoacnbmbhcjaaGreatDoorSp5
namespace Go.Proofs.YtmhoacnbmbhcjaaGreatDoor
open Go.RowKit Pl

set_option maxHeartbeats 3200000 in
set_option maxRecDepth 100000 in
theorem specMeta_no (w : World) (s u : ByteArray) (hs : s.size ≤ 281474976710656) (hu : u.size ≤ 281474976710656) (hn : vld s.data.toList = false ∨ vld u.data.toList = false) :
    Calls Tryz.prog 10 #[.string s, .string u] w fun e w' => e = .returned (.bool true) ∧ Below w.heap.size w w' := by
  have HV := Lib.hid (fun W => rValid_any s W hs)
  have HU := Lib.hid (fun W => rValid_any u W hu)
  cases hv : vld s.data.toList with
  | false =>
    rw [hv] at HV
    clear hn hv hs hu
    go_enter Tryz.func10, Tryz.ntmps10
    go_wp2_with fail
    refine (HV.out _).mono ?_
    rintro e w1 ⟨rfl, rfl⟩
    go_wp2_with fail
    refine (awake5_any _).mono ?_
    rintro e w2 ⟨rfl, h2⟩
    have HB := Lib.hid h2
    clear h2
    go_wp2_with fail
    go_ret
    exact ⟨rfl, HB.out⟩
  | true =>
    have hv2 : vld u.data.toList = false := by
      rcases hn with h | h
      · rw [hv] at h; cases h
      · exact h
    rw [hv] at HV
    rw [hv2] at HU
    clear hn hv hv2 hs hu
    go_enter Tryz.func10, Tryz.ntmps10
    go_wp2_with fail
    refine (HV.out _).mono ?_
    rintro e w1 ⟨rfl, rfl⟩
    go_wp2_with fail
    refine (HU.out _).mono ?_
    rintro e w1 ⟨rfl, rfl⟩
    go_wp2_with fail
    refine (awake5_any _).mono ?_
    rintro e w2 ⟨rfl, h2⟩
    have HB := Lib.hid h2
    clear h2
    go_wp2_with fail
    go_ret
    exact ⟨rfl, HB.out⟩
set_option maxHeartbeats 3200000 in
set_option maxRecDepth 100000 in
theorem specMeta_yes (w : World) (s u : ByteArray) (hv : vld s.data.toList = true) (hv2 : vld u.data.toList = true) :
    Calls Tryz.prog 10 #[.string s, .string u] w fun e w' => e = .returned (.bool true) ∧ Below w.heap.size w w' := by
  have z1 := vld_size hv
  have z2 := vld_size hv2
  have HV := Lib.hid (fun W => rValid_any s W (by omega))
  have HU := Lib.hid (fun W => rValid_any u W (by omega))
  rw [hv] at HV
  rw [hv2] at HU
  have HR := Lib.hid (fun W => rRead_any s W hv)
  have HQ := Lib.hid (fun W => rRead_any u W hv2)
  have t1 : (tx (rd s.data.toList)).length ≤ 2000000 := by rw [tx_rd hv, len_eq]; exact z1
  have t2 : (tx (rd u.data.toList)).length ≤ 2000000 := by rw [tx_rd hv2, len_eq]; exact z2
  clear hv hv2 z1 z2
  generalize rd s.data.toList = t at *
  generalize rd u.data.toList = d at *
  have HM := Lib.hid (fun W x y hx hy => meta_any W t d x y hx hy t1 t2)
  have HL := Lib.hid (fun W x y hx hy hl => List_any W t d x y hx hy hl)
  have HE := Lib.hid (fun W x y (h1 : NodeW 42 W (listT t d) x) (h2 : NodeW 42 W (listT t d) y) hl => rEqual_same W (listT t d) x y h1 h2 hl)
  clear t1 t2
  go_enter Tryz.func10, Tryz.ntmps10
  go_wp2_with fail
  refine (HV.out _).mono ?_
  rintro e w1 ⟨rfl, rfl⟩
  go_wp2_with fail
  refine (HU.out _).mono ?_
  rintro e w1 ⟨rfl, rfl⟩
  go_wp2_with fail
  refine (HR.out _).mono ?_
  rintro e w1 ⟨v1, rfl, n1, h1⟩
  obtain ⟨V1, rfl⟩ := n1.one
  have HB1 := Lib.hid h1; have N1 := Lib.hid n1
  clear n1 h1
  go_wp2_with fail
  refine (HQ.out _).mono ?_
  rintro e w2 ⟨v2, rfl, n2, h2⟩
  obtain ⟨V2, rfl⟩ := n2.one
  have HB2 := Lib.hid (bstep HB1.out h2); have N2 := Lib.hid n2; have M2 := Lib.hid (NodeW.below N1.out h2)
  clear n2 h2
  go_wp2_with fail
  refine (HM.out _ _ _ M2.out N2.out).mono ?_
  rintro e w3 ⟨h3, ⟨hl, V3, rfl, n3⟩ | rfl⟩
  · have HB3 := Lib.hid (bstep HB2.out h3); have N3 := Lib.hid n3; have M3 := Lib.hid (NodeW.below M2.out h3); have O3 := Lib.hid (NodeW.below N2.out h3); have LL := Lib.hid hl
    clear h3 n3 hl
    go_wp2_with fail
    refine (HL.out _ _ _ M3.out O3.out LL.out).mono ?_
    rintro e w4 ⟨v4, rfl, n4, h4⟩
    obtain ⟨V4, rfl⟩ := n4.one
    have HB4 := Lib.hid (bstep HB3.out h4); have N4 := Lib.hid n4; have M4 := Lib.hid (NodeW.below N3.out h4)
    clear n4 h4
    go_wp2_with fail
    refine (HE.out _ _ _ M4.out N4.out LL.out).mono ?_
    rintro e w5 ⟨rfl, h5⟩
    have HB5 := Lib.hid (bstep HB4.out h5)
    clear h5
    go_wp2_with fail
    refine (awake5_any _).mono ?_
    rintro e w6 ⟨rfl, h6⟩
    have HB6 := Lib.hid (bstep HB5.out h6)
    clear h6
    go_wp2_with fail
    go_ret
    exact ⟨rfl, HB6.out⟩
  · have HB3 := Lib.hid (bstep HB2.out h3)
    clear h3
    go_wp2_with fail
    refine (awake5_any _).mono ?_
    rintro e w6 ⟨rfl, h6⟩
    have HB6 := Lib.hid (bstep HB3.out h6)
    clear h6
    go_wp2_with fail
    go_ret
    exact ⟨rfl, HB6.out⟩
theorem SpecMeta_any (w : World) (s u : ByteArray) (hs : s.size ≤ 281474976710656) (hu : u.size ≤ 281474976710656) :
    Calls Tryz.prog 10 #[.string s, .string u] w fun e w' => e = .returned (.bool true) ∧ Below w.heap.size w w' := by
  cases hv : vld s.data.toList with
  | false => exact specMeta_no w s u hs hu (.inl hv)
  | true =>
    cases hv2 : vld u.data.toList with
    | false => exact specMeta_no w s u hs hu (.inr hv2)
    | true => exact specMeta_yes w s u hv hv2
end Go.Proofs.YtmhoacnbmbhcjaaGreatDoor
