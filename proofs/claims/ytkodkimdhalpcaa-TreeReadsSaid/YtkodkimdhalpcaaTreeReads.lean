/- The walk of TreeReads. By an AI agent. -/
import Derived.Test.YtkodkimdhalpcaaTreeItems
import Derived.Test.YtkodkimdhalpcaaRDepth
namespace Go.Proofs.Ytkodkimdhalpcaa
open Go.RowKit Pl

theorem rItems_arg (s : ByteArray) (w : World) (hv : vld s.data.toList = true) :
    Calls Try.prog 26 #[.string s] w fun e w' => ∃ v, e = .returned v ∧ ArgS w' v (itemsOf s.data.toList) ∧ Below w.heap.size w w' :=
  (rItems_yes s w hv).mono fun _ _ ⟨v, h1, h2, h3⟩ => ⟨v, h1, arg_own h2, h3⟩

set_option maxHeartbeats 3200000 in
set_option maxRecDepth 100000 in
theorem reads_no (s : ByteArray) (w : World) (hs : s.size ≤ 281474976710656) (hv : vld s.data.toList = false) :
    Calls Try.prog 3 #[.string s] w fun e w' => e = .returned (.bool true) ∧ Below w.heap.size w w' := by
  have HA := Lib.hid (fun W => Head_no s W hs hv)
  have HB := Lib.hid (fun W => Tail_no s W hs hv)
  have HC := Lib.hid (fun W => Pairs_no s W hs hv)
  have HD := Lib.hid (fun W => Depth_no s W hs hv)
  have HE := Lib.hid (fun W => Value_no s W hs hv)
  have HF := Lib.hid (fun W => Items_no s W hs hv)
  have HV := Lib.hid (fun W => Valid_is false s W hs hv)
  have HW := Lib.hid (fun W => rValid_is false s W hs hv)
  have hcat : (S [] ++ S []).toList = [] := by rw [ByteArray.toList_eq]; simp
  clear hv
  go_enter Try.func3, Try.ntmps3
  go_wp2_with fail
  refine (HA.out _).mono ?_
  rintro e w1 ⟨rfl, h1⟩
  go_wp2_with fail
  refine (HB.out _).mono ?_
  rintro e w2 ⟨rfl, h2⟩
  go_wp2_with fail
  refine (HC.out _).mono ?_
  rintro e w3 ⟨rfl, h3⟩
  go_wp2_with fail
  refine (HD.out _).mono ?_
  rintro e w4 ⟨rfl, h4⟩
  go_wp2_with fail
  refine (HE.out _).mono ?_
  rintro e w5 ⟨rfl, h5⟩
  go_wp2_with fail
  refine (HF.out _).mono ?_
  rintro e w6 ⟨rfl, h6⟩
  go_wp2_with fail
  refine (HV.out _).mono ?_
  rintro e w7 ⟨rfl, h7⟩
  go_wp2_with fail
  refine (HW.out _).mono ?_
  rintro e w8 ⟨rfl, rfl⟩
  go_wp2_with fail
  refine (HW.out _).mono ?_
  rintro e w9 ⟨rfl, rfl⟩
  go_wp2_with fail
  refine (awake_any _).mono ?_
  rintro e w10 ⟨rfl, h10⟩
  go_wp2_with fail
  go_ret
  exact ⟨rfl, bstep (bstep (bstep (bstep (bstep (bstep (bstep h1 h2) h3) h4) h5) h6) h7) h10⟩

set_option maxHeartbeats 6400000 in
set_option maxRecDepth 100000 in
theorem reads_num (s : ByteArray) (w : World) (m : Int) (hm : w.cell? ⟨0, 0, none⟩ = some (.int .i64 m)) (hv : vld s.data.toList = true) (ha : alt s.data.toList = true) :
    Calls Try.prog 3 #[.string s] w fun e w' => e = .returned (.bool true) ∧ Below w.heap.size w w' := by
  have hs := vld_size hv
  have hs2 : s.size ≤ 281474976710656 := by omega
  have HA := Lib.hid (fun W => Head_yes s W hv)
  have HB := Lib.hid (fun W => Tail_yes s W hv)
  have HC := Lib.hid (fun W => Pairs_yes s W hv)
  have HD := Lib.hid (fun W => Depth_yes s W hv)
  have HE := Lib.hid (fun W hm => Value_num s m W hv hm ha)
  have HF := Lib.hid (fun W => Items_arg s W hv)
  have HV := Lib.hid (fun W => Valid_is true s W hs2 hv)
  have HW := Lib.hid (fun W => rValid_is true s W hs2 hv)
  have HRA := Lib.hid (fun W => rHead_yes s W hv)
  have HRB := Lib.hid (fun W => rTail_yes s W hv)
  have HRC := Lib.hid (fun W => rPairs_any s W hs2)
  have HRD := Lib.hid (fun W => rDepth_yes s W hv)
  have HRE := Lib.hid (fun W => rValue_any s W hs2)
  have HRF := Lib.hid (fun W => rItems_arg s W hv)
  have HFEW := Lib.hid (items_few hv)
  have HM := Lib.hid hm
  have HVAL := Lib.hid (show 0 ≤ val s.data.toList by rw [val_good ha]; omega)
  clear hv ha hm hs hs2
  generalize hd s.data.toList = a at *
  generalize tl s.data.toList = b at *
  generalize ones s.data.toList = c at *
  generalize dep s.data.toList = d at *
  generalize itemsOf s.data.toList = f at *
  have hv0 := HVAL.out
  generalize val s.data.toList = e0 at *
  go_enter Try.func3, Try.ntmps3
  go_wp2_with fail
  refine (HA.out _).mono ?_
  rintro e w1 ⟨rfl, h1⟩
  go_wp2_with fail
  refine (HB.out _).mono ?_
  rintro e w2 ⟨rfl, h2⟩
  go_wp2_with fail
  refine (HC.out _).mono ?_
  rintro e w3 ⟨rfl, h3⟩
  go_wp2_with fail
  refine (HD.out _).mono ?_
  rintro e w4 ⟨rfl, h4⟩
  have h4' := bstep (bstep (bstep h1 h2) h3) h4
  clear h1 h2 h3 h4
  go_wp2_with fail
  refine (HE.out _ (cell_keep h4' HM.out)).mono ?_
  rintro e w5 ⟨rfl, h5⟩
  go_wp2_with fail
  refine (HF.out _).mono ?_
  rintro e w6 ⟨v6, rfl, ha6, h6⟩
  have HA6 := Lib.hid ha6; clear ha6
  go_wp2_with fail
  refine (HV.out _).mono ?_
  rintro e w7 ⟨rfl, h7⟩
  have HA7 := Lib.hid (HA6.out.below h7)
  have h7' := bstep (bstep (bstep h4' h5) h6) h7
  clear h4' h5 h6 h7
  go_wp2_with fail
  refine (HW.out _).mono ?_
  rintro e w8 ⟨rfl, rfl⟩
  go_wp2_with fail
  refine (HW.out _).mono ?_
  rintro e w9 ⟨rfl, rfl⟩
  go_wp2_with fail
  refine (HRE.out _).mono ?_
  rintro e w10 ⟨rfl, rfl⟩
  go_wp2_with fail
  refine (HRA.out _).mono ?_
  rintro e w11 ⟨rfl, rfl⟩
  go_wp2_with fail
  refine (HRB.out _).mono ?_
  rintro e w12 ⟨rfl, rfl⟩
  go_wp2_with fail
  refine (HRC.out _).mono ?_
  rintro e w13 ⟨rfl, rfl⟩
  go_wp2_with fail
  refine (HRD.out _).mono ?_
  rintro e w14 ⟨rfl, h14⟩
  go_wp2_with fail
  refine (HRF.out _).mono ?_
  rintro e w15 ⟨v15, rfl, ha15, h15⟩
  have HA15 := Lib.hid ha15; clear ha15
  go_wp2_with fail
  refine (Same_arg _ _ _ f (HA7.out.below (bstep h14 h15)) HA15.out (Nat.le_trans HFEW.out (by omega))).mono ?_
  rintro e w16 ⟨rfl, h16⟩
  go_wp2_with fail
  refine (awake_any _).mono ?_
  rintro e w17 ⟨rfl, h17⟩
  go_wp2_with fail
  go_ret
  exact ⟨rfl, bstep (bstep (bstep (bstep h7' h14) h15) h16) h17⟩

set_option maxHeartbeats 6400000 in
set_option maxRecDepth 100000 in
theorem reads_none (s : ByteArray) (w : World) (m : Int) (hm : w.cell? ⟨0, 0, none⟩ = some (.int .i64 m)) (hv : vld s.data.toList = true) (ha : alt s.data.toList = false) :
    Calls Try.prog 3 #[.string s] w fun e w' => e = .returned (.bool true) ∧ Below w.heap.size w w' := by
  have hs := vld_size hv
  have hs2 : s.size ≤ 281474976710656 := by omega
  have HA := Lib.hid (fun W => Head_yes s W hv)
  have HB := Lib.hid (fun W => Tail_yes s W hv)
  have HC := Lib.hid (fun W => Pairs_yes s W hv)
  have HD := Lib.hid (fun W => Depth_yes s W hv)
  have HE := Lib.hid (fun W hm => Value_none s m W hv hm ha)
  have HF := Lib.hid (fun W => Items_arg s W hv)
  have HV := Lib.hid (fun W => Valid_is true s W hs2 hv)
  have HW := Lib.hid (fun W => rValid_is true s W hs2 hv)
  have HRA := Lib.hid (fun W => rHead_yes s W hv)
  have HRB := Lib.hid (fun W => rTail_yes s W hv)
  have HRC := Lib.hid (fun W => rPairs_any s W hs2)
  have HRD := Lib.hid (fun W => rDepth_yes s W hv)
  have HRE := Lib.hid (fun W => rValue_any s W hs2)
  have HRF := Lib.hid (fun W => rItems_arg s W hv)
  have HFEW := Lib.hid (items_few hv)
  have HM := Lib.hid hm
  have HVAL := Lib.hid (show val s.data.toList = -1 by exact val_bad ha)
  have hvr := HVAL.out
  have hre := HRE.out
  rw [hvr] at hre
  have HRE2 := Lib.hid hre; clear hre hvr
  clear hv ha hm hs hs2
  generalize hd s.data.toList = a at *
  generalize tl s.data.toList = b at *
  generalize ones s.data.toList = c at *
  generalize dep s.data.toList = d at *
  generalize itemsOf s.data.toList = f at *
  go_enter Try.func3, Try.ntmps3
  go_wp2_with fail
  refine (HA.out _).mono ?_
  rintro e w1 ⟨rfl, h1⟩
  go_wp2_with fail
  refine (HB.out _).mono ?_
  rintro e w2 ⟨rfl, h2⟩
  go_wp2_with fail
  refine (HC.out _).mono ?_
  rintro e w3 ⟨rfl, h3⟩
  go_wp2_with fail
  refine (HD.out _).mono ?_
  rintro e w4 ⟨rfl, h4⟩
  have h4' := bstep (bstep (bstep h1 h2) h3) h4
  clear h1 h2 h3 h4
  go_wp2_with fail
  refine (HE.out _ (cell_keep h4' HM.out)).mono ?_
  rintro e w5 ⟨rfl, h5⟩
  go_wp2_with fail
  refine (HF.out _).mono ?_
  rintro e w6 ⟨v6, rfl, ha6, h6⟩
  have HA6 := Lib.hid ha6; clear ha6
  go_wp2_with fail
  refine (HV.out _).mono ?_
  rintro e w7 ⟨rfl, h7⟩
  have HA7 := Lib.hid (HA6.out.below h7)
  have h7' := bstep (bstep (bstep h4' h5) h6) h7
  clear h4' h5 h6 h7
  go_wp2_with fail
  refine (HW.out _).mono ?_
  rintro e w8 ⟨rfl, rfl⟩
  go_wp2_with fail
  refine (HW.out _).mono ?_
  rintro e w9 ⟨rfl, rfl⟩
  go_wp2_with fail
  refine (HRE2.out _).mono ?_
  rintro e w10 ⟨rfl, rfl⟩
  go_wp2_with fail
  refine (HRA.out _).mono ?_
  rintro e w11 ⟨rfl, rfl⟩
  go_wp2_with fail
  refine (HRB.out _).mono ?_
  rintro e w12 ⟨rfl, rfl⟩
  go_wp2_with fail
  refine (HRC.out _).mono ?_
  rintro e w13 ⟨rfl, rfl⟩
  go_wp2_with fail
  refine (HRD.out _).mono ?_
  rintro e w14 ⟨rfl, h14⟩
  go_wp2_with fail
  refine (HRF.out _).mono ?_
  rintro e w15 ⟨v15, rfl, ha15, h15⟩
  have HA15 := Lib.hid ha15; clear ha15
  go_wp2_with fail
  refine (Same_arg _ _ _ f (HA7.out.below (bstep h14 h15)) HA15.out (Nat.le_trans HFEW.out (by omega))).mono ?_
  rintro e w16 ⟨rfl, h16⟩
  go_wp2_with fail
  refine (awake_any _).mono ?_
  rintro e w17 ⟨rfl, h17⟩
  go_wp2_with fail
  go_ret
  exact ⟨rfl, bstep (bstep (bstep (bstep h7' h14) h15) h16) h17⟩

theorem TreeReads_any (s : ByteArray) (w : World) (hs : s.size ≤ 281474976710656) (m : Int) (hm : w.cell? ⟨0, 0, none⟩ = some (.int .i64 m)) :
    Calls Try.prog 3 #[.string s] w fun e w' => e = .returned (.bool true) ∧ Below w.heap.size w w' := by
  cases hv : vld s.data.toList with
  | false => exact reads_no s w hs hv
  | true =>
    cases ha : alt s.data.toList with
    | true => exact reads_num s w m hm hv ha
    | false => exact reads_none s w m hm hv ha
end Go.Proofs.Ytkodkimdhalpcaa
