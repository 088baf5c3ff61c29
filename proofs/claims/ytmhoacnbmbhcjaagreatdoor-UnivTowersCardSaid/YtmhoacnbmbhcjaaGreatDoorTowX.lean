/- The reference's Tower. By an AI agent. -/
import Derived.Test.YtmhoacnbmbhcjaaGreatDoorTowW
namespace Go.Proofs.YtmhoacnbmbhcjaaGreatDoor
open Go.RowKit Pl

set_option maxHeartbeats 3200000 in
set_option maxRecDepth 100000 in
theorem rTower_yes (w : World) (a : Option Addr) (cap : Nat) (pss : List (List Ins)) (x : ByteArray) (hc : LsA w a pss) (hm : pss.length ≤ 6000000000000) (hv : ∀ p ∈ pss, PValid p) (hx : vld x.data.toList = true) :
    Calls Tryz.prog 50 #[.slice a pss.length cap, .string x] w fun e w' => TowP pss x e (.bool true) (.bool false) ∧ Below w.heap.size w w' := by
  have hxs := vld_size hx
  have HRX := Lib.hid (fun W => rRead_any x W hx)
  have hyx : tx (rd x.data.toList) = x.data.toList := tx_rd hx
  have HC := Lib.hid hc; have HV := Lib.hid hv
  have HTL : Hid (tx (towR pss (rd x.data.toList)) = towB pss ++ x.data.toList) := Lib.hid (by rw [tx_towR hv, hyx])
  have HTN : Hid ((tx (towR pss (rd x.data.toList))).length = (towB pss).length + x.size) := Lib.hid (by rw [HTL.out, List.length_append, len_eq])
  have HTE := Lib.hid (fun k => towR_le pss (rd x.data.toList) k hv)
  have hy0 : (tx (rd x.data.toList)).length ≤ 2000000 := by rw [hyx, len_eq]; exact hxs
  have HY0 := Lib.hid hy0
  generalize rd x.data.toList = y at *
  generalize hnn : pss.length = n at *
  have HN := Lib.hid hnn
  clear hnn hc hv hx hyx hy0
  go_enter Tryz.func50, Tryz.ntmps50
  go_wp2_with fail
  refine (HRX.out _).mono ?_
  rintro e w1 ⟨v1, rfl, n1, h1⟩
  obtain ⟨V1, rfl⟩ := n1.one
  have HB1 := Lib.hid h1; have HN1 := Lib.hid n1
  clear h1 n1
  go_wp2_with fail
  go_loopw [6, 7] (fun v i wr => ∃ (j : Nat) (V : Option Addr), j ≤ n ∧ i = .int .i64 ((j : Int) - 1) ∧ v = .pointer V ∧ Hid (NodeW 42 wr (towR (pss.drop j) y) (.pointer V)) ∧ Hid ((tx (towR (pss.drop j) y)).length ≤ 2000000) ∧ Hid (Below w.heap.size w wr)) (fun _ i _ => (intOf i + 1).toNat)
  case atStart => exact ⟨n, V1, Nat.le_refl _, rfl, rfl, Lib.hid (by rw [List.drop_of_length_le (by rw [HN.out]; exact Nat.le_refl _)]; exact HN1.out), Lib.hid (by rw [List.drop_of_length_le (by rw [HN.out]; exact Nat.le_refl _)]; exact HY0.out), HB1⟩
  case round =>
    clear HB1 HN1
    obtain ⟨j, V, hj, rfl, rfl, HW, HL, HB⟩ := hrel
    rcases Nat.eq_zero_or_pos j with h0 | h0
    · subst h0
      have e1 : ((0 : Nat) : Int) - 1 = -1 := rfl
      have HTX := Lib.hid (rText_any (towR pss y) (.pointer V) wr (by have := HW.out; rwa [List.drop_zero] at this) (by have := HL.out; rwa [List.drop_zero] at this))
      have HFT : Hid ((towB pss).length + x.size ≤ 2000000) := Lib.hid (by rw [← HTN.out]; have := HL.out; rwa [List.drop_zero] at this)
      rw [HTL.out] at HTX
      go_wp2_with fail
      refine HTX.out.mono ?_
      rintro e w2 ⟨rfl, h2⟩
      have HB2 := Lib.hid (bstep HB.out h2)
      clear h2
      go_wp2_with fail
      go_ret2
      exact ⟨.inl ⟨HFT.out, rfl⟩, HB2.out⟩
    · obtain ⟨k, rfl⟩ : ∃ k, j = k + 1 := ⟨j - 1, by omega⟩
      have e1 : ((k + 1 : Nat) : Int) - 1 = (k : Int) := by omega
      have hk0 : (0 : Int) ≤ (k : Int) := by omega
      have hk1 : (k : Int) < (n : Int) := by omega
      obtain ⟨b, off, rfl, p, u, hp, hcell, hA⟩ := (HC.out.below HB.out).at (k := k) (by rw [HN.out]; omega)
      have hpv := HV.out p (List.mem_of_getElem? hp)
      have HCD := Lib.hid (Code_arg wr u p hA hpv)
      have HTK := Lib.hid (towR_drop (y := y) hp)
      have hrt : rd (enc (codes p)) = lst (codeL p) := by rw [← tx_code hpv.2.2, rd_tx]
      have htl : tx (lst (codeL p)) = enc (codes p) := tx_code hpv.2.2
      have HTLC := Lib.hid htl
      have HRC := Lib.hid (fun W (hl : (enc (codes p)).length ≤ 2000000) => rRead_any (S (enc (codes p))) W (by rw [S_list]; exact code_vld hpv hl))
      rw [S_list, hrt] at HRC
      have HNL : Hid (2000000 < (enc (codes p)).length → ¬ (towB pss).length + x.size ≤ 2000000) := Lib.hid (fun h => by
        rw [← HTN.out]
        have h1 := HTE.out k
        rw [HTK.out, tx_pair, htl] at h1
        omega)
      have HNP : Hid (2000000 < (tx (.pair (lst (codeL p)) (towR (pss.drop (k + 1)) y))).length → ¬ (towB pss).length + x.size ≤ 2000000) := Lib.hid (fun h => by
        rw [← HTN.out]
        have h1 := HTE.out k
        rw [HTK.out] at h1
        omega)
      have hzs : (S (enc (codes p))).size = (enc (codes p)).length := S_size _
      rw [← hzs] at HNL HRC
      have HZL : Hid ((tx (lst (codeL p))).length = (S (enc (codes p))).size) := Lib.hid (by rw [htl, hzs])
      obtain ⟨pa, pcap, rfl⟩ := hA.form
      clear hp hA hpv hrt htl hzs HTLC
      generalize p.length = np at *
      generalize S (enc (codes p)) = z at *
      generalize lst (codeL p) = t at *
      generalize towR (pss.drop (k + 1)) y = r at *
      by_cases hl : z.size ≤ 2000000
      · have hl1 : ¬ (2000000 : Int) < (z.size : Int) := by omega
        have HCO := Lib.hid (fun W z' (h : NodeW 42 W t z') (h2 : NodeW 42 W r (.pointer V)) => rCons_any W t r z' _ h h2 (by rw [HZL.out]; exact hl) HL.out)
        have HRL := Lib.hid (fun W => HRC.out W hl)
        clear HNL HRC hl
        go_wp2_with fail
        refine HCD.out.mono ?_
        rintro e w2 ⟨rfl, h2⟩
        have HB2 := Lib.hid (bstep HB.out h2); have HW2 := Lib.hid (NodeW.below HW.out h2)
        clear h2
        go_wp2_with fail
        refine (HRL.out _).mono ?_
        rintro e w3 ⟨v3, rfl, n3, h3⟩
        obtain ⟨V3, rfl⟩ := n3.one
        have HB3 := Lib.hid (bstep HB2.out h3); have HW3 := Lib.hid (NodeW.below HW2.out h3); have HN3 := Lib.hid n3
        clear h3 n3
        go_wp2_with fail
        refine (HCO.out _ _ HN3.out HW3.out).mono ?_
        rintro e w4 ⟨v4, rfl, n4, hb⟩
        obtain ⟨B4, o4, x4, y4, rfl, ca, cb, cc, na, nb⟩ := n4
        have HB4 := Lib.hid (bstep HB3.out hb)
        have HP4 : Hid (NodeW 42 w4 (.pair t r) (.pointer (some ⟨B4, o4, none⟩))) := Lib.hid ⟨B4, o4, x4, y4, rfl, ca, cb, cc, na, nb⟩
        have cc4 : w4.cell? ⟨B4, o4 + 2, none⟩ = some (.int .i64 ((tx (.pair t r)).length : Nat)) := cc.2
        clear hb ca cb cc na nb
        by_cases hz : 2000000 < (tx (.pair t r)).length
        · have hz1 : decide ((2000000 : Int) < ((tx (.pair t r)).length : Int)) = true := by rw [decide_eq_true_eq]; omega
          have HNO := Lib.hid (HNP.out hz)
          clear hz HNP
          generalize (tx (.pair t r)).length = L at cc4 hz1
          go_wp2_with fail
          go_ret2
          exact ⟨.inr ⟨HNO.out, rfl⟩, HB4.out⟩
        · have hz1 : decide ((2000000 : Int) < ((tx (.pair t r)).length : Int)) = false := by rw [decide_eq_false_iff_not]; omega
          have HLO := Lib.hid (show (tx (.pair t r)).length ≤ 2000000 by omega)
          clear hz HNP
          generalize (tx (.pair t r)).length = L at cc4 hz1
          go_wp2_with fail
          go_roundw
          case rel => exact ⟨k, _, by omega, by go_num, rfl, Lib.hid (by rw [HTK.out]; exact HP4.out), Lib.hid (by rw [HTK.out]; exact HLO.out), HB4⟩
          case measure => first | (simp [intOf]; done) | (simp [intOf]; omega)
      · have hl1 : (2000000 : Int) < (z.size : Int) := by omega
        have HNO := Lib.hid (HNL.out (by omega))
        clear HNL HRC hl HNP
        go_wp2_with fail
        refine HCD.out.mono ?_
        rintro e w2 ⟨rfl, h2⟩
        have HB2 := Lib.hid (bstep HB.out h2)
        clear h2
        go_wp2_with fail
        go_ret2
        exact ⟨.inr ⟨HNO.out, rfl⟩, HB2.out⟩
end Go.Proofs.YtmhoacnbmbhcjaaGreatDoor
