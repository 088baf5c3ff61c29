/- narcissustop: good of any program, whole, few. By an AI agent. -/
import Derived.Test.YtmhoacnbmbhcjabTopV
namespace Go.Proofs.Ytmhoacnbmbhcjab
open Go.RowKit Pl

theorem good_arg (w : World) (v : Value) (p : List Ins) (most chars : Nat) (r : Bool) (h : ArgP w v p) (hm4 : most ≤ 4000) (hch : chars ≤ 2000000) (hz : ∀ x ∈ p, x.tree.length ≤ 281474976710656) (hr : r = true ↔ GoodP p most chars) :
    Calls Try.prog 80 #[v, .int .i64 (most : Int), .int .i64 (chars : Int)] w fun e w' => e = .returned (.bool r) ∧ Below w.heap.size w w' := by
  rcases h with ⟨rfl, h⟩ | ⟨h0, b, off, cap, rfl, hc⟩
  · obtain ⟨a, cap, rfl⟩ := empty_arg h
    obtain rfl : r = true := hr.2 ⟨by simp, by simp [trees], fun k x h => by simp at h⟩
    exact good_none w a cap most chars
  · by_cases hm : p.length ≤ most
    · exact good_some w b off cap most chars p r hc h0 hm hm4 hch hz hr
    · have : r = false := by
        cases r with
        | false => rfl
        | true => exact absurd (hr.1 rfl).1 hm
      rw [this]
      exact good_long w _ _ cap most chars (by omega)
set_option maxHeartbeats 400000 in
set_option maxRecDepth 100000 in
theorem whole_arg (w : World) (v : Value) (p : List Ins) (r : Bool) (h : ArgP w v p) (hz : ∀ x ∈ p, x.tree.length ≤ 281474976710656) (hr : r = true ↔ PValid p) :
    Calls Try.prog 51 #[v] w fun e w' => e = .returned (.bool r) ∧ Below w.heap.size w w' := by
  have H := Lib.hid (good_arg w v p 4000 2000000 r h (by omega) (by omega) hz (hr.trans good_all.symm))
  clear h hz hr
  go_enter Try.func51, Try.ntmps51
  go_wp2_with fail
  refine H.out.mono ?_
  rintro e w1 ⟨rfl, h1⟩
  go_wp2_with fail
  go_ret
  exact ⟨rfl, h1⟩
/-- what few asks for -/
def FewP (pss : List (List Ins)) : Prop := ∀ p ∈ pss, GoodP p 60 2000 ∧ rn p ≤ 28
theorem few_bool (pss : List (List Ins)) : ∃ r : Bool, r = true ↔ FewP pss := by
  by_cases h : FewP pss
  · exact ⟨true, by simp [h]⟩
  · exact ⟨false, by simp [h]⟩
set_option maxHeartbeats 1600000 in
set_option maxRecDepth 100000 in
theorem few_any (w : World) (b off cap : Nat) (pss : List (List Ins)) (r : Bool) (hc : PiecesAt w b off pss) (hm : pss.length ≤ 1000) (hs : ∀ p ∈ pss, p.length ≤ 281474976710656 ∧ ∀ x ∈ p, x.tree.length ≤ 281474976710656) (hr : r = true ↔ FewP pss) :
    Calls Try.prog 42 #[.slice (some ⟨b, off, none⟩) pss.length cap] w fun e w' => e = .returned (.bool r) ∧ Below w.heap.size w w' := by
  generalize hnn : pss.length = n at *
  have HN := Lib.hid hnn; have HC := Lib.hid hc; have HS := Lib.hid hs; have HR := Lib.hid hr
  have hbw := hc.lt
  clear hnn hc hs hr
  go_enter Try.func42, Try.ntmps42
  go_wp2
  go_loopw [3] (fun i wr => ∃ k : Nat, k ≤ n ∧ i = .int .i64 k ∧ Hid (∀ j p, j < k → pss[j]? = some p → GoodP p 60 2000 ∧ rn p ≤ 28) ∧ Below w.heap.size w wr) (fun i _ => n - (intOf i).toNat)
  case atStart => exact ⟨0, Nat.zero_le _, rfl, Lib.hid (fun j p h => by omega), Below.refl _ _⟩
  case round =>
    obtain ⟨k, hk, rfl, HV, hb⟩ := hrel
    have hsz := hb.size
    by_cases hlt : k < n
    · have hk1 : (k : Int) < (n : Int) := by omega
      obtain ⟨p, hp⟩ := piece_at (pss := pss) (k := k) (by rw [HN.out]; exact hlt)
      obtain ⟨u, hcell, hA⟩ := (HC.out.below hb).piece k p hp
      obtain ⟨hpl, hpz⟩ := HS.out p (List.mem_of_getElem? hp)
      obtain ⟨g, hg⟩ := good_bool p 60 2000
      have HP := Lib.hid hp
      have HNO : Hid (¬ (GoodP p 60 2000 ∧ rn p ≤ 28) → r = false) := Lib.hid (fun h => by
        cases r with
        | false => rfl
        | true => exact absurd (HR.out.1 rfl p (List.mem_of_getElem? HP.out)) h)
      have HGD := Lib.hid (fun W h => good_arg W u p 60 2000 g h (by omega) (by omega) hpz hg)
      have HG := Lib.hid hg
      obtain ⟨pa, pcap, rfl⟩ := hA.form
      have HA := Lib.hid hA
      cases g with
      | false =>
        have HF : Hid (r = false) := Lib.hid (HNO.out fun h => by have := HG.out.2 h.1; cases this)
        clear hp hA hg
        generalize p.length = q at *
        go_wp2_with fail
        refine (HGD.out _ HA.out).mono ?_
        rintro e w2 ⟨rfl, h2⟩
        have hb2 := Lib.hid (hb.trans (h2.mono hsz))
        clear h2
        go_wp2_with fail
        go_ret
        rw [HF.out]
        exact ⟨rfl, hb2.out⟩
      | true =>
        have hgp := HG.out.1 rfl
        have HRG := Lib.hid (fun W h => tregs_arg W (.slice pa p.length pcap) p h (good_valid hgp (by omega) (by omega)))
        rw [← rn_eq] at HRG
        have HGP := Lib.hid hgp
        clear hp hA hg hgp
        generalize p.length = q at *
        by_cases h28 : rn p ≤ 28
        · have HV2 : Hid (∀ j p, j < k + 1 → pss[j]? = some p → GoodP p 60 2000 ∧ rn p ≤ 28) := Lib.hid (fun j p' hj hp' => by
            by_cases h : j = k
            · subst h
              have h3 := HP.out
              rw [hp'] at h3
              cases h3; exact ⟨HGP.out, h28⟩
            · exact HV.out j p' (by omega) hp')
          have h28' : ¬ (28 : Int) < (rn p : Int) := by omega
          clear h28
          have HCELL := Lib.hid hcell
          go_wp2_with fail
          refine (HGD.out _ HA.out).mono ?_
          rintro e w2 ⟨rfl, h2⟩
          have hb2 := Lib.hid (hb.trans (h2.mono hsz))
          have c2 := cell_keep h2 HCELL.out
          have HA2 := Lib.hid (HA.out.below h2)
          clear h2
          go_wp2_with fail
          refine (HRG.out _ HA2.out).mono ?_
          rintro e w3 ⟨rfl, h3⟩
          have hb3 := Lib.hid (bstep hb2.out h3)
          clear h3
          go_wp2_with fail
          go_roundw
          case rel => exact ⟨k + 1, by omega, by go_num, HV2, hb3.out⟩
          case measure => simp [intOf]; omega
        · have HF : Hid (r = false) := Lib.hid (HNO.out fun h => h28 h.2)
          have h28' : (28 : Int) < (rn p : Int) := by omega
          clear h28
          have HCELL := Lib.hid hcell
          go_wp2_with fail
          refine (HGD.out _ HA.out).mono ?_
          rintro e w2 ⟨rfl, h2⟩
          have hb2 := Lib.hid (hb.trans (h2.mono hsz))
          have c2 := cell_keep h2 HCELL.out
          have HA2 := Lib.hid (HA.out.below h2)
          clear h2
          go_wp2_with fail
          refine (HRG.out _ HA2.out).mono ?_
          rintro e w3 ⟨rfl, h3⟩
          have hb3 := Lib.hid (bstep hb2.out h3)
          clear h3
          go_wp2_with fail
          go_ret
          rw [HF.out]
          exact ⟨rfl, hb3.out⟩
    · obtain rfl : k = n := by omega
      have HF : Hid (r = true) := Lib.hid (HR.out.2 fun p hp => by
        obtain ⟨j, hj⟩ := List.mem_iff_getElem?.1 hp
        exact HV.out j p (by have := (List.getElem?_eq_some_iff.1 hj).1; have := HN.out; omega) hj)
      go_wp2_with fail
      go_ret
      rw [HF.out]
      exact ⟨rfl, hb⟩
end Go.Proofs.Ytmhoacnbmbhcjab
