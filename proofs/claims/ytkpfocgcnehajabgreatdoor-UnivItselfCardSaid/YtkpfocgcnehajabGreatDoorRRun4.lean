/- The reference's After and Run, for up to 40,000,000 steps. By an AI agent. -/
import Derived.Test.YtkpfocgcnehajabGreatDoorRRun
namespace Go.Proofs.YtkpfocgcnehajabGreatDoor
open Go.RowKit Pl

set_option maxHeartbeats 3200000 in
set_option maxRecDepth 100000 in
theorem rAfter_far (w : World) (m C K : Nat) (v x : Value) (ps : List Ins) (t : Tr) (hL : RL w m C v ps) (hC : C < w.heap.size) (ho : ∀ k, 0 < ps.length → v.ownBlock = some k → k < w.heap.size) (hv : PValid ps) (hn : NodeW 72 w t x) (ht : (tx t).length ≤ 2000000) (hk : K ≤ 40000000) :
    Calls Tryz.prog 89 #[.pointer (some ⟨m, 0, none⟩), x, .int .i64 (K : Int)] w (RAftOut w w.heap.size m C ps t K) := by
  have HF := Lib.hid (rFirst3_any w t x hn)
  have hf : (first t).ok ps.length := first_ok _ ht
  have HFO := Lib.hid hf; have HV := Lib.hid hv; have HL := Lib.hid hL; have HO := Lib.hid ho
  clear hn ht hf hv hL ho
  go_enter Tryz.func89, Tryz.ntmps89
  go_wp2_with fail
  refine HF.out.mono ?_
  rintro e w1 ⟨s, R, rfl, hS, hs1, hR1, hb1⟩
  have hM1 : RM w1 w.heap.size m C s R ps (first t) := RM.of (HL.out.below hb1) hS HO.out hs1 hR1 hb1.size (by omega)
  have HM1 := Lib.hid hM1; have HB1 := Lib.hid hb1
  clear hS hM1 hb1 HF
  go_wp2
  go_loopw [10] (fun i wr => ∃ (k : Nat) (st : St), k ≤ K ∧ i = .int .i64 (k : Int) ∧ Hid (Steps ps (first t) k st) ∧ Hid (RM wr w.heap.size m C s R ps st) ∧ Hid (Below w.heap.size w wr)) (fun i _ => K - (intOf i).toNat)
  case atStart => exact ⟨0, first t, Nat.zero_le _, rfl, Lib.hid .zero, HM1, HB1⟩
  case round =>
    clear HM1 HB1
    obtain ⟨k, st, hkK, rfl, HST, HM, HB⟩ := hrel
    by_cases hlt : k < K
    · have hk1 : (k : Int) < (K : Int) := by omega
      have HE := Lib.hid (rended_is HM.out HV.out (HST.out.ok HV.out HFO.out))
      cases hed : (st.at_ == ps.length) with
      | true =>
        rw [hed] at HE
        have HEN : Hid (st.at_ = ps.length) := Lib.hid (by simpa using hed)
        clear hed
        go_wp2_with fail
        refine HE.out.mono ?_
        rintro e w2 ⟨rfl, q, rfl⟩
        have HM2 := Lib.hid (HM.out.below (bdrewN (Below.refl _ _) q))
        go_wp2
        go_ret3
        refine ⟨bdrewN HB.out q, ?_⟩
        rw [runTo_is HST.out hkK (.inr HEN.out)]
        exact ⟨s, R, rfl, HM2.out⟩
      | false =>
        rw [hed] at HE
        have HEN : Hid (st.at_ ≠ ps.length) := Lib.hid (by simpa using hed)
        clear hed
        go_wp2_with fail
        refine HE.out.mono ?_
        rintro e w2 ⟨rfl, q, rfl⟩
        have HM2 := Lib.hid (HM.out.below (bdrewN (Below.refl _ _) q))
        have HB2 := Lib.hid (bdrewN HB.out q)
        clear HE
        cases hs : stepP ps st with
        | some st' =>
          have HS := Lib.hid (rstep_yes HM2.out HV.out (HST.out.ok HV.out HFO.out) HEN.out hs)
          have HST' := Lib.hid (Steps.succ HST.out HEN.out hs)
          clear hs
          go_wp2_with fail
          refine HS.out.mono ?_
          rintro e w3 ⟨rfl, hm3, hb3⟩
          have HM3 := Lib.hid hm3
          have HB3 := Lib.hid (HB2.out.trans (hb3.below hs1 hR1 HB2.out.size))
          clear hm3 hb3
          go_wp2
          go_roundw
          case rel => exact ⟨k + 1, st', by omega, by go_num, HST', HM3, HB3⟩
          case measure => simp [intOf]; omega
        | none =>
          have HS := Lib.hid (rstep_no HM2.out HV.out (HST.out.ok HV.out HFO.out) HEN.out hs)
          have HN := Lib.hid hs
          clear hs
          go_wp2_with fail
          refine HS.out.mono ?_
          rintro e w3 ⟨rfl, hm3, hb3⟩
          have HB3 := Lib.hid (HB2.out.trans (hb3.below hs1 hR1 HB2.out.size))
          clear hm3 hb3
          go_wp2
          go_ret3
          refine ⟨HB3.out, ?_⟩
          rw [runTo_large HST.out hlt HEN.out HN.out]
          exact ⟨_, _, rfl⟩
    · obtain rfl : k = K := by omega
      go_wp2
      go_ret3
      refine ⟨HB.out, ?_⟩
      rw [runTo_is HST.out hkK (.inl rfl)]
      exact ⟨s, R, rfl, HM.out⟩
set_option maxHeartbeats 1600000 in
set_option maxRecDepth 100000 in
theorem rRun_far (w : World) (m C K : Nat) (v x : Value) (ps : List Ins) (t : Tr) (hL : RL w m C v ps) (hC : C < w.heap.size) (ho : ∀ k, 0 < ps.length → v.ownBlock = some k → k < w.heap.size) (hv : PValid ps) (hn : NodeW 72 w t x) (ht : (tx t).length ≤ 2000000) (hk : K ≤ 40000000) :
    Calls Tryz.prog 43 #[.pointer (some ⟨m, 0, none⟩), x, .int .i64 (K : Int)] w (RRunOut w ps t K) := by
  have HA := Lib.hid (rAfter_far w m C K v x ps t hL hC ho hv hn ht hk)
  have hf : (first t).ok ps.length := first_ok _ ht
  unfold RRunOut
  cases hr : runTo ps K (first t) with
  | none =>
    have HR := Lib.hid hr
    clear hL hC ho hv hn ht hk hr hf
    go_enter Tryz.func43, Tryz.ntmps43
    go_wp2_with fail
    refine HA.out.mono ?_
    rintro e w1 ⟨hb, he⟩
    rw [HR.out] at he
    obtain ⟨v1, k1, rfl⟩ := he
    go_wp2
    go_ret3
    exact ⟨hb, rfl⟩
  | some r =>
    obtain ⟨st, n⟩ := r
    obtain ⟨hst, hnk, _⟩ := runTo_some hr
    have hok := hst.ok hv hf
    by_cases hat : st.at_ = ps.length
    · have hb1 : (st.at_ == ps.length) = true := by simp [hat]
      have HE := Lib.hid (fun W s R (hm : RM W w.heap.size m C s R ps st) => rended_is hm hv hok)
      rw [hb1] at HE
      have HAT := Lib.hid hat
      have HR := Lib.hid hr
      clear hr hst hat hb1 hv hL ho hn ht
      go_enter Tryz.func43, Tryz.ntmps43
      go_wp2_with fail
      refine HA.out.mono ?_
      rintro e w1 ⟨hb, he⟩
      rw [HR.out] at he
      obtain ⟨s, R, rfl, hM⟩ := he
      have HM := Lib.hid hM
      clear hM
      go_wp2_with fail
      refine (HE.out _ _ _ HM.out).mono ?_
      rintro e w2 ⟨rfl, q, rfl⟩
      obtain ⟨x0, hx0, hN0⟩ := HM.out.regs 0 (by omega)
      obtain ⟨rc, hrc⟩ := HM.out.regsv
      obtain ⟨X0, rfl⟩ := hN0.one
      have c3 : (w1.drewN q).cell? ⟨R, 0, none⟩ = some (.pointer X0) := hx0
      have c4 : (w1.drewN q).cell? ⟨s, 1, none⟩ = some (.slice (some ⟨R, 0, none⟩) 32 rc) := hrc
      have HN0 := Lib.hid hN0
      clear hx0 hN0 hrc
      go_wp2
      go_ret3
      exact ⟨bdrewN hb q, .inl ⟨HAT.out, _, rfl, NodeW.keep HN0.out (KeepT.drewN _ _ _)⟩⟩
    · have hb1 : (st.at_ == ps.length) = false := by simp [hat]
      have HE := Lib.hid (fun W s R (hm : RM W w.heap.size m C s R ps st) => rended_is hm hv hok)
      rw [hb1] at HE
      have HAT := Lib.hid hat
      have HR := Lib.hid hr
      clear hr hst hat hb1 hv hL ho hn ht
      go_enter Tryz.func43, Tryz.ntmps43
      go_wp2_with fail
      refine HA.out.mono ?_
      rintro e w1 ⟨hb, he⟩
      rw [HR.out] at he
      obtain ⟨s, R, rfl, hM⟩ := he
      have HM := Lib.hid hM
      clear hM
      go_wp2_with fail
      refine (HE.out _ _ _ HM.out).mono ?_
      rintro e w2 ⟨rfl, q, rfl⟩
      go_wp2
      go_ret3
      exact ⟨bdrewN hb q, .inr ⟨HAT.out, rfl⟩⟩
end Go.Proofs.YtkpfocgcnehajabGreatDoor
