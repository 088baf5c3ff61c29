/- Whether a program's registers grow, as the law of Fix asks. By an AI agent. -/
import Derived.Test.YtmhoacnbmbhcjaaGreatDoorUPk
import Derived.Test.YtmhoacnbmbhcjaaGreatDoorKnowP
namespace Go.Proofs.YtmhoacnbmbhcjaaGreatDoor
open Go.RowKit Pl

theorem steps_stop {ps : List Ins} {s0 s : St} {n : Nat} (h : Steps ps s0 n s) (he : s.at_ = ps.length) : ∀ {j : Nat} {t : St}, Steps ps s0 j t → j ≤ n := by
  intro j t ht
  induction ht with
  | zero => exact Nat.zero_le _
  | succ hs hne hst ih =>
    rename_i k u v
    rcases Nat.lt_or_ge k n with h1 | h1
    · exact h1
    · have hk : k = n := Nat.le_antisymm ih h1
      subst hk
      have := Steps.det hs h
      subst this
      exact absurd he hne
/-- the states of the first 60 steps are small, and no step is too large -/
def GrowOk (q : List Ins) (t : Tr) : Prop := (∀ j s, 1 ≤ j → j ≤ 60 → Steps q (first t) j s → totT s.regs ≤ 200000) ∧ out q 60 (first t) ≠ .size
theorem grow_end {q : List Ins} {t : Tr} {k : Nat} {st : St} (hk : k ≤ 60) (h : Steps q (first t) k st) (he : st.at_ = q.length) (hT : ∀ j s, 1 ≤ j → j ≤ k → Steps q (first t) j s → totT s.regs ≤ 200000) : GrowOk q t :=
  ⟨fun j s h1 _ hs => hT j s h1 (steps_stop h he hs) hs, by rw [out_end h hk he]; intro h; cases h⟩
theorem grow_all {q : List Ins} {t : Tr} {st : St} (h : Steps q (first t) 60 st) (hT : ∀ j s, 1 ≤ j → j ≤ 60 → Steps q (first t) j s → totT s.regs ≤ 200000) : GrowOk q t := by
  refine ⟨hT, ?_⟩
  unfold out
  rw [runTo_is h (Nat.le_refl _) (.inl rfl)]
  simp only
  split <;> (intro h; cases h)
/-- what grows returns -/
def GrowPost (w : World) (q : List Ins) (t : Tr) (e : Ending) (w' : World) : Prop := Below w.heap.size w w' ∧ ∃ r : Bool, e = .returned (.bool r) ∧ (r = false → GrowOk q t)
set_option maxHeartbeats 6400000 in
set_option maxRecDepth 100000 in
theorem grows_any (w : World) (v x : Value) (ps : List Ins) (t : Tr) (hA : ArgP w v ps) (hv : PValid ps) (hn : NodeW 42 w t x) (ht : (tx t).length ≤ 2000000) :
    Calls Tryz.prog 39 #[v, x, .int .i64 60] w (GrowPost w ps t) := by
  have HLD := Lib.hid (Load_new w v ps hA hv)
  have HF := Lib.hid (fun W (h : NodeW 42 W t x) => rFirst3_any W t x h)
  have hf : (first t).ok ps.length := first_ok _ ht
  have HFO := Lib.hid hf; have HV := Lib.hid hv; have HN := Lib.hid hn
  have HAL := Lib.hid (fun W (h : Below w.heap.size w W) => argp_lt7 (hA.below h))
  obtain ⟨X, rfl⟩ := hn.one
  obtain ⟨pa, pc, rfl⟩ := hA.form
  clear hn ht hf hv hA
  go_enter Tryz.func39, Tryz.ntmps39
  go_wp2_with fail
  refine HLD.out.mono ?_
  rintro e w0 ⟨m, C, rfl, hL, hb0, hC⟩
  have HB0 := Lib.hid hb0; have HL := Lib.hid hL; have HO := Lib.hid (HAL.out _ hb0)
  have HN0 := Lib.hid (NodeW.below HN.out hb0)
  clear hL hb0 hC
  go_wp2_with fail
  refine (HF.out _ HN0.out).mono ?_
  rintro e w1 ⟨s, R, rfl, hS, hs1, hR1, hb1⟩
  have hM1 : RM w1 w0.heap.size m C s R ps (first t) := RM.of (HL.out.below hb1) hS HO.out hs1 hR1 hb1.size (by have := TagB.lt HL.out.tagC; omega)
  have HM1 := Lib.hid hM1; have HB1 := Lib.hid hb1
  have HSR : Hid (w0.heap.size ≤ s ∧ w0.heap.size ≤ R) := Lib.hid ⟨hs1, hR1⟩
  clear hS hM1 hb1 HF hs1 hR1
  go_wp2
  go_loopw [9] (fun i wr => ∃ (k : Nat) (st : St), k ≤ 60 ∧ i = .int .i64 (k : Int) ∧ Hid (∀ j s, 1 ≤ j → j ≤ k → Steps ps (first t) j s → totT s.regs ≤ 200000) ∧ Hid (Steps ps (first t) k st) ∧ Hid (RM wr w0.heap.size m C s R ps st) ∧ Hid (Below w0.heap.size w0 wr)) (fun i _ => 60 - (intOf i).toNat)
  case atStart => exact ⟨0, first t, Nat.zero_le _, rfl, Lib.hid (fun j s h h2 => by omega), Lib.hid .zero, HM1, HB1⟩
  case round =>
    clear HM1 HB1
    obtain ⟨k, st, hkK, rfl, HT, HST, HM, HB⟩ := hrel
    have HOK := Lib.hid (HST.out.ok HV.out HFO.out)
    by_cases hlt : k < 60
    case neg =>
      obtain rfl : k = 60 := by omega
      go_wp2_with fail
      go_ret
      exact ⟨bstep HB0.out HB.out, false, rfl, fun _ => grow_all HST.out HT.out⟩
    have hk1 : (k : Int) < 60 := by omega
    have HE := Lib.hid (rended_is HM.out HV.out HOK.out)
    cases hed : (st.at_ == ps.length) with
    | true =>
      rw [hed] at HE
      have HEN : Hid (st.at_ = ps.length) := Lib.hid (by simpa using hed)
      clear hed
      go_wp2_with fail
      refine HE.out.mono ?_
      rintro e w2 ⟨rfl, q2, rfl⟩
      go_wp2_with fail
      go_ret
      exact ⟨bstep HB0.out (bdrewN HB.out q2), false, rfl, fun _ => grow_end (by omega) HST.out HEN.out HT.out⟩
    | false =>
      rw [hed] at HE
      have HEN : Hid (st.at_ ≠ ps.length) := Lib.hid (by simpa using hed)
      clear hed
      go_wp2_with fail
      refine HE.out.mono ?_
      rintro e w2 ⟨rfl, q2, rfl⟩
      have HM3 := Lib.hid (HM.out.below (bdrewN (Below.refl _ _) q2))
      have HB3 := Lib.hid (bdrewN HB.out q2)
      clear HE HM HB
      cases hs : stepP ps st with
      | none =>
        have HS := Lib.hid (rstep_no HM3.out HV.out HOK.out HEN.out hs)
        clear hs
        go_wp2_with fail
        refine HS.out.mono ?_
        rintro e w3 ⟨rfl, hm3, hb3⟩
        have HB4 := Lib.hid (HB3.out.trans (hb3.below HSR.out.1 HSR.out.2 HB3.out.size))
        clear hm3 hb3 HS
        go_wp2_with fail
        go_ret
        exact ⟨bstep HB0.out HB4.out, true, rfl, fun h => by cases h⟩
      | some st' =>
        have HS := Lib.hid (rstep_yes HM3.out HV.out HOK.out HEN.out hs)
        have HST' := Lib.hid (Steps.succ HST.out HEN.out hs)
        clear hs
        go_wp2_with fail
        refine HS.out.mono ?_
        rintro e w3 ⟨rfl, hm3, hb3⟩
        have HM4 := Lib.hid hm3
        have HB4 := Lib.hid (HB3.out.trans (hb3.below HSR.out.1 HSR.out.2 HB3.out.size))
        clear hm3 hb3 HS HM3 HB3
        have HOK' := Lib.hid (HST'.out.ok HV.out HFO.out)
        have hl32 := HOK'.out.2.1
        obtain ⟨rc, hrc⟩ := HM4.out.regsv
        go_wp2
        go_loopw [10, 11] (fun z i w2 => ∃ r : Nat, r ≤ 32 ∧ i = .int .i64 (r : Int) ∧ (∃ u : Nat, z = .int .i64 (u : Int) ∧ u ≤ 64000000 ∧ Hid (totT (st'.regs.take r) = u)) ∧ ∃ q, w2 = w3.drewN q) (fun _ i _ => 32 - (intOf i).toNat)
        case atStart => exact ⟨0, Nat.zero_le _, rfl, ⟨0, rfl, Nat.zero_le _, Lib.hid (by simp [totT])⟩, 0, rfl⟩
        case round =>
          obtain ⟨r, hr, rfl, ⟨u, rfl, hu, HU⟩, q, rfl⟩ := hrel
          have c4 : (w3.drewN q).cell? ⟨s, 1, none⟩ = some (.slice (some ⟨R, 0, none⟩) 32 rc) := hrc
          by_cases hlt2 : r < 32
          · obtain ⟨x0, hx0, hN0⟩ := HM4.out.regs r hlt2
            obtain ⟨X0, rfl⟩ := hN0.one
            have c3 : (w3.drewN q).cell? ⟨R, r, none⟩ = some (.pointer X0) := hx0
            have HNX := Lib.hid hN0
            have hr1 : (r : Int) < 32 := by omega
            have hstep := totT_step st'.regs r (by omega)
            have hle := totT_take_le st'.regs (r + 1) HOK'.out.2.2 hl32
            rw [HU.out] at hstep
            have HSZ := Lib.hid (rSize_any 42 (w3.drewN q) _ _ (NodeW.keep HNX.out (KeepT.drewN _ _ _)))
            generalize (tx (st'.regs[r]?.getD .nil)).length = L at hstep HSZ
            have HS2 := Lib.hid hstep
            have huL : u + L ≤ 64000000 := by omega
            have hw35 : IntKind.i64.wrap ((u : Int) + (L : Int)) = ((u + L : Nat) : Int) := (IntWalk.i64_in _ (by omega)).trans (by omega)
            clear hx0 hN0 hstep hle
            go_wp2_with fail
            refine HSZ.out.mono ?_
            rintro e w4 ⟨rfl, rfl⟩
            go_wp2_with fail
            go_roundw
            case rel => exact ⟨r + 1, by omega, by go_num, ⟨u + L, by go_num, huL, HS2⟩, _, rfl⟩
            case measure => simp [intOf]; omega
          · obtain rfl : r = 32 := by omega
            have hut : totT st'.regs = u := by rw [← HU.out, List.take_of_length_le (by omega)]
            have hr0 : ¬ ((32 : Nat) : Int) < 32 := by decide
            have HM5 := Lib.hid (HM4.out.below (bdrewN (Below.refl _ _) q))
            have HB5 := Lib.hid (bdrewN HB4.out q)
            by_cases hbig : u ≤ 200000
            · have hb9 : decide ((200000 : Int) < (u : Int)) = false := by rw [decide_eq_false_iff_not]; omega
              have HT2 : Hid (∀ j s, 1 ≤ j → j ≤ k + 1 → Steps ps (first t) j s → totT s.regs ≤ 200000) := Lib.hid (fun j s h1 hj hs => by
                by_cases e : j = k + 1
                · subst e
                  have := Steps.det hs HST'.out
                  subst this
                  omega
                · exact HT.out j s h1 (by omega) hs)
              clear hbig hut
              go_wp2_with fail
              go_roundw
              case rel => exact ⟨k + 1, st', by omega, by go_num, HT2, HST', HM5, HB5⟩
              case measure => simp [intOf]; omega
            · have hb9 : decide ((200000 : Int) < (u : Int)) = true := by rw [decide_eq_true_eq]; omega
              clear hbig hut
              go_wp2_with fail
              go_ret
              exact ⟨bstep HB0.out HB5.out, true, rfl, fun h => by cases h⟩
end Go.Proofs.YtmhoacnbmbhcjaaGreatDoor
