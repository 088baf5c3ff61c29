/- Package run: states of a machine, and advance. By an AI agent. -/
import Derived.Test.YtpiahjbpidcjpaaRange
import Derived.Test.YtpiahjbpidcjpaaSteps
namespace Go.Proofs.Ytpiahjbpidcjpaa
open Go.RowKit Pl

attribute [local go_sem] Oper.semAt_some

/-- a machine after k steps -/
def RunI (M C n0 K : Nat) (ps : List Ins) (s0 : St) (Zb : World → Prop) (k : Nat) (W : World) : Prop := ∃ s, Steps ps s0 k s ∧ k ≤ K ∧ Mach W n0 M C ps s ∧ Zb W
/-- .. that goes on -/
def RunI' (M C n0 K : Nat) (ps : List Ins) (s0 : St) (Zb : World → Prop) (k : Nat) (W : World) : Prop := ∃ s, Steps ps s0 k s ∧ k < K ∧ s.at_ ≠ ps.length ∧ Mach W n0 M C ps s ∧ Zb W
/-- .. whose next step is too large -/
def RunD (K : Nat) (ps : List Ins) (s0 : St) (Zb : World → Prop) (W : World) : Prop := ∃ k s, Steps ps s0 k s ∧ k < K ∧ s.at_ ≠ ps.length ∧ stepP ps s = none ∧ Zb W

theorem ended_is {w : World} {n0 M C : Nat} {ps : List Ins} {s : St} (hm : Mach w n0 M C ps s) (hv : PValid ps) (hs : s.ok ps.length) :
    Calls Try.prog 84 #[.pointer (some ⟨M, 0, none⟩)] w fun e w' => e = .returned (.bool (s.at_ == ps.length)) ∧ ∃ q, w' = w.drewN q := by
  obtain ⟨v, m0, hA, _⟩ := hm.prog
  obtain ⟨A, cap, rfl⟩ : ∃ A cap, v = .slice A ps.length cap := by
    rcases hA with ⟨rfl, h⟩ | ⟨_, b, off, cap, rfl, _⟩
    · obtain ⟨A, cap, rfl⟩ := empty_arg h
      exact ⟨A, cap, rfl⟩
    · exact ⟨_, _, rfl⟩
  exact ended_any w M ps.length cap s.at_ A hv.1 hs.1 m0 hm.place
theorem ended_not {w : World} {n0 M C : Nat} {ps : List Ins} {s : St} (hm : Mach w n0 M C ps s) (hv : PValid ps) (hs : s.ok ps.length) (hne : s.at_ ≠ ps.length) :
    Calls Try.prog 84 #[.pointer (some ⟨M, 0, none⟩)] w fun e w' => e = .returned (.bool false) ∧ ∃ q, w' = w.drewN q := by
  have := ended_is hm hv hs
  rwa [show (s.at_ == ps.length) = false from by simp [hne]] at this
theorem step_yes {w : World} {n0 M C : Nat} {ps : List Ins} {s s' : St} (hm : Mach w n0 M C ps s) (hv : PValid ps) (hs : s.ok ps.length) (hne : s.at_ ≠ ps.length) (h : stepP ps s = some s') :
    Calls Try.prog 72 #[.pointer (some ⟨M, 0, none⟩)] w fun e w' => e = .returned (.bool true) ∧ Mach w' n0 M C ps s' ∧ But M w w' :=
  (step_any w n0 M C ps s hm hv hs (by have := hs.1; omega)).mono fun e w' ⟨h1, h2⟩ => by rw [h] at h2; exact ⟨h2.1, h2.2, h1⟩
theorem step_no {w : World} {n0 M C : Nat} {ps : List Ins} {s : St} (hm : Mach w n0 M C ps s) (hv : PValid ps) (hs : s.ok ps.length) (hne : s.at_ ≠ ps.length) (h : stepP ps s = none) :
    Calls Try.prog 72 #[.pointer (some ⟨M, 0, none⟩)] w fun e w' => e = .returned (.bool false) ∧ Mach w' n0 M C ps s ∧ But M w w' :=
  (step_any w n0 M C ps s hm hv hs (by have := hs.1; omega)).mono fun e w' ⟨h1, h2⟩ => by rw [h] at h2; exact ⟨h2.1, h2.2, h1⟩

set_option maxRecDepth 100000 in
set_option maxHeartbeats 2000000 in
theorem states_in (n l M C n0 K : Nat) (ps : List Ins) (s0 : St) (hv : PValid ps) (hs0 : s0.ok ps.length) (hK : K ≤ 10000000) (Zb Z Jx : World → Prop)
    (hZb : ∀ W W', But M W W' → Zb W → Zb W') (hZ : ∀ W W', But M W W' → TagB W M 106 → Z W → Z W')
    (hY : ∀ k W, RunI M C n0 K ps s0 Zb k W → Z W → YieldAt Fence.wide (n - 1) Try.prog l #[.int .i64 (k : Int)] W fun e W' => (e = .returned (.bool true) ∧ RunI' M C n0 K ps s0 Zb k W' ∧ Z W') ∨ (e = .returned (.bool false) ∧ Jx W'))
    (W : World) (h0 : RunI M C n0 K ps s0 Zb 0 W) (hz : Z W) :
    CallsIn Fence.wide n Try.prog 122 #[.pointer (some ⟨M, 0, none⟩), .func (.yield l) #[] #[]] W fun e W' => (∃ v, e = .returned v) ∧ ((RunD K ps s0 Zb W' ∧ Z W') ∨ Jx W') := by
  have HY := Lib.hid hY; have HZ := Lib.hid hZ; have HZB := Lib.hid hZb; have H0 := Lib.hid h0; have HZ0 := Lib.hid hz
  have HV := Lib.hid hv; have HS0 := Lib.hid hs0
  clear hY hZ hZb h0 hz hv hs0
  refine callsIn_of_wp Try.func122 rfl trivial ?_ rfl
  simp only [Try.ntmps122, List.size_toArray, List.length_cons, List.length_nil, Nat.reduceAdd, Nat.reduceSub, Array.replicate_succ, Array.replicate_zero, List.push_toArray, List.append_toArray, List.nil_append, List.cons_append]
  gi_wp2
  gi_loopw [4] (fun i wr => ∃ k : Nat, k ≤ K ∧ i = .int .i64 (k : Int) ∧ Hid (RunI M C n0 K ps s0 Zb k wr) ∧ Hid (Z wr)) (fun i _ => K + 1 - (intOf i).toNat)
  case atStart => exact ⟨0, Nat.zero_le _, rfl, H0, HZ0⟩
  case round =>
    obtain ⟨k, hk, rfl, HI, HZw⟩ := hrel
    obtain ⟨fn, tmps, assign, body, hy, hR⟩ := HY.out k wr HI.out HZw.out
    gi_wp2
    refine ⟨fun h => by simp [Fence.wide] at h, hR.mono ?_⟩
    clear hy hR HI HZw
    rintro e W3 (⟨rfl, ⟨s, hst, hkK, hne, hM, hZb⟩, hZ3⟩ | ⟨rfl, hJ⟩)
    · have HE := Lib.hid (ended_not hM HV.out (hst.ok HV.out HS0.out) hne)
      have HM := Lib.hid hM; have HST := Lib.hid hst; have HNE := Lib.hid hne; have HB3 := Lib.hid hZb; have HZ3 := Lib.hid hZ3
      clear hM hst hne hZb hZ3
      gi_wp2_with fail
      refine ⟨trivial, fun h => by simp [Fence.wide] at h, (callsIn_wide.2 HE.out).mono ?_⟩
      rintro e W4 ⟨rfl, q, rfl⟩
      have hbd : Below W3.heap.size W3 (W3.drewN q) := bdrewN (Below.refl _ _) q
      have HM4 := Lib.hid (HM.out.below hbd)
      have HB4 := Lib.hid (HZB.out _ _ (But.of_below hbd) HB3.out)
      have HZ4 := Lib.hid (HZ.out _ _ (But.of_below hbd) HM.out.tagM HZ3.out)
      clear hbd HE
      cases hs : stepP ps s with
      | some s' =>
        have HS := Lib.hid (step_yes HM4.out HV.out (HST.out.ok HV.out HS0.out) HNE.out hs)
        have HST' := Lib.hid (Steps.succ HST.out HNE.out hs)
        clear hs
        gi_wp2_with fail
        refine ⟨trivial, fun h => by simp [Fence.wide] at h, (callsIn_wide.2 HS.out).mono ?_⟩
        rintro e W5 ⟨rfl, hM5, hb5⟩
        have HI5 : Hid (RunI M C n0 K ps s0 Zb (k + 1) W5) := Lib.hid ⟨s', HST'.out, by omega, hM5, HZB.out _ _ hb5 HB4.out⟩
        have HZ5 := Lib.hid (HZ.out _ _ hb5 HM4.out.tagM HZ4.out)
        clear hM5 hb5
        gi_wp2
        go_roundw
        case rel => exact ⟨k + 1, by omega, by go_num, HI5, HZ5⟩
        case measure => simp [intOf]; omega
      | none =>
        have HS := Lib.hid (step_no HM4.out HV.out (HST.out.ok HV.out HS0.out) HNE.out hs)
        have HN := Lib.hid hs
        clear hs
        gi_wp2_with fail
        refine ⟨trivial, fun h => by simp [Fence.wide] at h, (callsIn_wide.2 HS.out).mono ?_⟩
        rintro e W5 ⟨rfl, hM5, hb5⟩
        have HD : Hid (RunD K ps s0 Zb W5 ∧ Z W5) := Lib.hid ⟨⟨k, s, HST.out, hkK, HNE.out, HN.out, HZB.out _ _ hb5 HB4.out⟩, HZ.out _ _ hb5 HM4.out.tagM HZ4.out⟩
        clear hM5 hb5
        gi_wp2
        go_end0
        exact ⟨⟨_, rfl⟩, .inl HD.out⟩
    · have HJ := Lib.hid hJ
      clear hJ
      gi_wp2_with fail
      refine ⟨trivial, ?_⟩
      gi_wp2_with fail
      refine ⟨trivial, ?_⟩
      gi_wp2
      go_end0
      exact ⟨⟨_, rfl⟩, .inr HJ.out⟩
end Go.Proofs.Ytpiahjbpidcjpaa
