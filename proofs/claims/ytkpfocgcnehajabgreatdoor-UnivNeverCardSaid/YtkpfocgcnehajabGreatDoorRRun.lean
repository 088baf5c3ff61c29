/- The reference's First, After and Run. By an AI agent. -/
import Derived.Test.YtkpfocgcnehajabGreatDoorRLoad
namespace Go.Proofs.YtkpfocgcnehajabGreatDoor
open Go.RowKit Pl

/-- a state in memory -/
structure RS (w : World) (s R : Nat) (st : St) : Prop where
  place : w.cell? ⟨s, 0, none⟩ = some (.int .i64 (st.at_ : Int))
  regsv : ∃ rc, w.cell? ⟨s, 1, none⟩ = some (.slice (some ⟨R, 0, none⟩) 32 rc)
  regs : ∀ r, r < 32 → ∃ x, w.cell? ⟨R, r, none⟩ = some x ∧ NodeW 72 w (st.regs[r]?.getD .nil) x
  tagS : TagB w s 131
  tagR : TagB w R 33
  freeS : ∀ o, w.frozen? ⟨s, o, none⟩ = false
  freeR : ∀ o, w.frozen? ⟨R, o, none⟩ = false
theorem RM.of {w : World} {n0 m C s R : Nat} {v : Value} {ps : List Ins} {st : St} (h : RL w m C v ps) (k : RS w s R st) (hv : ∀ k, 0 < ps.length → v.ownBlock = some k → k < n0) (h1 : n0 ≤ s) (h2 : n0 ≤ R) (h3 : n0 ≤ w.heap.size) (h4 : C ≠ R) : RM w n0 m C s R ps st :=
  ⟨⟨v, h.c0, h.A, hv⟩, h.c1, h.trees, k.place, k.regsv, k.regs, h.tagm, h.tagC, k.tagS, k.tagR, k.freeS, k.freeR, h1, h2, h3, h4⟩
def RFirstOut (w : World) (st : St) (e : Ending) (w' : World) : Prop := ∃ s R, e = .returned (.pointer (some ⟨s, 0, none⟩)) ∧ RS w' s R st ∧ w.heap.size ≤ s ∧ w.heap.size ≤ R ∧ Below w.heap.size w w'
theorem made_at (z : Value) (n j : Nat) (hj : j < n) : (madeCells #[z] n).toList[j]? = some z := by
  rw [toList_madeCells_one, List.getElem?_replicate, if_pos hj]
set_option maxHeartbeats 1600000 in
set_option maxRecDepth 100000 in
theorem rFirst3_any (w : World) (t : Tr) (v : Value) (h : NodeW 72 w t v) :
    Calls Tryz.prog 80 #[v] w (RFirstOut w (first t)) := by
  obtain ⟨i0, hi, hz0, hz1, hz2⟩ := info_parts Tryz.infoRNode
  have HN := Lib.hid h
  obtain ⟨V, rfl⟩ := h.one
  clear h
  go_enter Tryz.func80, Tryz.ntmps80
  go_wp2_with (at_make; refine wpList_make_full _ rfl _ _ 93 rfl w.heap.size 33 i0 (.pointer none) 1 Tryz.underlying93 hi hz0 hz1 .i64 .i64 _ _ 32 rfl rfl rfl rfl (by rw [hz2]; omega) (by unfold maxLen; omega) (Nat.le_refl _) ?_)
  intro w1 hown hgrow
  have hb1 : Below w.heap.size w w1 := (Below.refl _ _).grown hgrow (Nat.le_refl _) (by simp)
  have hsz1 := hb1.size
  have HO := Lib.hid hown
  have hlt : w.heap.size < w1.heap.size := (own_tag hown rfl).lt
  clear hown hgrow hi hz0 hz1 hz2
  have c0 : w1.cell? ⟨w.heap.size, 0, none⟩ = some (.pointer none) := by rw [HO.out.cellAt 0 (by omega)]; exact made_at _ _ _ (by omega)
  have f0 := HO.out.frozenAt 0
  have HN1 := Lib.hid (NodeW.below HN.out hb1)
  have HB1 := Lib.hid hb1
  clear hb1
  go_wp2
  go_ret
  have hKN : KeepT 72 w1 (w1.setCell ⟨w.heap.size, 0, none⟩ (.pointer V)) := KeepT.setCell ((own_tag HO.out (k := w.heap.size) rfl).ne (by decide)) _
  have hN2 := NodeW.keep HN1.out (hKN.trans (KeepT.alloc _ _ (.cells #[.int .i64 0, .slice (some ⟨w.heap.size, 0, none⟩) 32 32] 131)))
  have hO2 := ((HO.out.stored 0 (.pointer V)).1.alloc (.cells #[.int .i64 0, .slice (some ⟨w.heap.size, 0, none⟩) 32 32] 131))
  have hs2 : (w1.setCell ⟨w.heap.size, 0, none⟩ (.pointer V)).heap.size = w1.heap.size := by simp [World.setCell]
  have hS : ((w1.setCell ⟨w.heap.size, 0, none⟩ (.pointer V)).alloc (.cells #[.int .i64 0, .slice (some ⟨w.heap.size, 0, none⟩) 32 32] 131)).heap[w1.heap.size]? = some (.cells #[.int .i64 0, .slice (some ⟨w.heap.size, 0, none⟩) 32 32] 131 (0, 0)) := by
    have := heap_alloc_new (w1.setCell ⟨w.heap.size, 0, none⟩ (.pointer V)) (.cells #[.int .i64 0, .slice (some ⟨w.heap.size, 0, none⟩) 32 32] 131)
    rwa [hs2] at this
  have hB : Below w.heap.size w ((w1.setCell ⟨w.heap.size, 0, none⟩ (.pointer V)).alloc (.cells #[.int .i64 0, .slice (some ⟨w.heap.size, 0, none⟩) 32 32] 131)) := (HB1.out.setCell (p := ⟨w.heap.size, 0, none⟩) (Nat.le_refl _) _).alloc (by omega) _
  generalize (w1.setCell ⟨w.heap.size, 0, none⟩ (.pointer V)).alloc (.cells #[.int .i64 0, .slice (some ⟨w.heap.size, 0, none⟩) 32 32] 131) = w2 at *
  generalize w1.heap.size = s at *
  refine ⟨s, w.heap.size, rfl, ⟨Lib.cell_of_heap hS 0, ⟨32, Lib.cell_of_heap hS 1⟩, fun r hr => ?_, ⟨_, (), hS⟩, own_tag hO2 rfl, fun o => Lib.frozen_of_heap hS o, fun o => hO2.frozenAt o⟩, by omega, Nat.le_refl _, hB⟩
  cases r with
  | zero => exact ⟨.pointer V, by rw [hO2.cellAt 0 (by omega)]; exact List.getElem?_set_self (by rw [toList_madeCells_one]; simp), hN2⟩
  | succ r =>
    refine ⟨.pointer none, by rw [hO2.cellAt _ (by omega), List.getElem?_set_ne (by omega)]; exact made_at _ _ _ hr, ?_⟩
    show NodeW _ _ ((List.replicate 31 Tr.nil)[r]?.getD .nil) _
    rw [List.getElem?_replicate, if_pos (by omega)]; rfl
/-- what the reference's After returns -/
def RAftOut (w : World) (n0 m C : Nat) (ps : List Ins) (t : Tr) (K : Nat) (e : Ending) (w' : World) : Prop :=
  Below w.heap.size w w' ∧ match runTo ps K (first t) with
    | some (st, n) => ∃ s R, e = .returned (.tuple #[.pointer (some ⟨s, 0, none⟩), .int .i64 (n : Int), .bool true]) ∧ RM w' n0 m C s R ps st
    | none => ∃ v k, e = .returned (.tuple #[v, .int .i64 k, .bool false])
theorem rended_is {w : World} {n0 m C s R : Nat} {ps : List Ins} {st : St} (hm : RM w n0 m C s R ps st) (hv : PValid ps) (hs : st.ok ps.length) :
    Calls Tryz.prog 81 #[.pointer (some ⟨m, 0, none⟩), .pointer (some ⟨s, 0, none⟩)] w fun e w' => e = .returned (.bool (st.at_ == ps.length)) ∧ ∃ q, w' = w.drewN q := by
  obtain ⟨v, m0, hA, _⟩ := hm.prog
  obtain ⟨A, cap, rfl⟩ : ∃ A cap, v = .slice A ps.length cap := by
    rcases hA with ⟨rfl, h⟩ | ⟨_, b, off, cap, rfl, _⟩
    · obtain ⟨A, cap, rfl⟩ := empty_arg h
      exact ⟨A, cap, rfl⟩
    · exact ⟨_, _, rfl⟩
  exact rended_any w m s ps.length cap st.at_ A hv.1 hs.1 m0 hm.place
theorem rstep_yes {w : World} {n0 m C s R : Nat} {ps : List Ins} {st st' : St} (hm : RM w n0 m C s R ps st) (hv : PValid ps) (hs : st.ok ps.length) (hne : st.at_ ≠ ps.length) (h : stepP ps st = some st') :
    Calls Tryz.prog 82 #[.pointer (some ⟨m, 0, none⟩), .pointer (some ⟨s, 0, none⟩)] w fun e w' => e = .returned (.bool true) ∧ RM w' n0 m C s R ps st' ∧ But2 s R w w' :=
  (rstep_any w n0 m C s R ps st hm hv hs (by have := hs.1; omega)).mono fun e w' ⟨h1, h2⟩ => by rw [h] at h2; exact ⟨h2.1, h2.2, h1⟩
theorem rstep_no {w : World} {n0 m C s R : Nat} {ps : List Ins} {st : St} (hm : RM w n0 m C s R ps st) (hv : PValid ps) (hs : st.ok ps.length) (hne : st.at_ ≠ ps.length) (h : stepP ps st = none) :
    Calls Tryz.prog 82 #[.pointer (some ⟨m, 0, none⟩), .pointer (some ⟨s, 0, none⟩)] w fun e w' => e = .returned (.bool false) ∧ RM w' n0 m C s R ps st ∧ But2 s R w w' :=
  (rstep_any w n0 m C s R ps st hm hv hs (by have := hs.1; omega)).mono fun e w' ⟨h1, h2⟩ => by rw [h] at h2; exact ⟨h2.1, h2.2, h1⟩

set_option maxHeartbeats 3200000 in
set_option maxRecDepth 100000 in
theorem rAfter_any (w : World) (m C K : Nat) (v x : Value) (ps : List Ins) (t : Tr) (hL : RL w m C v ps) (hC : C < w.heap.size) (ho : ∀ k, 0 < ps.length → v.ownBlock = some k → k < w.heap.size) (hv : PValid ps) (hn : NodeW 72 w t x) (ht : (tx t).length ≤ 2000000) (hk : K ≤ 10000000) :
    Calls Tryz.prog 89 #[.pointer (some ⟨m, 0, none⟩), x, .int .i64 (K : Int)] w (RAftOut w w.heap.size m C ps t K) := by
  have HF := Lib.hid (rFirst3_any w t x hn)
  have hf : (first t).ok ps.length := first_ok _ ht
  have HFO := Lib.hid hf; have HV := Lib.hid hv; have HL := Lib.hid hL; have HO := Lib.hid ho
  clear hn ht hf hv hL ho
  go_enter Tryz.func89, Tryz.ntmps89
  go_wp2_with fail
  refine HF.out.mono ?_
  rintro e w1 ⟨s, R, rfl, hS, hs1, hR1, hb1⟩
  have hM1 : RM w1 w.heap.size m C s R ps (first t) := RM.of (HL.out.below hb1) hS HO.out hs1 hR1 hb1.size (by omega)
  have HM1 := Lib.hid hM1; have HB1 := Lib.hid hb1
  clear hS hM1 hb1 HF
  go_wp2
  go_loopw [10] (fun i wr => ∃ (k : Nat) (st : St), k ≤ K ∧ i = .int .i64 (k : Int) ∧ Hid (Steps ps (first t) k st) ∧ Hid (RM wr w.heap.size m C s R ps st) ∧ Hid (Below w.heap.size w wr)) (fun i _ => K - (intOf i).toNat)
  case atStart => exact ⟨0, first t, Nat.zero_le _, rfl, Lib.hid .zero, HM1, HB1⟩
  case round =>
    clear HM1 HB1
    obtain ⟨k, st, hkK, rfl, HST, HM, HB⟩ := hrel
    by_cases hlt : k < K
    · have hk1 : (k : Int) < (K : Int) := by omega
      have HE := Lib.hid (rended_is HM.out HV.out (HST.out.ok HV.out HFO.out))
      cases hed : (st.at_ == ps.length) with
      | true =>
        rw [hed] at HE
        have HEN : Hid (st.at_ = ps.length) := Lib.hid (by simpa using hed)
        clear hed
        go_wp2_with fail
        refine HE.out.mono ?_
        rintro e w2 ⟨rfl, q, rfl⟩
        have HM2 := Lib.hid (HM.out.below (bdrewN (Below.refl _ _) q))
        go_wp2
        go_ret3
        refine ⟨bdrewN HB.out q, ?_⟩
        rw [runTo_is HST.out hkK (.inr HEN.out)]
        exact ⟨s, R, rfl, HM2.out⟩
      | false =>
        rw [hed] at HE
        have HEN : Hid (st.at_ ≠ ps.length) := Lib.hid (by simpa using hed)
        clear hed
        go_wp2_with fail
        refine HE.out.mono ?_
        rintro e w2 ⟨rfl, q, rfl⟩
        have HM2 := Lib.hid (HM.out.below (bdrewN (Below.refl _ _) q))
        have HB2 := Lib.hid (bdrewN HB.out q)
        clear HE
        cases hs : stepP ps st with
        | some st' =>
          have HS := Lib.hid (rstep_yes HM2.out HV.out (HST.out.ok HV.out HFO.out) HEN.out hs)
          have HST' := Lib.hid (Steps.succ HST.out HEN.out hs)
          clear hs
          go_wp2_with fail
          refine HS.out.mono ?_
          rintro e w3 ⟨rfl, hm3, hb3⟩
          have HM3 := Lib.hid hm3
          have HB3 := Lib.hid (HB2.out.trans (hb3.below hs1 hR1 HB2.out.size))
          clear hm3 hb3
          go_wp2
          go_roundw
          case rel => exact ⟨k + 1, st', by omega, by go_num, HST', HM3, HB3⟩
          case measure => simp [intOf]; omega
        | none =>
          have HS := Lib.hid (rstep_no HM2.out HV.out (HST.out.ok HV.out HFO.out) HEN.out hs)
          have HN := Lib.hid hs
          clear hs
          go_wp2_with fail
          refine HS.out.mono ?_
          rintro e w3 ⟨rfl, hm3, hb3⟩
          have HB3 := Lib.hid (HB2.out.trans (hb3.below hs1 hR1 HB2.out.size))
          clear hm3 hb3
          go_wp2
          go_ret3
          refine ⟨HB3.out, ?_⟩
          rw [runTo_large HST.out hlt HEN.out HN.out]
          exact ⟨_, _, rfl⟩
    · obtain rfl : k = K := by omega
      go_wp2
      go_ret3
      refine ⟨HB.out, ?_⟩
      rw [runTo_is HST.out hkK (.inl rfl)]
      exact ⟨s, R, rfl, HM.out⟩
/-- what the reference's Run returns -/
def RRunOut (w : World) (ps : List Ins) (t : Tr) (K : Nat) (e : Ending) (w' : World) : Prop :=
  Below w.heap.size w w' ∧ match runTo ps K (first t) with
    | some (st, n) => (st.at_ = ps.length ∧ ∃ x, e = .returned (.tuple #[x, .int .i64 (n : Int), .int .i64 0]) ∧ NodeW 72 w' (st.reg 0) x) ∨ (st.at_ ≠ ps.length ∧ e = .returned (.tuple #[.pointer none, .int .i64 0, .int .i64 7]))
    | none => e = .returned (.tuple #[.pointer none, .int .i64 0, .int .i64 3])
set_option maxHeartbeats 1600000 in
set_option maxRecDepth 100000 in
theorem rRun_any (w : World) (m C K : Nat) (v x : Value) (ps : List Ins) (t : Tr) (hL : RL w m C v ps) (hC : C < w.heap.size) (ho : ∀ k, 0 < ps.length → v.ownBlock = some k → k < w.heap.size) (hv : PValid ps) (hn : NodeW 72 w t x) (ht : (tx t).length ≤ 2000000) (hk : K ≤ 10000000) :
    Calls Tryz.prog 43 #[.pointer (some ⟨m, 0, none⟩), x, .int .i64 (K : Int)] w (RRunOut w ps t K) := by
  have HA := Lib.hid (rAfter_any w m C K v x ps t hL hC ho hv hn ht hk)
  have hf : (first t).ok ps.length := first_ok _ ht
  unfold RRunOut
  cases hr : runTo ps K (first t) with
  | none =>
    have HR := Lib.hid hr
    clear hL hC ho hv hn ht hk hr hf
    go_enter Tryz.func43, Tryz.ntmps43
    go_wp2_with fail
    refine HA.out.mono ?_
    rintro e w1 ⟨hb, he⟩
    rw [HR.out] at he
    obtain ⟨v1, k1, rfl⟩ := he
    go_wp2
    go_ret3
    exact ⟨hb, rfl⟩
  | some r =>
    obtain ⟨st, n⟩ := r
    obtain ⟨hst, hnk, _⟩ := runTo_some hr
    have hok := hst.ok hv hf
    by_cases hat : st.at_ = ps.length
    · have hb1 : (st.at_ == ps.length) = true := by simp [hat]
      have HE := Lib.hid (fun W s R (hm : RM W w.heap.size m C s R ps st) => rended_is hm hv hok)
      rw [hb1] at HE
      have HAT := Lib.hid hat
      have HR := Lib.hid hr
      clear hr hst hat hb1 hv hL ho hn ht
      go_enter Tryz.func43, Tryz.ntmps43
      go_wp2_with fail
      refine HA.out.mono ?_
      rintro e w1 ⟨hb, he⟩
      rw [HR.out] at he
      obtain ⟨s, R, rfl, hM⟩ := he
      have HM := Lib.hid hM
      clear hM
      go_wp2_with fail
      refine (HE.out _ _ _ HM.out).mono ?_
      rintro e w2 ⟨rfl, q, rfl⟩
      obtain ⟨x0, hx0, hN0⟩ := HM.out.regs 0 (by omega)
      obtain ⟨rc, hrc⟩ := HM.out.regsv
      obtain ⟨X0, rfl⟩ := hN0.one
      have c3 : (w1.drewN q).cell? ⟨R, 0, none⟩ = some (.pointer X0) := hx0
      have c4 : (w1.drewN q).cell? ⟨s, 1, none⟩ = some (.slice (some ⟨R, 0, none⟩) 32 rc) := hrc
      have HN0 := Lib.hid hN0
      clear hx0 hN0 hrc
      go_wp2
      go_ret3
      exact ⟨bdrewN hb q, .inl ⟨HAT.out, _, rfl, NodeW.keep HN0.out (KeepT.drewN _ _ _)⟩⟩
    · have hb1 : (st.at_ == ps.length) = false := by simp [hat]
      have HE := Lib.hid (fun W s R (hm : RM W w.heap.size m C s R ps st) => rended_is hm hv hok)
      rw [hb1] at HE
      have HAT := Lib.hid hat
      have HR := Lib.hid hr
      clear hr hst hat hb1 hv hL ho hn ht
      go_enter Tryz.func43, Tryz.ntmps43
      go_wp2_with fail
      refine HA.out.mono ?_
      rintro e w1 ⟨hb, he⟩
      rw [HR.out] at he
      obtain ⟨s, R, rfl, hM⟩ := he
      have HM := Lib.hid hM
      clear hM
      go_wp2_with fail
      refine (HE.out _ _ _ HM.out).mono ?_
      rintro e w2 ⟨rfl, q, rfl⟩
      go_wp2
      go_ret3
      exact ⟨bdrewN hb q, .inr ⟨HAT.out, rfl⟩⟩
end Go.Proofs.YtkpfocgcnehajabGreatDoor
