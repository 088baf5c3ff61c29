/- The reference's Loops: its walk. By an AI agent. -/
import Derived.Test.YtkpfocgcnehajabGreatDoorRLps
import Derived.StillTailTactics
import Derived.Deep.RegionLaw
import Derived.Deep.RegionHeld3
import Derived.Deep.AppendLies
namespace Go.Proofs.YtkpfocgcnehajabGreatDoor
open Go.RowKit Pl

theorem RM.ra {w : World} {n0 m C s R : Nat} {ps : List Ins} {st : St} (h : RM w n0 m C s R ps st) : RA w s R st := ⟨h.place, h.regsv, h.regs⟩
theorem RM.row {w : World} {n0 m C s R : Nat} {ps : List Ins} {st : St} (h : RM w n0 m C s R ps st) : ∃ xs : List Value, xs.length = 32 ∧ ∀ r, r < 32 → ∃ x, xs[r]? = some x ∧ w.cell? ⟨R, r, none⟩ = some x ∧ NodeW 72 w (st.regs[r]?.getD .nil) x := by
  refine ⟨(List.range 32).map fun r => (w.cell? ⟨R, r, none⟩).getD (.pointer none), by simp, fun r hr => ?_⟩
  obtain ⟨x, h1, h2⟩ := h.regs r hr
  exact ⟨x, by rw [List.getElem?_map, List.getElem?_range hr]; simp [h1], h1, h2⟩
set_option maxHeartbeats 3200000 in
set_option maxRecDepth 100000 in
theorem rLoops_any (w : World) (m C K : Nat) (v x : Value) (ps : List Ins) (t : Tr) (hL : RL w m C v ps) (hC : C < w.heap.size) (ho : ∀ k, 0 < ps.length → v.ownBlock = some k → k < w.heap.size) (hv : PValid ps) (hn : NodeW 72 w t x) (ht : (tx t).length ≤ 2000000) (hk : K ≤ 10000) :
    Calls Tryz.prog 45 #[.pointer (some ⟨m, 0, none⟩), x, .int .i64 (K : Int)] w fun e w' => ∃ b : Bool, e = .returned (.bool b) ∧ (b = true → Comes ps t K) ∧ Below w.heap.size w w' := by
  obtain ⟨i0, hi, hz0, hz1, hz2⟩ := info_parts Tryz.infoRNode
  have HF := Lib.hid (rFirst3_any w t x hn)
  have hf : (first t).ok ps.length := first_ok _ ht
  have HFO := Lib.hid hf; have HV := Lib.hid hv; have HL := Lib.hid hL; have HO := Lib.hid ho
  clear hn ht hf hv hL ho
  go_enter Tryz.func45, Tryz.ntmps45
  go_wp2_with fail
  refine HF.out.mono ?_
  rintro e w1 ⟨s, R, rfl, hS, hs1, hR1, hb1⟩
  have hM1 : RM w1 w.heap.size m C s R ps (first t) := RM.of (HL.out.below hb1) hS HO.out hs1 hR1 hb1.size (by omega)
  have HM1 := Lib.hid hM1; have HB1 := Lib.hid hb1
  have hsl : s < w1.heap.size := TagB.lt hM1.tagS
  have hRl : R < w1.heap.size := TagB.lt hM1.tagR
  have hal : Below w1.heap.size w1 (w1.alloc (.cells #[.int .i64 (-1), .slice none 0 0] 131)) := (Below.refl _ _).alloc (Nat.le_refl _) _
  have HM2 := Lib.hid (hM1.below hal); have HB2 := Lib.hid (bstep HB1.out hal)
  have HO1 : Hid (Old ps t s R (w1.alloc (.cells #[.int .i64 (-1), .slice none 0 0] 131)) w1.heap.size 0 0) := Lib.hid (.inl ⟨by rw [World.cell?_alloc_new]; rfl, by omega, by omega⟩)
  clear hS hM1 hb1 HF hal HM1 HB1
  go_wp2
  go_loopw [8, 9, 10, 11] (fun ol wt nn kk wr => ∃ (k n wa o : Nat) (st : St), k ≤ K ∧ kk = .int .i64 (k : Int) ∧ nn = .int .i64 (n : Int) ∧ wt = .int .i64 (wa : Int) ∧ ol = .pointer (some ⟨o, 0, none⟩) ∧ n ≤ k ∧ wa ≤ 2 * k + 1 ∧ Hid (Old ps t s R wr o k n) ∧ Hid (Steps ps (first t) k st) ∧ Hid (RM wr w.heap.size m C s R ps st) ∧ Hid (Below w.heap.size w wr)) (fun _ _ _ kk _ => K - (intOf kk).toNat)
  case atStart => exact ⟨0, 0, 1, w1.heap.size, first t, Nat.zero_le _, rfl, rfl, rfl, rfl, Nat.le_refl _, by omega, HO1, Lib.hid .zero, HM2, HB2⟩
  case round =>
    clear HM2 HB2 HO1
    obtain ⟨k, n, wa, o, st, hkK, rfl, rfl, rfl, rfl, hnk, hwa, HOL, HST, HM, HB⟩ := hrel
    by_cases hlt : k < K
    · have hk1 : decide ((k : Int) < (K : Int)) = true := by rw [decide_eq_true_eq]; omega
      have HE := Lib.hid (rended_is HM.out HV.out (HST.out.ok HV.out HFO.out))
      cases hed : (st.at_ == ps.length) with
      | true =>
        rw [hed] at HE
        clear hed
        go_wp2_with fail
        refine HE.out.mono ?_
        rintro e w2 ⟨rfl, q, rfl⟩
        go_wp2_with fail
        go_ret
        exact ⟨false, rfl, fun h => Bool.noConfusion h, bdrewN HB.out q⟩
      | false =>
        rw [hed] at HE
        have HEN : Hid (st.at_ ≠ ps.length) := Lib.hid (by simpa using hed)
        clear hed
        go_wp2_with fail
        refine HE.out.mono ?_
        rintro e w2 ⟨rfl, q, rfl⟩
        have HMx := Lib.hid (HM.out.below (bdrewN (Below.refl _ _) q))
        have HBx := Lib.hid (bdrewN HB.out q)
        have HOx := Lib.hid (HOL.out.below (bdrewN (Below.refl _ _) q))
        clear HE HM HB HOL
        generalize wr.drewN q = W at *
        by_cases hnw : n = wa
        · subst hnw
          have e1 : ((n : Int) == (n : Int)) = true := by simp
          go_wp2_with fail
          have p0 := HMx.out.place
          obtain ⟨rc, p1⟩ := HMx.out.regsv
          obtain ⟨xs, hxl, hxs⟩ := HMx.out.row
          have HXS := Lib.hid hxs; have HXL := Lib.hid hxl
          have hsW : s < W.heap.size := TagB.lt HMx.out.tagS
          have hRW : R < W.heap.size := TagB.lt HMx.out.tagR
          have HOWN := Lib.hid (World.ownsRow_lit (e := 33) (size := 1) (base := W.heap.size) W #[] 0 (Nat.le_refl _) (by unfold maxLen; omega) rfl)
          have HNW : Hid (∀ j u, xs[j]? = some u → (W.drew.alloc (.cells #[] 33)).cell? ((⟨R, 0, none⟩ : Addr).add j) = some u) := Lib.hid (fun j u hj => by
            have hl : j < 32 := by rw [← hxl]; exact (List.getElem?_eq_some_iff.1 hj).1
            obtain ⟨x0, a1, a2, _⟩ := hxs j hl
            rw [hj] at a1
            injection a1 with a1
            subst a1
            have := cell_keep ((Below.refl W.drew.heap.size W.drew).alloc (Nat.le_refl _) (.cells #[] 33)) (show W.drew.cell? ⟨R, j, none⟩ = some u from a2)
            rw [show ((⟨R, 0, none⟩ : Addr).add j) = ⟨R, j, none⟩ by by_cases h0 : j = 0 <;> simp [Addr.add, h0]]
            exact this)
          have H1 : Hid (∀ u ∈ xs, u.oneCell' = true) := Lib.hid (fun u hu => by
            obtain ⟨j, hj, rfl⟩ := List.getElem_of_mem hu
            obtain ⟨x0, a1, _, a3⟩ := hxs j (by omega)
            rw [List.getElem?_eq_getElem hj] at a1
            injection a1 with a1
            obtain ⟨X0, rfl⟩ := a3.one
            rw [a1]; rfl)
          have HP0 := Lib.hid (cell_keep ((Below.refl W.drew.heap.size W.drew).alloc (Nat.le_refl _) (.cells #[] 33)) (show W.drew.cell? ⟨s, 0, none⟩ = some (.int .i64 (st.at_ : Int)) from p0))
          have HP1 := Lib.hid (cell_keep ((Below.refl W.drew.heap.size W.drew).alloc (Nat.le_refl _) (.cells #[] 33)) (show W.drew.cell? ⟨s, 1, none⟩ = some (.slice (some ⟨R, 0, none⟩) 32 rc) from p1))
          have HNE : Hid (some s ≠ (some W.heap.size : Option Nat)) := Lib.hid fun e => by injection e with e; omega
          clear hxs hxl
          go_region_held3 (fun w' => w'.cell? ⟨s, 0, none⟩ = some (.int .i64 (st.at_ : Int)) ∧ w'.cell? ⟨s, 1, none⟩ = some (.slice (some ⟨R, 0, none⟩) 32 rc)) (first | exact ⟨p0, p1⟩ | exact ⟨HP0.out, HP1.out⟩ | go_keep | trivial)
            (first
              | (refine step_append_lies _ (by rfl) _ _ _ (by rfl) W.heap.size 33 i0 (.pointer none) 1 8 Tryz.underlying93 hi hz0 hz1 hz2 rfl (by omega) _ _ _ (by rfl) HOWN.out.drew ⟨R, 0, none⟩ 32 rc xs (by rfl) (by rw [HXL.out]) HNW.out H1.out (by omega) (by unfold maxLen; omega) (by omega) (by simp) (W.heap.size + 1) (by simp) ?_; intro gg cap1 w3 hown hgrow hat hlt1; have p0 := hgrow.cell (a := ⟨s, 0, none⟩) HP0.out HNE.out; have p1 := hgrow.cell (a := ⟨s, 1, none⟩) HP1.out HNE.out))
          have hgg : W.heap.size ≤ gg := by
            rcases hat with h | h
            · simp [Value.ownBlock] at h; omega
            · omega
          have hb3 : Below W.heap.size W w3 := (((Below.refl W.heap.size W).alloc (Nat.le_refl _) _).drew).grown hgrow (by simp) (fun k hk => by simp [Value.ownBlock] at hk; omega)
          have hb5 : Below W.heap.size W (w3.alloc (.cells #[.int .i64 (st.at_ : Int), .slice (some ⟨gg, 0, none⟩) 32 cap1] 131)) := hb3.alloc hb3.size _
          have hra : RA (w3.alloc (.cells #[.int .i64 (st.at_ : Int), .slice (some ⟨gg, 0, none⟩) 32 cap1] 131)) w3.heap.size gg st := by
            refine ⟨by rw [World.cell?_alloc_new]; rfl, ⟨cap1, by rw [World.cell?_alloc_new]; rfl⟩, fun r hr => ?_⟩
            obtain ⟨x0, a1, _, a3⟩ := HXS.out r hr
            refine ⟨x0, cell_keep ((Below.refl w3.heap.size w3).alloc (Nat.le_refl _) _) ?_, NodeW.below a3 hb5⟩
            have hc := hown.cellAt r (by omega)
            rw [hc]
            simpa using a1
          have HT : Hid (Old ps t s R (w3.alloc (.cells #[.int .i64 (st.at_ : Int), .slice (some ⟨gg, 0, none⟩) 32 cap1] 131)) w3.heap.size k 0 ∧ RM (w3.alloc (.cells #[.int .i64 (st.at_ : Int), .slice (some ⟨gg, 0, none⟩) 32 cap1] 131)) w.heap.size m C s R ps st ∧ Below w.heap.size w (w3.alloc (.cells #[.int .i64 (st.at_ : Int), .slice (some ⟨gg, 0, none⟩) 32 cap1] 131))) :=
            Lib.hid ⟨.inr ⟨gg, k, st, hra, HST.out, by omega, by have := hb3.size; omega, by have := hb3.size; omega, by omega, by omega⟩, HMx.out.below hb5, bstep HBx.out hb5⟩
          clear hra hb5 hb3 hgg hown hgrow hat hlt1 p0 p1 HXS HXL HOWN HNW H1 HP0 HP1 HNE HMx HBx HOx hsW hRW
          generalize w3.alloc (.cells #[.int .i64 (st.at_ : Int), .slice (some ⟨gg, 0, none⟩) 32 cap1] 131) = W5 at *
          generalize w3.heap.size = o2 at *
          have HOx := Lib.hid HT.out.1; have HMx := Lib.hid HT.out.2.1; have HBx := Lib.hid HT.out.2.2
          clear HT
          cases hs : stepP ps st with
          | none =>
            have HS := Lib.hid (rstep_no HMx.out HV.out (HST.out.ok HV.out HFO.out) HEN.out hs)
            clear hs
            go_wp2_with fail
            refine HS.out.mono ?_
            rintro e w3 ⟨rfl, hm3, hb3⟩
            have HB3 := Lib.hid (HBx.out.trans (hb3.below hs1 hR1 HBx.out.size))
            clear hm3 hb3 HS
            go_wp2_with fail
            go_ret
            exact ⟨false, rfl, fun h => Bool.noConfusion h, HB3.out⟩
          | some st' =>
            have HS := Lib.hid (rstep_yes HMx.out HV.out (HST.out.ok HV.out HFO.out) HEN.out hs)
            have HST' := Lib.hid (Steps.succ HST.out HEN.out hs)
            clear hs
            go_wp2_with fail
            refine HS.out.mono ?_
            rintro e w3 ⟨rfl, hm3, hb3⟩
            have HM3 := Lib.hid hm3
            have HB3 := Lib.hid (HBx.out.trans (hb3.below hs1 hR1 HBx.out.size))
            have HO3 := HOx.out.but hb3 (hb3.keepT (TagB.ne HMx.out.tagS (by decide)) (TagB.ne HMx.out.tagR (by decide)))
            clear hm3 hb3 HS HMx HBx HOx
            have HO4 := Lib.hid HO3
            rcases HO3 with ⟨h1, _⟩ | ⟨R', i, sto, h1, h2, h3, _⟩
            · have HG := Lib.hid (rAgain_new w3 _ _ _ h1 HM3.out.place)
              clear h1
              go_wp2_with fail
              refine HG.out.mono ?_
              rintro e w4 ⟨rfl, hb⟩
              have HB4 := Lib.hid (bstep HB3.out hb); have HM4 := Lib.hid (HM3.out.below hb); have HO5 := Lib.hid (HO4.out.below hb)
              clear hb HG
              go_wp2_with fail
              go_roundw
              case rel => exact ⟨k + 1, 0 + 1, 2 * n, o2, st', by omega, by go_num, by go_num, by go_num, rfl, by omega, by omega, HO5, HST', HM4, HB4⟩
              case measure => simp [intOf]; omega
            · have HG := Lib.hid (rAgain_any w3 _ _ _ _ ps.length _ _ h1 HM3.out.ra (h2.ok HV.out HFO.out) (HST'.out.ok HV.out HFO.out))
              have HI := Lib.hid h2
              clear h1 h2
              go_wp2_with fail
              refine HG.out.mono ?_
              rintro e w4 ⟨b, rfl, hbb, hb⟩
              have HB4 := Lib.hid (bstep HB3.out hb); have HM4 := Lib.hid (HM3.out.below hb); have HO5 := Lib.hid (HO4.out.below hb)
              cases b with
              | true =>
                have he := hbb rfl
                have HCM : Hid (Comes ps t K) := Lib.hid ⟨i, k + 1, st', by omega, by omega, he ▸ HI.out, HST'.out⟩
                clear he hbb hb h3 HG
                go_wp2_with fail
                go_ret
                exact ⟨true, rfl, fun _ => HCM.out, HB4.out⟩
              | false =>
                clear hbb hb h3 HG
                go_wp2_with fail
                go_roundw
                case rel => exact ⟨k + 1, 0 + 1, 2 * n, o2, st', by omega, by go_num, by go_num, by go_num, rfl, by omega, by omega, HO5, HST', HM4, HB4⟩
                case measure => simp [intOf]; omega
        · have e1 : ((n : Int) == (wa : Int)) = false := by rw [beq_eq_false_iff_ne]; omega
          cases hs : stepP ps st with
          | none =>
            have HS := Lib.hid (rstep_no HMx.out HV.out (HST.out.ok HV.out HFO.out) HEN.out hs)
            clear hs
            go_wp2_with fail
            refine HS.out.mono ?_
            rintro e w3 ⟨rfl, hm3, hb3⟩
            have HB3 := Lib.hid (HBx.out.trans (hb3.below hs1 hR1 HBx.out.size))
            clear hm3 hb3 HS
            go_wp2_with fail
            go_ret
            exact ⟨false, rfl, fun h => Bool.noConfusion h, HB3.out⟩
          | some st' =>
            have HS := Lib.hid (rstep_yes HMx.out HV.out (HST.out.ok HV.out HFO.out) HEN.out hs)
            have HST' := Lib.hid (Steps.succ HST.out HEN.out hs)
            clear hs
            go_wp2_with fail
            refine HS.out.mono ?_
            rintro e w3 ⟨rfl, hm3, hb3⟩
            have HM3 := Lib.hid hm3
            have HB3 := Lib.hid (HBx.out.trans (hb3.below hs1 hR1 HBx.out.size))
            have HO3 := HOx.out.but hb3 (hb3.keepT (TagB.ne HMx.out.tagS (by decide)) (TagB.ne HMx.out.tagR (by decide)))
            clear hm3 hb3 HS HMx HBx HOx
            have HO4 := Lib.hid HO3
            rcases HO3 with ⟨h1, _⟩ | ⟨R', i, sto, h1, h2, h3, _⟩
            · have HG := Lib.hid (rAgain_new w3 _ _ _ h1 HM3.out.place)
              clear h1
              go_wp2_with fail
              refine HG.out.mono ?_
              rintro e w4 ⟨rfl, hb⟩
              have HB4 := Lib.hid (bstep HB3.out hb); have HM4 := Lib.hid (HM3.out.below hb); have HO5 := Lib.hid (HO4.out.below hb)
              clear hb HG
              go_wp2_with fail
              go_roundw
              case rel => exact ⟨k + 1, _, _, _, st', by omega, by go_num, by go_num, by go_num, rfl, by omega, by omega, HO5, HST', HM4, HB4⟩
              case measure => simp [intOf]; omega
            · have HG := Lib.hid (rAgain_any w3 _ _ _ _ ps.length _ _ h1 HM3.out.ra (h2.ok HV.out HFO.out) (HST'.out.ok HV.out HFO.out))
              have HI := Lib.hid h2
              clear h1 h2
              go_wp2_with fail
              refine HG.out.mono ?_
              rintro e w4 ⟨b, rfl, hbb, hb⟩
              have HB4 := Lib.hid (bstep HB3.out hb); have HM4 := Lib.hid (HM3.out.below hb); have HO5 := Lib.hid (HO4.out.below hb)
              cases b with
              | true =>
                have he := hbb rfl
                have HCM : Hid (Comes ps t K) := Lib.hid ⟨i, k + 1, st', by omega, by omega, he ▸ HI.out, HST'.out⟩
                clear he hbb hb h3 HG
                go_wp2_with fail
                go_ret
                exact ⟨true, rfl, fun _ => HCM.out, HB4.out⟩
              | false =>
                clear hbb hb h3 HG
                go_wp2_with fail
                go_roundw
                case rel => exact ⟨k + 1, _, _, _, st', by omega, by go_num, by go_num, by go_num, rfl, by omega, by omega, HO5, HST', HM4, HB4⟩
                case measure => simp [intOf]; omega
    · obtain rfl : k = K := by omega
      have hk1 : decide ((k : Int) < (k : Int)) = false := by simp
      go_wp2_with fail
      go_ret
      exact ⟨false, rfl, fun h => Bool.noConfusion h, HB.out⟩
end Go.Proofs.YtkpfocgcnehajabGreatDoor
