/- The law's peak and given. By an AI agent. -/
import Derived.Test.YtkpfocgcnehajabGreatDoorRRun
import Derived.Test.YtkpfocgcnehajabGreatDoorUnivS
import Derived.StillTailTactics
namespace Go.Proofs.YtkpfocgcnehajabGreatDoor
open Go.RowKit Pl

theorem results_tmp4 {fn : Func} {t u v x : Tmp} (h : fn.results = #[.tmp t, .tmp u, .tmp v, .tmp x]) (tmps : Array Value) (P : Program) (w : World) :
    (results fn tmps).run P w = .ok (.tuple #[tmps.getD t undef, tmps.getD u undef, tmps.getD v undef, tmps.getD x undef]) w := by
  simp [results, h]
theorem totT_cons1 (t : Tr) (ts : List Tr) : totT (t :: ts) = (tx t).length + totT ts := by simp [totT]
theorem totT_step : ∀ (l : List Tr) (r : Nat), r < l.length → totT (l.take (r + 1)) = totT (l.take r) + (tx (l[r]?.getD .nil)).length
  | [], r, h => by simp at h
  | t :: ts, 0, _ => by simp [totT]
  | t :: ts, r + 1, h => by
    simp only [List.take_succ_cons, totT_cons1, List.getElem?_cons_succ]
    rw [totT_step ts r (by simpa using h)]; omega
theorem totT_le : ∀ (l : List Tr), (∀ t ∈ l, (tx t).length ≤ 2000000) → totT l ≤ 2000000 * l.length
  | [], _ => by simp [totT]
  | t :: ts, h => by
    rw [totT_cons1, List.length_cons]
    have h1 := h t (by simp)
    have h2 := totT_le ts fun u hu => h u (by simp [hu])
    omega
theorem totT_take_le (l : List Tr) (r : Nat) (h : ∀ t ∈ l, (tx t).length ≤ 2000000) (hl : l.length = 32) : totT (l.take r) ≤ 64000000 := by
  have h1 := totT_take l r
  have h2 := totT_le l h
  rw [hl] at h2
  omega
/-- what peak returns -/
def RPeakOut (w : World) (ps : List Ins) (t : Tr) (K : Nat) (e : Ending) (w' : World) : Prop :=
  Below w.heap.size w w' ∧ ∃ most : Nat, most ≤ 64000000 ∧ match runTo ps K (first t) with
    | some (st, n) => (∀ j s, j ≤ n → Steps ps (first t) j s → totT s.regs ≤ most) ∧ ((st.at_ = ps.length ∧ ∃ x, e = .returned (.tuple #[x, .int .i64 (n : Int), .int .i64 0, .int .i64 (most : Int)]) ∧ NodeW 72 w' (st.reg 0) x) ∨ (st.at_ ≠ ps.length ∧ e = .returned (.tuple #[.pointer none, .int .i64 0, .int .i64 7, .int .i64 (most : Int)])))
    | none => e = .returned (.tuple #[.pointer none, .int .i64 0, .int .i64 3, .int .i64 (most : Int)])
set_option maxHeartbeats 6400000 in
set_option maxRecDepth 100000 in
theorem peak_any (w : World) (m C K : Nat) (v x : Value) (ps : List Ins) (t : Tr) (hL : RL w m C v ps) (hC : C < w.heap.size) (ho : ∀ k, 0 < ps.length → v.ownBlock = some k → k < w.heap.size) (hv : PValid ps) (hn : NodeW 72 w t x) (ht : (tx t).length ≤ 2000000) (hk : K ≤ 10000000) :
    Calls Tryz.prog 40 #[.pointer (some ⟨m, 0, none⟩), x, .int .i64 (K : Int)] w (RPeakOut w ps t K) := by
  have HF := Lib.hid (rFirst3_any w t x hn)
  have hf : (first t).ok ps.length := first_ok _ ht
  have HFO := Lib.hid hf; have HV := Lib.hid hv; have HL := Lib.hid hL; have HO := Lib.hid ho
  clear hn ht hf hv hL ho
  go_enter Tryz.func40, Tryz.ntmps40
  go_wp2_with fail
  refine HF.out.mono ?_
  rintro e w1 ⟨s, R, rfl, hS, hs1, hR1, hb1⟩
  have hM1 : RM w1 w.heap.size m C s R ps (first t) := RM.of (HL.out.below hb1) hS HO.out hs1 hR1 hb1.size (by omega)
  have HM1 := Lib.hid hM1; have HB1 := Lib.hid hb1
  clear hS hM1 hb1 HF
  go_wp2
  go_loopw [11, 12] (fun mo i wr => ∃ (k most : Nat) (st : St), k ≤ K ∧ i = .int .i64 (k : Int) ∧ mo = .int .i64 (most : Int) ∧ most ≤ 64000000 ∧ Hid (∀ j s, j < k → Steps ps (first t) j s → totT s.regs ≤ most) ∧ Hid (Steps ps (first t) k st) ∧ Hid (RM wr w.heap.size m C s R ps st) ∧ Hid (Below w.heap.size w wr)) (fun _ i _ => K - (intOf i).toNat)
  case atStart => exact ⟨0, 0, first t, Nat.zero_le _, rfl, rfl, Nat.zero_le _, Lib.hid (fun j s h => by omega), Lib.hid .zero, HM1, HB1⟩
  case round =>
    clear HM1 HB1
    obtain ⟨k, most, st, hkK, rfl, rfl, hmo, HT, HST, HM, HB⟩ := hrel
    obtain ⟨rc, hrc⟩ := HM.out.regsv
    have hok := HST.out.ok HV.out HFO.out
    have hl32 := hok.2.1
    have HOK := Lib.hid hok
    clear hok
    go_wp2
    go_loopw [13, 14] (fun z i w2 => ∃ r : Nat, r ≤ 32 ∧ i = .int .i64 (r : Int) ∧ (∃ u : Nat, z = .int .i64 (u : Int) ∧ u ≤ 64000000 ∧ Hid (totT (st.regs.take r) = u)) ∧ ∃ q, w2 = wr.drewN q) (fun _ i _ => 32 - (intOf i).toNat)
    case atStart => exact ⟨0, Nat.zero_le _, rfl, ⟨0, rfl, Nat.zero_le _, Lib.hid (by simp [totT])⟩, 0, rfl⟩
    case round =>
      obtain ⟨r, hr, rfl, ⟨u, rfl, hu, HU⟩, q, rfl⟩ := hrel
      have c4 : (wr.drewN q).cell? ⟨s, 1, none⟩ = some (.slice (some ⟨R, 0, none⟩) 32 rc) := hrc
      by_cases hlt : r < 32
      · obtain ⟨x0, hx0, hN0⟩ := HM.out.regs r hlt
        obtain ⟨X0, rfl⟩ := hN0.one
        have c3 : (wr.drewN q).cell? ⟨R, r, none⟩ = some (.pointer X0) := hx0
        have HN0 := Lib.hid hN0
        have hr1 : (r : Int) < 32 := by omega
        have hstep := totT_step st.regs r (by omega)
        have hle := totT_take_le st.regs (r + 1) HOK.out.2.2 hl32
        rw [HU.out] at hstep
        have HSZ := Lib.hid (rSize_any 72 (wr.drewN q) _ _ (NodeW.keep HN0.out (KeepT.drewN _ _ _)))
        generalize (tx (st.regs[r]?.getD .nil)).length = L at hstep HSZ
        have HS2 := Lib.hid hstep
        have huL : u + L ≤ 64000000 := by omega
        have hw35 : IntKind.i64.wrap ((u : Int) + (L : Int)) = ((u + L : Nat) : Int) := (IntWalk.i64_in _ (by omega)).trans (by omega)
        clear hx0 hN0 hstep hle
        go_wp2_with fail
        refine HSZ.out.mono ?_
        rintro e w2 ⟨rfl, rfl⟩
        rename_i hK
        dsimp only
        apply hK
        clear hK
        go_wp2_with fail
        go_roundw
        case rel => exact ⟨r + 1, by omega, by go_num, ⟨u + L, by go_num, huL, HS2⟩, _, rfl⟩
        case measure => simp [intOf]; omega
      · obtain rfl : r = 32 := by omega
        have hut : totT st.regs = u := by rw [← HU.out, List.take_of_length_le (by omega)]
        have hr0 : ¬ ((32 : Nat) : Int) < 32 := by decide
        have HM2 := Lib.hid (HM.out.below (bdrewN (Below.refl _ _) q))
        have HB2 := Lib.hid (bdrewN HB.out q)
        have hmu : most ≤ max most u := Nat.le_max_left _ _
        have hmu2 : u ≤ max most u := Nat.le_max_right _ _
        have hmx : max most u ≤ 64000000 := Nat.max_le.2 ⟨hmo, hu⟩
        have hmax : max ((most : Nat) : Int) ((u : Nat) : Int) = ((max most u : Nat) : Int) := by omega
        have HT2 : Hid (∀ j s, j < k + 1 → Steps ps (first t) j s → totT s.regs ≤ max most u) := Lib.hid (fun j s hj hs => by
          by_cases e : j = k
          · subst e
            have := Steps.det hs HST.out
            subst this
            omega
          · exact Nat.le_trans (HT.out j s (by omega) hs) hmu)
        clear HT HM HB
        generalize wr.drewN q = W at *
        clear hmu hmu2 hut hr
        have HE := Lib.hid (rended_is HM2.out HV.out (HST.out.ok HV.out HFO.out))
        cases hed : (st.at_ == ps.length) with
        | true =>
          rw [hed] at HE
          have HEN : Hid (st.at_ = ps.length) := Lib.hid (by simpa using hed)
          clear hed
          go_wp2_with fail
          refine HE.out.mono ?_
          rintro e w2 ⟨rfl, q2, rfl⟩
          rename_i hK
          obtain ⟨x0, hx0, hN0⟩ := HM2.out.regs 0 (by omega)
          obtain ⟨rc2, hrc2⟩ := HM2.out.regsv
          obtain ⟨X0, rfl⟩ := hN0.one
          have c3 : (W.drewN q2).cell? ⟨R, 0, none⟩ = some (.pointer X0) := hx0
          have c4 : (W.drewN q2).cell? ⟨s, 1, none⟩ = some (.slice (some ⟨R, 0, none⟩) 32 rc2) := hrc2
          have HN0 := Lib.hid hN0
          clear hx0 hN0 hrc2 HE
          dsimp only
          apply hK
          clear hK
          go_wp2_with fail
          (try simp only [Exit.inBlock, Exit.then]); refine bodyPost_ret (results_tmp4 rfl _ _ _) rfl ?_
          refine ⟨bdrewN HB2.out q2, max most u, hmx, ?_⟩
          rw [runTo_is HST.out hkK (.inr HEN.out)]
          exact ⟨fun j s hj hs => HT2.out j s (by omega) hs, .inl ⟨HEN.out, _, rfl, NodeW.keep HN0.out (KeepT.drewN _ _ _)⟩⟩
        | false =>
          rw [hed] at HE
          have HEN : Hid (st.at_ ≠ ps.length) := Lib.hid (by simpa using hed)
          clear hed
          by_cases hkk : k = K
          · subst hkk
            have e1 : ((k : Int) == (k : Int)) = true := by simp
            go_wp2_with fail
            refine HE.out.mono ?_
            rintro e w2 ⟨rfl, q2, rfl⟩
            rename_i hK
            clear HE
            dsimp only
            apply hK
            clear hK
            go_wp2_with fail
            (try simp only [Exit.inBlock, Exit.then]); refine bodyPost_ret (results_tmp4 rfl _ _ _) rfl ?_
            refine ⟨bdrewN HB2.out q2, max most u, hmx, ?_⟩
            rw [runTo_is HST.out hkK (.inl rfl)]
            exact ⟨fun j s hj hs => HT2.out j s (by omega) hs, .inr ⟨HEN.out, rfl⟩⟩
          · have hlt : k < K := by omega
            have e1 : ((k : Int) == (K : Int)) = false := by rw [beq_eq_false_iff_ne]; omega
            clear hkk
            go_wp2_with fail
            refine HE.out.mono ?_
            rintro e w2 ⟨rfl, q2, rfl⟩
            rename_i hK
            have HM3 := Lib.hid (HM2.out.below (bdrewN (Below.refl _ _) q2))
            have HB3 := Lib.hid (bdrewN HB2.out q2)
            clear HE
            cases hs : stepP ps st with
            | some st' =>
              have HS := Lib.hid (rstep_yes HM3.out HV.out (HST.out.ok HV.out HFO.out) HEN.out hs)
              have HST' := Lib.hid (Steps.succ HST.out HEN.out hs)
              clear hs HM2
              dsimp only
              apply hK
              clear hK
              go_wp2_with fail
              refine HS.out.mono ?_
              rintro e w3 ⟨rfl, hm3, hb3⟩
              rename_i hK
              have HM4 := Lib.hid hm3
              have HB4 := Lib.hid (HB3.out.trans (hb3.below hs1 hR1 HB3.out.size))
              clear hm3 hb3 HS
              dsimp only
              apply hK
              clear hK
              go_wp2_with fail
              go_roundw
              case rel => exact ⟨k + 1, max most u, st', by omega, by go_num, rfl, hmx, HT2, HST', HM4, HB4⟩
              case measure => simp [intOf]; omega
            | none =>
              have HS := Lib.hid (rstep_no HM3.out HV.out (HST.out.ok HV.out HFO.out) HEN.out hs)
              have HN := Lib.hid hs
              clear hs HM2
              dsimp only
              apply hK
              clear hK
              go_wp2_with fail
              refine HS.out.mono ?_
              rintro e w3 ⟨rfl, hm3, hb3⟩
              rename_i hK
              have HB4 := Lib.hid (HB3.out.trans (hb3.below hs1 hR1 HB3.out.size))
              clear hm3 hb3 HS
              dsimp only
              apply hK
              clear hK
              go_wp2_with fail
              (try simp only [Exit.inBlock, Exit.then]); refine bodyPost_ret (results_tmp4 rfl _ _ _) rfl ?_
              refine ⟨HB4.out, max most u, hmx, ?_⟩
              rw [runTo_large HST.out hlt HEN.out HN.out]
              exact rfl
/-- what given returns -/
def RGivenOut (w : World) (ps : List Ins) (t : Tr) (e : Ending) (w' : World) : Prop :=
  Below w.heap.size w w' ∧ ∃ v, e = .returned v ∧ ((2000000 < (tx (.pair (lst (codeL ps)) t)).length ∧ v = .pointer none) ∨ ((tx (.pair (lst (codeL ps)) t)).length ≤ 2000000 ∧ NodeW 72 w' (.pair (lst (codeL ps)) t) v))
theorem S_toList (l : List UInt8) : (S l).data.toList = l := by simp
set_option maxHeartbeats 3200000 in
set_option maxRecDepth 100000 in
theorem given_any (w : World) (v x : Value) (ps : List Ins) (t : Tr) (hA : ArgP w v ps) (hv : PValid ps) (hn : NodeW 72 w t x) (ht : (tx t).length ≤ 2000000) :
    Calls Tryz.prog 39 #[v, x] w (RGivenOut w ps t) := by
  have HC := Lib.hid (Code_arg w v ps hA hv)
  have htc : tx (lst (codeL ps)) = enc (codes ps) := tx_code hv.2.2
  have hsz : (S (enc (codes ps))).size = (tx (lst (codeL ps))).length := by rw [S_size, htc]
  have hpl := tx_pair (lst (codeL ps)) t
  unfold RGivenOut
  have HN := Lib.hid hn
  have HPT := Lib.hid htc
  obtain ⟨X, rfl⟩ := hn.one
  clear hn hA
  by_cases hbig : 2000000 < (tx (lst (codeL ps))).length
  · have h1 : (2000000 : Int) < ((S (enc (codes ps))).size : Int) := by rw [hsz]; omega
    have HB := Lib.hid (show 2000000 < (tx (.pair (lst (codeL ps)) t)).length by omega)
    clear hpl hsz htc
    generalize S (enc (codes ps)) = cs at *
    go_enter Tryz.func39, Tryz.ntmps39
    go_wp2_with fail
    refine HC.out.mono ?_
    rintro e w1 ⟨rfl, hb⟩
    go_wp2_with fail
    go_ret
    exact ⟨hb, _, rfl, .inl ⟨HB.out, rfl⟩⟩
  · have h1 : ¬ (2000000 : Int) < ((S (enc (codes ps))).size : Int) := by rw [hsz]; omega
    have hl1 : (tx (lst (codeL ps))).length ≤ 2000000 := by omega
    have hvl : vld (S (enc (codes ps))).data.toList = true := by rw [S_toList, ← htc]; exact vld_tx hl1
    have hrd : rd (S (enc (codes ps))).data.toList = lst (codeL ps) := by rw [S_toList, ← htc]; exact rd_tx _
    have HR := Lib.hid (fun W => rRead_any (S (enc (codes ps))) W hvl)
    rw [hrd] at HR
    have HCO := Lib.hid (fun W y z (h : NodeW 72 W (lst (codeL ps)) y) (h2 : NodeW 72 W t z) => rCons_any W (lst (codeL ps)) t y z h h2 hl1 ht)
    clear hvl hrd hsz htc HPT
    generalize S (enc (codes ps)) = cs at *
    go_enter Tryz.func39, Tryz.ntmps39
    go_wp2_with fail
    refine HC.out.mono ?_
    rintro e w1 ⟨rfl, hb⟩
    have HB1 := Lib.hid hb
    clear hb
    go_wp2_with fail
    refine (HR.out _).mono ?_
    rintro e w2 ⟨v2, rfl, h2, hb⟩
    obtain ⟨V2, rfl⟩ := h2.one
    have HB2 := Lib.hid (HB1.out.trans (hb.mono HB1.out.size)); have HN2 := Lib.hid h2
    clear hb h2 HR
    go_wp2_with fail
    refine (HCO.out _ _ _ HN2.out (NodeW.below HN.out HB2.out)).mono ?_
    rintro e w3 ⟨v3, rfl, h3, hb⟩
    obtain ⟨B3, o3, x3, y3, rfl, ca, cb, cc, na, nb⟩ := h3
    have HB3 := Lib.hid (HB2.out.trans (hb.mono HB2.out.size))
    have HN3 : Hid (NodeW 72 w3 (.pair (lst (codeL ps)) t) (.pointer (some ⟨B3, o3, none⟩))) := Lib.hid ⟨B3, o3, x3, y3, rfl, ca, cb, cc, na, nb⟩
    have cc3 : w3.cell? ⟨B3, o3 + 2, none⟩ = some (.int .i64 ((tx (.pair (lst (codeL ps)) t)).length : Nat)) := cc.2
    clear hb ca cb cc na nb HCO hpl hl1 h1 hbig ht
    by_cases hz : 2000000 < (tx (.pair (lst (codeL ps)) t)).length
    · have HZ := Lib.hid hz
      have hz1 : (2000000 : Int) < ((tx (.pair (lst (codeL ps)) t)).length : Int) := by omega
      generalize (tx (.pair (lst (codeL ps)) t)).length = L at cc3 hz1 hz
      go_wp2_with fail
      go_ret
      exact ⟨HB3.out, _, rfl, .inl ⟨HZ.out, rfl⟩⟩
    · have HZ : Hid ((tx (.pair (lst (codeL ps)) t)).length ≤ 2000000) := Lib.hid (by omega)
      have hz1 : ¬ (2000000 : Int) < ((tx (.pair (lst (codeL ps)) t)).length : Int) := by omega
      generalize (tx (.pair (lst (codeL ps)) t)).length = L at cc3 hz1 hz
      go_wp2_with fail
      go_ret
      exact ⟨HB3.out, _, rfl, .inr ⟨HZ.out, HN3.out⟩⟩
end Go.Proofs.YtkpfocgcnehajabGreatDoor
