/- narcissustop: the walk of follow. By an AI agent. -/
import Derived.Test.YtmhoacnbmbhcjabTopF
namespace Go.Proofs.Ytmhoacnbmbhcjab
open Go.RowKit Pl

theorem tsz (w : World) (q : Nat) (t : Tr) (v : Value) (h : NodeW 106 w t v) (l : Nat) (hl : (tx t).length = l) : Calls Try.prog 49 #[v] (w.drewN q) fun e w' => e = .returned (.int .i64 (l : Int)) ∧ w' = w.drewN q :=
  (tsize_any (w.drewN q) t v (NodeW.keep h (KeepT.drewN _ _ _))).mono fun _ _ ⟨h1, h2⟩ => ⟨by rw [h1, hl], h2.symm⟩
theorem len_le {l : List UInt8} {n : Nat} (h : l.length = n) (h2 : l.length ≤ 2000000) : (n : Int) ≤ 2000000 := by omega
theorem int_eq {a b : Int} (h : a = b) : Value.int .i64 a = .int .i64 b := by rw [h]
theorem reg_len {s : St} {n r : Nat} (hs : s.ok n) : (tx (s.regs[r]?.getD .nil)).length ≤ 2000000 := by
  cases h : s.regs[r]? with
  | none => simp [tx]
  | some t => exact hs.2.2 t (List.mem_of_getElem? h)
theorem hd_len (t : Tr) {n : Nat} (h : (tx t).length ≤ n) : (tx (hdT t)).length ≤ n := by
  cases t with
  | nil => exact h
  | pair a b => rw [tx_pair] at h; show (tx a).length ≤ n; omega
theorem tl_len (t : Tr) {n : Nat} (h : (tx t).length ≤ n) : (tx (tlT t)).length ≤ n := by
  cases t with
  | nil => exact h
  | pair a b => rw [tx_pair] at h; show (tx b).length ≤ n; omega
set_option maxHeartbeats 12800000 in
set_option maxRecDepth 100000 in
theorem follow_some (w : World) (b off cap K : Nat) (ps : List Ins) (x : Tr) (X : Option Addr) (hP : ProgAt w b off ps) (h0 : 0 < ps.length) (hv : PValid ps) (hx : NodeW 106 w x (.pointer X)) (hxl : (tx x).length ≤ 2000000) (hK : K ≤ 10000000) :
    Calls Try.prog 82 #[.slice (some ⟨b, off, none⟩) ps.length cap, .pointer X, .int .i64 (K : Int)] w (FollowOut w ps x K) := by
  obtain ⟨i0, hi, hz0, hz1, hz2⟩ := info_parts Try.infoTCell
  have hm := hv.1
  have HRES : Hid (∀ e w', FollowOut w ps x K e w' → FollowOut w ps x K e w') := Lib.hid fun _ _ h => h
  have HTM := Lib.hid (fun wr R C ys => tm_start (w := w) (wr := wr) (R := R) (C := C) (ps := ps) (ys := ys) (X := X) (x := x))
  obtain ⟨n, hn⟩ : ∃ n, n = ps.length := ⟨_, rfl⟩
  rw [← hn] at HTM hm h0 ⊢
  have HN := Lib.hid hn
  have HP := Lib.hid hP; have HV := Lib.hid hv; have HX0 := Lib.hid hx; have HXL := Lib.hid hxl
  have hbw := hP.1
  have HBW := Lib.hid hbw
  generalize hQ : FollowOut w ps x K = Q at *
  have HQ := Lib.hid hQ
  clear hn hP hv hx hbw hQ HRES
  have HR1 : Hid ((w.alloc (.cells nil32 133)).heap[w.heap.size]? = some (.cells nil32 133 (0, 0))) := Lib.hid (heap_alloc_new w _)
  have HB1 : Hid (Below w.heap.size w (w.alloc (.cells nil32 133))) := Lib.hid (alloc_below w _)
  have HZ1 : Hid ((w.alloc (.cells nil32 133)).heap.size = w.heap.size + 1) := Lib.hid (by simp)
  go_enter Try.func82, Try.ntmps82
  go_wp2_with (at_make; refine wpList_make_full _ rfl _ _ 100 rfl (w.heap.size + 1) 65 i0 (.pointer none) 1 Try.underlying100 hi hz0 hz1 .i64 .i64 _ _ n rfl rfl rfl rfl (by rw [hz2]; omega) (by unfold maxLen; omega) (by simp) ?_)
  intro w2 hown hgrow
  change (w.alloc (.cells nil32 133)).grownBy w2 none at hgrow
  have HR2 : Hid (w2.heap[w.heap.size]? = some (.cells nil32 133 (0, 0))) := Lib.hid ((hgrow.block w.heap.size (by rw [HZ1.out]; omega) (by simp)).trans HR1.out)
  have HB2 : Hid (Below w.heap.size w w2) := Lib.hid (HB1.out.grown hgrow (by rw [HZ1.out]; omega) (by simp))
  obtain ⟨xs, HO2⟩ : ∃ xs, Hid (w2.ownsRow (w.heap.size + 1) 65 1 (.slice (some ⟨w.heap.size + 1, 0, none⟩) n n) n xs) := ⟨_, Lib.hid hown⟩
  obtain ⟨C, hC⟩ : ∃ C, C = w.heap.size + 1 := ⟨_, rfl⟩
  have HC := Lib.hid hC
  clear hown hgrow HR1 HB1 HZ1
  try simp only [World.size_alloc]
  rw [← hC]
  rw [← hC] at HO2
  have HSZ2 : Hid (w.heap.size + 1 ≤ w2.heap.size) := Lib.hid (by have := (Array.getElem?_eq_some_iff.1 HR2.out).1; omega)
  obtain ⟨R, hR⟩ : ∃ R, R = w.heap.size := ⟨_, rfl⟩
  rw [← hR] at HR2 HB2 HC HSZ2 HTM HBW ⊢
  have hC2 : w.heap.size + 1 = R + 1 := by rw [hR]
  clear hC
  have HRR := Lib.hid hR
  clear hR
  go_wp2_with fail
  go_loopw [12] (fun i wr => ∃ (k : Nat) (ys : List Value), k ≤ n ∧ i = .int .i64 k ∧ Hid (wr.heap[R]? = some (.cells nil32 133 (0, 0))) ∧ Hid (wr.ownsRow C 65 1 (.slice (some ⟨C, 0, none⟩) n n) n ys) ∧ Hid (TTo wr ps k ys) ∧ Below R w wr) (fun i _ => n - (intOf i).toNat)
  case atStart => exact ⟨0, xs, Nat.zero_le _, rfl, HR2, HO2, Lib.hid (fun j x hj => absurd hj (Nat.not_lt_zero _)), HB2.out⟩
  case round =>
    clear HR2 HO2 HB2 HSZ2
    obtain ⟨k, ys, hk, rfl, HM, HO, HT, hb⟩ := hrel
    have hRlt : R < wr.heap.size := (Array.getElem?_eq_some_iff.1 HM.out).1
    by_cases hlt : k < n
    · obtain ⟨y, hx⟩ := get_at (ps := ps) (k := k) (by have := HN.out; omega)
      obtain ⟨a0, a1, a2, a3, a4⟩ := HP.out.2 k y hx
      have k0 := (hb.cell (p := ⟨b, off + k * 5, none⟩) HBW.out).trans a0
      have k4 := (hb.cell (p := ⟨b, off + k * 5 + 4, none⟩) HBW.out).trans a4
      have HX := Lib.hid hx
      have hk1 : (k : Int) < (n : Int) := by omega
      have hk0 : (0 : Int) ≤ (k : Int) := by omega
      have HB := Lib.hid hb
      clear hx a0 a1 a2 a3 a4 hb
      by_cases h0 : y.op = 0
      · have hvy := HV.out.tree HX.out h0
        have HS := Lib.hid (fun W => grow_any y.tree 2000000 W (vld_iff.1 hvy).1 (by omega))
        have HVY := Lib.hid hvy
        have H0 := Lib.hid h0
        rw [h0] at k0
        clear h0 hvy
        obtain ⟨u0, hu0⟩ := own_cell1 HO.out k hlt
        have HU0 := Lib.hid hu0
        have HF0 := Lib.hid (HO.out.frozenAt k)
        clear hu0
        go_wp2_with fail
        refine (HS.out _).mono ?_
        rintro e w3 ⟨hb3, ⟨t3, v3, ht3, rfl, hn3⟩ | ⟨hno, rfl⟩⟩
        rotate_left
        · exact absurd (isT_of HVY.out) hno
        have htr : t3 = rd y.tree := by rw [← ht3, rd_tx]
        subst htr
        obtain ⟨V3, rfl⟩ := hn3.one
        have c3 := cell_keep hb3 HU0.out
        have f3 := (hb3.frozen (p := ⟨C, k, none⟩) (cell_lt HU0.out)).trans HF0.out
        have hbR : Below R w w3 := HB.out.trans (hb3.mono (by omega))
        have hCR : C ≠ R := by have := HC.out; omega
        have HB3 := Lib.hid (hbR.setCell (p := ⟨C, k, none⟩) (by show R ≤ C; have := HC.out; omega) (.pointer V3))
        have HM3 : Hid ((w3.setCell ⟨C, k, none⟩ (.pointer V3)).heap[R]? = some (.cells nil32 133 (0, 0))) := Lib.hid (by
          rw [Below.heap_setCell _ _ _ _ (fun e => hCR e.symm), hb3.block R hRlt, HM.out])
        have HO3 := Lib.hid ((own_below HO.out hb3).stored k (.pointer V3)).1
        have hKN : KeepT 106 w3 (w3.setCell ⟨C, k, none⟩ (.pointer V3)) := KeepT.setCell ((own_tag (own_below HO.out hb3) (k := C) rfl).ne (by decide)) _
        have hKW := (KeepT.below hb3).trans hKN
        have hyl : ys.length = n := by have := HO.out.1; omega
        have HT3 : Hid (TTo (w3.setCell ⟨C, k, none⟩ (.pointer V3)) ps (k + 1) (ys.set k (.pointer V3))) := Lib.hid (fun j z hj hz hz0 => by
          by_cases e : j = k
          · subst e
            have h1 := HX.out
            rw [hz] at h1
            cases h1
            exact ⟨V3, by rw [List.getElem?_set_self (by omega)], NodeW.keep hn3 hKN⟩
          · obtain ⟨q, z1, z2⟩ := HT.out j z (by omega) hz hz0
            exact ⟨q, by rw [List.getElem?_set_ne (fun h => e h.symm), z1], NodeW.keep z2 hKW⟩)
        clear hb3 hbR hKN hKW hyl hn3 hCR ht3
        go_wp2_with fail
        go_roundw
        case rel => exact ⟨k + 1, _, by omega, by go_num, HM3, HO3, HT3, HB3.out⟩
        case measure => simp [intOf]; omega
      · have hz : (y.op == 0) = false := beq_eq_false_iff_ne.2 h0
        have HT1 : Hid (TTo wr ps (k + 1) ys) := Lib.hid (fun j z hj hy hy0 => by
          by_cases e : j = k
          · subst e
            have h1 := HX.out
            rw [hy] at h1
            cases h1; exact absurd hy0 h0
          · exact HT.out j z (by omega) hy hy0)
        clear h0
        go_wp2_with fail
        go_roundw
        case rel => exact ⟨k + 1, ys, by omega, by go_num, HM, HO, HT1, HB.out⟩
        case measure => simp [intOf]; omega
    · obtain rfl : k = n := by omega
      clear hlt hk
      have hX1 : NodeW 106 wr x (.pointer X) := NodeW.below HX0.out (by rw [← HRR.out]; exact hb)
      have HTM1 := Lib.hid (HTM.out wr R C ys HM.out (by rw [← HC.out]; exact HO.out) HT.out hX1)
      have HB3 : Hid (Below R w (wr.setCell ⟨R, 0, none⟩ (.pointer X))) := Lib.hid (hb.setCell (p := ⟨R, 0, none⟩) (Nat.le_refl R) _)
      have cR : wr.cell? ⟨R, 0, none⟩ = some (.pointer none) := Lib.cell_of_heap HM.out 0
      have fR : wr.frozen? ⟨R, 0, none⟩ = false := Lib.frozen_of_heap HM.out 0
      have HNX : Hid (NodeW 106 (wr.setCell ⟨R, 0, none⟩ (.pointer X)) x (.pointer X)) := Lib.hid (NodeW.keep hX1 (KeepT.setCell (TagB.ne ⟨_, (), HM.out⟩ (by decide)) _))
      have HTS := Lib.hid (fun W h => tsize_any W x (.pointer X) h)
      have hl : ((tx x).length : Int) ≤ 2000000 := by omega
      have hl0 : (0 : Int) ≤ ((tx x).length : Int) := by omega
      have HT31 := Lib.hid (tot_first x)
      have HOK := Lib.hid (first_ok k (t := x) HXL.out)
      generalize hq : (tx x).length = q at *
      have HQL := Lib.hid hq
      clear hb hX1 HM HO HT hq
      go_wp2_with fail
      refine (HTS.out _ HNX.out).mono ?_
      rintro e w4 ⟨rfl, rfl⟩
      generalize wr.setCell ⟨R, 0, none⟩ (.pointer X) = w4 at *
      clear cR fR
      have HQ31 : Hid ((tot (first x) : Int) = (q : Int) + 31) := Lib.hid (by rw [HT31.out]; push_cast; rfl)
      go_wp2_with fail
      go_loopw [13, 14, 15, 16] (fun sat sall smost sk wr => ∃ (j : Nat) (s : St) (m : Int), sat = .int .i64 (s.at_ : Int) ∧ sall = .int .i64 (tot s : Int) ∧ smost = .int .i64 m ∧ sk = .int .i64 (j : Int) ∧ j ≤ K ∧ Hid (PeakS ps (first x) j s m) ∧ Hid (TM wr R C ps s) ∧ Hid (Below R w wr)) (fun _ _ _ sk _ => K - (intOf sk).toNat)
      case atStart => exact ⟨0, first x, (tot (first x) : Int), rfl, by rw [HQ31.out]; congr 1 <;> omega, by rw [HQ31.out]; congr 1 <;> omega, rfl, Nat.zero_le _, Lib.hid .zero, HTM1, HB3⟩
      case round =>
        clear HTM1 HB3
        obtain ⟨j, s, m, rfl, rfl, rfl, rfl, hj, HP2, HT, HB⟩ := hrel
        have hso := HP2.out.steps.ok HV.out (by rw [← HN.out]; exact HOK.out)
        have HSO := Lib.hid hso
        have hsat : s.at_ ≤ k := by rw [HN.out]; exact hso.1
        have hmb := HP2.out.bound HV.out (by rw [← HN.out]; exact HOK.out)
        have htb := tot_le hso
        have HMB := Lib.hid hmb; have HTB := Lib.hid htb
        clear hso hmb htb
        by_cases he : s.at_ = k
        · have he2 : ((s.at_ : Int) == (k : Int)) = true := by rw [he]; simp
          obtain ⟨Y, c0, hY⟩ := HT.out.regs 0 (by omega)
          have HY := Lib.hid hY
          have HE := Lib.hid he
          clear hY he hsat
          go_wp2_with fail
          exact bodyPost_ret (v := .tuple #[.pointer Y, .int .i64 (j : Int), .int .i64 0, .int .i64 m]) (by simp [results, Try.f82, go_sem]) rfl (by rw [← HQ.out]; exact ⟨by rw [← HRR.out]; exact HB.out, .inl ⟨j, s, m, Y, HP2.out, hj, by rw [HE.out, HN.out], rfl, HY.out⟩⟩)
        · have he2 : ((s.at_ : Int) == (k : Int)) = false := beq_eq_false_iff_ne.2 (by omega)
          have hlt : s.at_ < k := by omega
          have HNE : Hid (s.at_ ≠ ps.length) := Lib.hid (by rw [← HN.out]; exact he)
          clear he hsat
          by_cases hjK : j = K
          · have hk2 : ((j : Int) == (K : Int)) = true := by rw [hjK]; simp
            have HJ := Lib.hid hjK
            clear hjK
            go_wp2_with fail
            exact bodyPost_ret (v := .tuple #[.pointer none, .int .i64 (j : Int), .int .i64 1, .int .i64 m]) (by simp [results, Try.f82, go_sem]) rfl (by rw [← HQ.out]; exact ⟨by rw [← HRR.out]; exact HB.out, .inr (.inl ⟨s, m, by rw [← HJ.out]; exact HP2.out, HNE.out, by rw [HJ.out]⟩)⟩)
          · have hk2 : ((j : Int) == (K : Int)) = false := beq_eq_false_iff_ne.2 (by omega)
            have hjlt : j < K := by omega
            clear hjK
            obtain ⟨y, hy⟩ := get_at (ps := ps) (k := s.at_) (by rw [← HN.out]; exact hlt)
            obtain ⟨a0, a1, a2, a3, a4⟩ := HP.out.2 s.at_ y hy
            have hbb := HB.out
            have k0 := (hbb.cell (p := ⟨b, off + s.at_ * 5, none⟩) HBW.out).trans a0
            have k1 := (hbb.cell (p := ⟨b, off + s.at_ * 5 + 1, none⟩) HBW.out).trans a1
            have k2 := (hbb.cell (p := ⟨b, off + s.at_ * 5 + 2, none⟩) HBW.out).trans a2
            have k3 := (hbb.cell (p := ⟨b, off + s.at_ * 5 + 3, none⟩) HBW.out).trans a3
            have k4 := (hbb.cell (p := ⟨b, off + s.at_ * 5 + 4, none⟩) HBW.out).trans a4
            have hright := HV.out.2.2 _ y hy
            have hat1 : (s.at_ : Int) < (k : Int) := by omega
            have hat0 : (0 : Int) ≤ (s.at_ : Int) := by omega
            have HY := Lib.hid hy
            obtain ⟨op, a, b1, c, tt⟩ := y
            simp only at k0 k1 k2 k3 k4
            obtain ⟨hra, hcs⟩ := right_cases hright
            obtain ⟨ha0, ha1⟩ := reg_true hra
            obtain ⟨an, rfl⟩ : ∃ an : Nat, a = (an : Int) := ⟨a.toNat, by simp only at ha0; omega⟩
            have han : an < 32 := by simp only at ha1; omega
            have hstep : ∀ t, stepI ⟨op, an, b1, c, tt⟩ s = some t → stepP ps s = some t := fun t ht => by unfold stepP; rw [hy]; exact ht
            have hstepn : stepI ⟨op, an, b1, c, tt⟩ s = none → stepP ps s = none := fun ht => by unfold stepP; rw [hy]; exact ht
            have HST := Lib.hid hstep; have HSTN := Lib.hid hstepn
            have hRlt : R < wr.heap.size := HT.out.tagR.lt
            have hB1 := alloc_below wr (.cells #[.int .i64 op, .int .i64 (an : Int), .int .i64 b1, .int .i64 c, .string (S tt)] 39)
            have HB1 : Hid (Below R w (wr.alloc (.cells #[.int .i64 op, .int .i64 (an : Int), .int .i64 b1, .int .i64 c, .string (S tt)] 39))) := Lib.hid (HB.out.alloc (by omega) _)
            have HT1 := Lib.hid (HT.out.below hB1)
            obtain ⟨Ra, ca, hna⟩ := HT1.out.regs an han
            have fa := HT1.out.free an
            have HNA := Lib.hid hna
            have h0b1 : (0 : Int) ≤ (an : Int) := by omega
            have h0b2 : (an : Int) < 32 := by omega
            clear hbb hy a0 a1 a2 a3 a4 hright hra ha0 ha1 hstep hstepn hB1 hna
            rcases hcs with ⟨ho, hb0, hc0, hvt⟩ | ⟨ho, hrb, hc0, ht0⟩ | ⟨ho, hrb, hrc, ht0⟩ | ⟨ho, hc0, ht0, hj1, hj2⟩
            · simp only at ho hb0 hc0 hvt
              subst ho; subst hb0; subst hc0
              obtain ⟨Yt, ct, hnt⟩ := HT1.out.trees s.at_ _ HY.out rfl
              have HNT := Lib.hid hnt
              have HVT := Lib.hid hvt
              have HBX : Hid ((wr.alloc (.cells #[.int .i64 0, .int .i64 (an : Int), .int .i64 0, .int .i64 0, .string (S tt)] 39)).cell? ⟨wr.heap.size, 1, none⟩ = some (.int .i64 (an : Int))) := Lib.hid (by rw [World.cell?_alloc_new]; rfl)
              have HCA := Lib.hid ca; have HFA := Lib.hid fa
              clear ca fa hnt hvt
              go_wp2_with fail
              generalize wr.alloc (.cells _ 39) = w5 at *
              obtain ⟨sy, hsy⟩ : ∃ sy, (tx (rd tt)).length = sy := ⟨_, rfl⟩
              obtain ⟨sa, hsa⟩ : ∃ sa, (tx (s.regs[an]?.getD .nil)).length = sa := ⟨_, rfl⟩
              have hsy2 : (sy : Int) ≤ 2000000 := len_le hsy ((by rw [tx_rd HVT.out]; exact (vld_iff.1 HVT.out).1))
              have hsa2 : (sa : Int) ≤ 2000000 := by have h9 := reg_len (r := an) HSO.out; omega
              have HS1 := Lib.hid (fun q => tsz w5 q _ (.pointer Yt) HNT.out sy hsy)
              have HS2 := Lib.hid (fun q => tsz w5 q _ (.pointer Ra) HNA.out sa hsa)
              have HTOT : Hid ((tot ⟨s.at_ + 1, s.regs.set an (rd tt)⟩ : Int) = (tot s : Int) + ((sy : Int) - (sa : Int))) := Lib.hid (by rw [tot_put HSO.out han, hsy, hsa]; omega)
              have HPK : Hid (PeakS ps (first x) (j + 1) ⟨s.at_ + 1, s.regs.set an (rd tt)⟩ (max m (tot ⟨s.at_ + 1, s.regs.set an (rd tt)⟩ : Int))) := Lib.hid (.succ HP2.out HNE.out (HST.out _ (by rw [stepI_0 _ rfl]; simp [St.put])))
              have HTN := Lib.hid (fun q => (TM.below HT1.out (bdrewN (Below.refl _ _) q)).put HSO.out han (Y := Yt) (NodeW.keep HNT.out (KeepT.drewN _ _ q)) (s.at_ + 1))
              have HBN := Lib.hid (fun q => (bdrewN HB1.out q).setCell (p := ⟨R, an, none⟩) (Nat.le_refl R) (.pointer Yt))
              have bx1 := HBX.out
              have ca5 := HCA.out
              have fa5 := HFA.out
              have hm0 := HMB.out; have ht0 : (tot s : Int) ≤ 64000000 := by have := HTB.out; omega
              have ht1 : (0 : Int) ≤ (tot s : Int) := by omega
              obtain ⟨hm0, hm1⟩ := hm0
              have hsy0 : (0 : Int) ≤ (sy : Int) := by omega
              have hsa0 : (0 : Int) ≤ (sa : Int) := by omega
              generalize tot s = ts at *
              clear hsy hsa
              go_quiet ((go_at_call 49; first | exact Calls.quiet_of_same (HS1.out _) | exact Calls.quiet_of_same (HS2.out _)))
              go_wp2_with fail
              go_roundw
              case rel => exact ⟨j + 1, ⟨s.at_ + 1, s.regs.set an (rd tt)⟩, _, by go_num, int_eq HTOT.out.symm, rfl, by go_num, by omega, Lib.hid (by rw [← HTOT.out]; exact HPK.out), Lib.hid (HTN.out _), Lib.hid (HBN.out _)⟩
              case measure => simp [intOf]; omega
            · simp only at ho hrb hc0 ht0
              subst hc0; subst ht0
              obtain ⟨hb0, hb1⟩ := reg_true hrb
              obtain ⟨bn, rfl⟩ : ∃ bn : Nat, b1 = (bn : Int) := ⟨b1.toNat, by omega⟩
              have hbn : bn < 32 := by omega
              obtain ⟨Rb, cb, hnb⟩ := HT1.out.regs bn hbn
              have HNB := Lib.hid hnb
              have h2b1 : (0 : Int) ≤ (bn : Int) := by omega
              have h2b2 : (bn : Int) < 32 := by omega
              clear hnb hrb hb0 hb1
              have HBX : Hid ((wr.alloc (.cells #[.int .i64 op, .int .i64 (an : Int), .int .i64 (bn : Int), .int .i64 0, .string (S [])] 39)).cell? ⟨wr.heap.size, 1, none⟩ = some (.int .i64 (an : Int))) := Lib.hid (by rw [World.cell?_alloc_new]; rfl)
              have HCA := Lib.hid ca; have HFA := Lib.hid fa
              clear ca fa
              rcases ho with rfl | rfl | rfl
              · go_wp2_with fail
                generalize wr.alloc (.cells _ 39) = w5 at *
                obtain ⟨sy, hsy⟩ : ∃ sy, (tx (s.regs[bn]?.getD .nil)).length = sy := ⟨_, rfl⟩
                obtain ⟨sa, hsa⟩ : ∃ sa, (tx (s.regs[an]?.getD .nil)).length = sa := ⟨_, rfl⟩
                have hsy2 : (sy : Int) ≤ 2000000 := len_le hsy (reg_len (r := bn) HSO.out)
                have hsa2 : (sa : Int) ≤ 2000000 := by have h9 := reg_len (r := an) HSO.out; omega
                have HS1 := Lib.hid (fun q => tsz w5 q _ (.pointer Rb) HNB.out sy hsy)
                have HS2 := Lib.hid (fun q => tsz w5 q _ (.pointer Ra) HNA.out sa hsa)
                have HTOT : Hid ((tot ⟨s.at_ + 1, s.regs.set an (s.regs[bn]?.getD .nil)⟩ : Int) = (tot s : Int) + ((sy : Int) - (sa : Int))) := Lib.hid (by rw [tot_put HSO.out han, hsy, hsa]; omega)
                have HPK : Hid (PeakS ps (first x) (j + 1) ⟨s.at_ + 1, s.regs.set an (s.regs[bn]?.getD .nil)⟩ (max m (tot ⟨s.at_ + 1, s.regs.set an (s.regs[bn]?.getD .nil)⟩ : Int))) := Lib.hid (.succ HP2.out HNE.out (HST.out _ (by rw [stepI_1 _ rfl]; simp [St.put, St.reg])))
                have HTN := Lib.hid (fun q => (TM.below HT1.out (bdrewN (Below.refl _ _) q)).put HSO.out han (Y := Rb) (NodeW.keep HNB.out (KeepT.drewN _ _ q)) (s.at_ + 1))
                have HBN := Lib.hid (fun q => (bdrewN HB1.out q).setCell (p := ⟨R, an, none⟩) (Nat.le_refl R) (.pointer Rb))
                have bx1 := HBX.out
                have ca5 := HCA.out
                have fa5 := HFA.out
                have hm0 := HMB.out; have ht0 : (tot s : Int) ≤ 64000000 := by have := HTB.out; omega
                have ht1 : (0 : Int) ≤ (tot s : Int) := by omega
                obtain ⟨hm0, hm1⟩ := hm0
                have hsy0 : (0 : Int) ≤ (sy : Int) := by omega
                have hsa0 : (0 : Int) ≤ (sa : Int) := by omega
                generalize tot s = ts at *
                clear hsy hsa
                go_quiet ((go_at_call 49; first | exact Calls.quiet_of_same (HS1.out _) | exact Calls.quiet_of_same (HS2.out _)))
                go_wp2_with fail
                go_roundw
                case rel => exact ⟨j + 1, ⟨s.at_ + 1, s.regs.set an (s.regs[bn]?.getD .nil)⟩, _, by go_num, int_eq HTOT.out.symm, rfl, by go_num, by omega, Lib.hid (by rw [← HTOT.out]; exact HPK.out), Lib.hid (HTN.out _), Lib.hid (HBN.out _)⟩
                case measure => simp [intOf]; omega
              · have HRL := Lib.hid (reg_len (r := bn) HSO.out)
                obtain ⟨T0, hT0⟩ : ∃ T0, s.regs[bn]?.getD .nil = T0 := ⟨_, rfl⟩
                have HSTE : Hid (stepI ⟨3, an, bn, 0, []⟩ s = some ⟨s.at_ + 1, s.regs.set an (hdT T0)⟩) := Lib.hid (by rw [stepI_3 _ rfl]; simp [St.put, St.reg, hT0])
                rw [hT0] at HNB HRL
                clear hT0
                cases T0 with
                | nil =>
                  obtain rfl : Rb = none := by have h9 : Value.pointer Rb = .pointer none := HNB.out; injection h9
                  go_wp2_with fail
                  generalize wr.alloc (.cells _ 39) = w5 at *
                  obtain ⟨sy, hsy⟩ : ∃ sy, (tx (hdT .nil)).length = sy := ⟨_, rfl⟩
                  obtain ⟨sa, hsa⟩ : ∃ sa, (tx (s.regs[an]?.getD .nil)).length = sa := ⟨_, rfl⟩
                  have hsy2 : (sy : Int) ≤ 2000000 := len_le hsy (hd_len _ HRL.out)
                  have hsa2 : (sa : Int) ≤ 2000000 := by have h9 := reg_len (r := an) HSO.out; omega
                  have HS1 := Lib.hid (fun q => tsz w5 q _ (.pointer none) (show NodeW 106 w5 Tr.nil (.pointer none) from rfl) sy hsy)
                  have HS2 := Lib.hid (fun q => tsz w5 q _ (.pointer Ra) HNA.out sa hsa)
                  have HTOT : Hid ((tot ⟨s.at_ + 1, s.regs.set an (hdT .nil)⟩ : Int) = (tot s : Int) + ((sy : Int) - (sa : Int))) := Lib.hid (by rw [tot_put HSO.out han, hsy, hsa]; omega)
                  have HPK : Hid (PeakS ps (first x) (j + 1) ⟨s.at_ + 1, s.regs.set an (hdT .nil)⟩ (max m (tot ⟨s.at_ + 1, s.regs.set an (hdT .nil)⟩ : Int))) := Lib.hid (.succ HP2.out HNE.out (HST.out _ HSTE.out))
                  have HTN := Lib.hid (fun q => (TM.below HT1.out (bdrewN (Below.refl _ _) q)).put HSO.out han (Y := none) (NodeW.keep (show NodeW 106 w5 Tr.nil (.pointer none) from rfl) (KeepT.drewN _ _ q)) (s.at_ + 1))
                  have HBN := Lib.hid (fun q => (bdrewN HB1.out q).setCell (p := ⟨R, an, none⟩) (Nat.le_refl R) (.pointer none))
                  have bx1 := HBX.out
                  have ca5 := HCA.out
                  have fa5 := HFA.out
                  have hm0 := HMB.out; have ht0 : (tot s : Int) ≤ 64000000 := by have := HTB.out; omega
                  have ht1 : (0 : Int) ≤ (tot s : Int) := by omega
                  obtain ⟨hm0, hm1⟩ := hm0
                  have hsy0 : (0 : Int) ≤ (sy : Int) := by omega
                  have hsa0 : (0 : Int) ≤ (sa : Int) := by omega
                  generalize tot s = ts at *
                  clear hsy hsa
                  go_quiet ((go_at_call 49; first | exact Calls.quiet_of_same (HS1.out _) | exact Calls.quiet_of_same (HS2.out _)))
                  go_wp2_with fail
                  go_roundw
                  case rel => exact ⟨j + 1, ⟨s.at_ + 1, s.regs.set an (hdT .nil)⟩, _, by go_num, int_eq HTOT.out.symm, rfl, by go_num, by omega, Lib.hid (by rw [← HTOT.out]; exact HPK.out), Lib.hid (HTN.out _), Lib.hid (HBN.out _)⟩
                  case measure => simp [intOf]; omega
                | pair ta tb =>
                  obtain ⟨nB, no, xa, xb, hRb, ⟨_, ca1⟩, ⟨_, cb1⟩, _, na, nb⟩ := HNB.out
                  injection hRb with hRb
                  subst hRb
                  obtain ⟨Xa, rfl⟩ := na.one
                  obtain ⟨Xb, rfl⟩ := nb.one
                  have HNN := Lib.hid na
                  clear na nb cb1
                  go_wp2_with fail
                  generalize wr.alloc (.cells _ 39) = w5 at *
                  obtain ⟨sy, hsy⟩ : ∃ sy, (tx (hdT (.pair ta tb))).length = sy := ⟨_, rfl⟩
                  obtain ⟨sa, hsa⟩ : ∃ sa, (tx (s.regs[an]?.getD .nil)).length = sa := ⟨_, rfl⟩
                  have hsy2 : (sy : Int) ≤ 2000000 := len_le hsy (hd_len _ HRL.out)
                  have hsa2 : (sa : Int) ≤ 2000000 := by have h9 := reg_len (r := an) HSO.out; omega
                  have HS1 := Lib.hid (fun q => tsz w5 q _ (.pointer Xa) HNN.out sy hsy)
                  have HS2 := Lib.hid (fun q => tsz w5 q _ (.pointer Ra) HNA.out sa hsa)
                  have HTOT : Hid ((tot ⟨s.at_ + 1, s.regs.set an (hdT (.pair ta tb))⟩ : Int) = (tot s : Int) + ((sy : Int) - (sa : Int))) := Lib.hid (by rw [tot_put HSO.out han, hsy, hsa]; omega)
                  have HPK : Hid (PeakS ps (first x) (j + 1) ⟨s.at_ + 1, s.regs.set an (hdT (.pair ta tb))⟩ (max m (tot ⟨s.at_ + 1, s.regs.set an (hdT (.pair ta tb))⟩ : Int))) := Lib.hid (.succ HP2.out HNE.out (HST.out _ HSTE.out))
                  have HTN := Lib.hid (fun q => (TM.below HT1.out (bdrewN (Below.refl _ _) q)).put HSO.out han (Y := Xa) (NodeW.keep HNN.out (KeepT.drewN _ _ q)) (s.at_ + 1))
                  have HBN := Lib.hid (fun q => (bdrewN HB1.out q).setCell (p := ⟨R, an, none⟩) (Nat.le_refl R) (.pointer Xa))
                  have bx1 := HBX.out
                  have ca5 := HCA.out
                  have fa5 := HFA.out
                  have hm0 := HMB.out; have ht0 : (tot s : Int) ≤ 64000000 := by have := HTB.out; omega
                  have ht1 : (0 : Int) ≤ (tot s : Int) := by omega
                  obtain ⟨hm0, hm1⟩ := hm0
                  have hsy0 : (0 : Int) ≤ (sy : Int) := by omega
                  have hsa0 : (0 : Int) ≤ (sa : Int) := by omega
                  generalize tot s = ts at *
                  clear hsy hsa
                  go_quiet ((go_at_call 49; first | exact Calls.quiet_of_same (HS1.out _) | exact Calls.quiet_of_same (HS2.out _)))
                  go_wp2_with fail
                  go_roundw
                  case rel => exact ⟨j + 1, ⟨s.at_ + 1, s.regs.set an (hdT (.pair ta tb))⟩, _, by go_num, int_eq HTOT.out.symm, rfl, by go_num, by omega, Lib.hid (by rw [← HTOT.out]; exact HPK.out), Lib.hid (HTN.out _), Lib.hid (HBN.out _)⟩
                  case measure => simp [intOf]; omega
              · have HRL := Lib.hid (reg_len (r := bn) HSO.out)
                obtain ⟨T0, hT0⟩ : ∃ T0, s.regs[bn]?.getD .nil = T0 := ⟨_, rfl⟩
                have HSTE : Hid (stepI ⟨4, an, bn, 0, []⟩ s = some ⟨s.at_ + 1, s.regs.set an (tlT T0)⟩) := Lib.hid (by rw [stepI_4 _ rfl]; simp [St.put, St.reg, hT0])
                rw [hT0] at HNB HRL
                clear hT0
                cases T0 with
                | nil =>
                  obtain rfl : Rb = none := by have h9 : Value.pointer Rb = .pointer none := HNB.out; injection h9
                  go_wp2_with fail
                  generalize wr.alloc (.cells _ 39) = w5 at *
                  obtain ⟨sy, hsy⟩ : ∃ sy, (tx (tlT .nil)).length = sy := ⟨_, rfl⟩
                  obtain ⟨sa, hsa⟩ : ∃ sa, (tx (s.regs[an]?.getD .nil)).length = sa := ⟨_, rfl⟩
                  have hsy2 : (sy : Int) ≤ 2000000 := len_le hsy (tl_len _ HRL.out)
                  have hsa2 : (sa : Int) ≤ 2000000 := by have h9 := reg_len (r := an) HSO.out; omega
                  have HS1 := Lib.hid (fun q => tsz w5 q _ (.pointer none) (show NodeW 106 w5 Tr.nil (.pointer none) from rfl) sy hsy)
                  have HS2 := Lib.hid (fun q => tsz w5 q _ (.pointer Ra) HNA.out sa hsa)
                  have HTOT : Hid ((tot ⟨s.at_ + 1, s.regs.set an (tlT .nil)⟩ : Int) = (tot s : Int) + ((sy : Int) - (sa : Int))) := Lib.hid (by rw [tot_put HSO.out han, hsy, hsa]; omega)
                  have HPK : Hid (PeakS ps (first x) (j + 1) ⟨s.at_ + 1, s.regs.set an (tlT .nil)⟩ (max m (tot ⟨s.at_ + 1, s.regs.set an (tlT .nil)⟩ : Int))) := Lib.hid (.succ HP2.out HNE.out (HST.out _ HSTE.out))
                  have HTN := Lib.hid (fun q => (TM.below HT1.out (bdrewN (Below.refl _ _) q)).put HSO.out han (Y := none) (NodeW.keep (show NodeW 106 w5 Tr.nil (.pointer none) from rfl) (KeepT.drewN _ _ q)) (s.at_ + 1))
                  have HBN := Lib.hid (fun q => (bdrewN HB1.out q).setCell (p := ⟨R, an, none⟩) (Nat.le_refl R) (.pointer none))
                  have bx1 := HBX.out
                  have ca5 := HCA.out
                  have fa5 := HFA.out
                  have hm0 := HMB.out; have ht0 : (tot s : Int) ≤ 64000000 := by have := HTB.out; omega
                  have ht1 : (0 : Int) ≤ (tot s : Int) := by omega
                  obtain ⟨hm0, hm1⟩ := hm0
                  have hsy0 : (0 : Int) ≤ (sy : Int) := by omega
                  have hsa0 : (0 : Int) ≤ (sa : Int) := by omega
                  generalize tot s = ts at *
                  clear hsy hsa
                  go_quiet ((go_at_call 49; first | exact Calls.quiet_of_same (HS1.out _) | exact Calls.quiet_of_same (HS2.out _)))
                  go_wp2_with fail
                  go_roundw
                  case rel => exact ⟨j + 1, ⟨s.at_ + 1, s.regs.set an (tlT .nil)⟩, _, by go_num, int_eq HTOT.out.symm, rfl, by go_num, by omega, Lib.hid (by rw [← HTOT.out]; exact HPK.out), Lib.hid (HTN.out _), Lib.hid (HBN.out _)⟩
                  case measure => simp [intOf]; omega
                | pair ta tb =>
                  obtain ⟨nB, no, xa, xb, hRb, ⟨_, ca1⟩, ⟨_, cb1⟩, _, na, nb⟩ := HNB.out
                  injection hRb with hRb
                  subst hRb
                  obtain ⟨Xa, rfl⟩ := na.one
                  obtain ⟨Xb, rfl⟩ := nb.one
                  have HNN := Lib.hid nb
                  clear na nb ca1
                  go_wp2_with fail
                  generalize wr.alloc (.cells _ 39) = w5 at *
                  obtain ⟨sy, hsy⟩ : ∃ sy, (tx (tlT (.pair ta tb))).length = sy := ⟨_, rfl⟩
                  obtain ⟨sa, hsa⟩ : ∃ sa, (tx (s.regs[an]?.getD .nil)).length = sa := ⟨_, rfl⟩
                  have hsy2 : (sy : Int) ≤ 2000000 := len_le hsy (tl_len _ HRL.out)
                  have hsa2 : (sa : Int) ≤ 2000000 := by have h9 := reg_len (r := an) HSO.out; omega
                  have HS1 := Lib.hid (fun q => tsz w5 q _ (.pointer Xb) HNN.out sy hsy)
                  have HS2 := Lib.hid (fun q => tsz w5 q _ (.pointer Ra) HNA.out sa hsa)
                  have HTOT : Hid ((tot ⟨s.at_ + 1, s.regs.set an (tlT (.pair ta tb))⟩ : Int) = (tot s : Int) + ((sy : Int) - (sa : Int))) := Lib.hid (by rw [tot_put HSO.out han, hsy, hsa]; omega)
                  have HPK : Hid (PeakS ps (first x) (j + 1) ⟨s.at_ + 1, s.regs.set an (tlT (.pair ta tb))⟩ (max m (tot ⟨s.at_ + 1, s.regs.set an (tlT (.pair ta tb))⟩ : Int))) := Lib.hid (.succ HP2.out HNE.out (HST.out _ HSTE.out))
                  have HTN := Lib.hid (fun q => (TM.below HT1.out (bdrewN (Below.refl _ _) q)).put HSO.out han (Y := Xb) (NodeW.keep HNN.out (KeepT.drewN _ _ q)) (s.at_ + 1))
                  have HBN := Lib.hid (fun q => (bdrewN HB1.out q).setCell (p := ⟨R, an, none⟩) (Nat.le_refl R) (.pointer Xb))
                  have bx1 := HBX.out
                  have ca5 := HCA.out
                  have fa5 := HFA.out
                  have hm0 := HMB.out; have ht0 : (tot s : Int) ≤ 64000000 := by have := HTB.out; omega
                  have ht1 : (0 : Int) ≤ (tot s : Int) := by omega
                  obtain ⟨hm0, hm1⟩ := hm0
                  have hsy0 : (0 : Int) ≤ (sy : Int) := by omega
                  have hsa0 : (0 : Int) ≤ (sa : Int) := by omega
                  generalize tot s = ts at *
                  clear hsy hsa
                  go_quiet ((go_at_call 49; first | exact Calls.quiet_of_same (HS1.out _) | exact Calls.quiet_of_same (HS2.out _)))
                  go_wp2_with fail
                  go_roundw
                  case rel => exact ⟨j + 1, ⟨s.at_ + 1, s.regs.set an (tlT (.pair ta tb))⟩, _, by go_num, int_eq HTOT.out.symm, rfl, by go_num, by omega, Lib.hid (by rw [← HTOT.out]; exact HPK.out), Lib.hid (HTN.out _), Lib.hid (HBN.out _)⟩
                  case measure => simp [intOf]; omega
            · simp only at ho hrb hrc ht0
              subst ho; subst ht0
              obtain ⟨hb0, hb1⟩ := reg_true hrb
              obtain ⟨hc0, hc1⟩ := reg_true hrc
              obtain ⟨bn, rfl⟩ : ∃ bn : Nat, b1 = (bn : Int) := ⟨b1.toNat, by omega⟩
              obtain ⟨cn, rfl⟩ : ∃ cn : Nat, c = (cn : Int) := ⟨c.toNat, by omega⟩
              have hbn : bn < 32 := by omega
              have hcn : cn < 32 := by omega
              obtain ⟨Rb, cb, hnb⟩ := HT1.out.regs bn hbn
              obtain ⟨Rc, cc, hnc⟩ := HT1.out.regs cn hcn
              have HNB := Lib.hid hnb; have HNC := Lib.hid hnc
              have h2b1 : (0 : Int) ≤ (bn : Int) := by omega
              have h2b2 : (bn : Int) < 32 := by omega
              have h3b1 : (0 : Int) ≤ (cn : Int) := by omega
              have h3b2 : (cn : Int) < 32 := by omega
              clear hnb hnc hrb hrc hb0 hb1 hc0 hc1
              have HBX : Hid ((wr.alloc (.cells #[.int .i64 2, .int .i64 (an : Int), .int .i64 (bn : Int), .int .i64 (cn : Int), .string (S [])] 39)).cell? ⟨wr.heap.size, 1, none⟩ = some (.int .i64 (an : Int))) := Lib.hid (by rw [World.cell?_alloc_new]; rfl)
              have HBX2 : Hid ((wr.alloc (.cells #[.int .i64 2, .int .i64 (an : Int), .int .i64 (bn : Int), .int .i64 (cn : Int), .string (S [])] 39)).cell? ⟨wr.heap.size, 2, none⟩ = some (.int .i64 (bn : Int))) := Lib.hid (by rw [World.cell?_alloc_new]; rfl)
              have HBX3 : Hid ((wr.alloc (.cells #[.int .i64 2, .int .i64 (an : Int), .int .i64 (bn : Int), .int .i64 (cn : Int), .string (S [])] 39)).cell? ⟨wr.heap.size, 3, none⟩ = some (.int .i64 (cn : Int))) := Lib.hid (by rw [World.cell?_alloc_new]; rfl)
              have HCA := Lib.hid ca; have HFA := Lib.hid fa
              have HCB := Lib.hid cb; have HCC := Lib.hid cc
              clear ca fa
              obtain ⟨TB, hTB⟩ : ∃ TB, s.regs[bn]?.getD .nil = TB := ⟨_, rfl⟩
              obtain ⟨TC, hTC⟩ : ∃ TC, s.regs[cn]?.getD .nil = TC := ⟨_, rfl⟩
              have HLB := Lib.hid (reg_len (r := bn) HSO.out); have HLC := Lib.hid (reg_len (r := cn) HSO.out)
              have HSTE : Hid (stepI ⟨2, an, bn, cn, []⟩ s = if (tx (.pair TB TC)).length ≤ 2000000 then some ⟨s.at_ + 1, s.regs.set an (.pair TB TC)⟩ else none) := Lib.hid (by rw [stepI_2 _ rfl]; simp [St.put, St.reg, hTB, hTC])
              rw [hTB] at HNB HLB
              rw [hTC] at HNC HLC
              clear hTB hTC
              obtain ⟨lb, hlb⟩ : ∃ lb, (tx TB).length = lb := ⟨_, rfl⟩
              obtain ⟨lc, hlc⟩ : ∃ lc, (tx TC).length = lc := ⟨_, rfl⟩
              have hlb2 : (lb : Int) ≤ 2000000 := len_le hlb HLB.out
              have hlc2 : (lc : Int) ≤ 2000000 := len_le hlc HLC.out
              have hlb0 : (0 : Int) ≤ (lb : Int) := by omega
              have hlc0 : (0 : Int) ≤ (lc : Int) := by omega
              have hwr : IntKind.i64.wrap ((lb : Int) + (lc : Int)) = (lb : Int) + (lc : Int) := IntWalk.i64_in _ (by omega)
              have HSB := Lib.hid (fun q => tsz (wr.alloc (.cells #[.int .i64 2, .int .i64 (an : Int), .int .i64 (bn : Int), .int .i64 (cn : Int), .string (S [])] 39)) q _ (.pointer Rb) HNB.out lb hlb)
              have HSC := Lib.hid (fun q => tsz (wr.alloc (.cells #[.int .i64 2, .int .i64 (an : Int), .int .i64 (bn : Int), .int .i64 (cn : Int), .string (S [])] 39)) q _ (.pointer Rc) HNC.out lc hlc)
              have HPL : Hid ((tx (.pair TB TC)).length = 1 + lb + lc) := Lib.hid (by rw [tx_pair, hlb, hlc])
              clear hlb hlc
              go_wp2_with fail
              generalize wr.alloc (.cells _ 39) = w5 at *
              have bx2 := HBX2.out; have bx3 := HBX3.out
              by_cases hz : 2000000 ≤ lb + lc
              · have hz' : (2000000 : Int) ≤ (lb : Int) + (lc : Int) := by omega
                have HPN : Hid (¬ (tx (.pair TB TC)).length ≤ 2000000) := Lib.hid (by rw [HPL.out]; omega)
                go_quiet ((go_at_call 49; first | exact Calls.quiet_of_same (HSB.out _) | exact Calls.quiet_of_same (HSC.out _)))
                go_wp2_with fail
                exact bodyPost_ret (v := .tuple #[.pointer none, .int .i64 (j : Int), .int .i64 2, .int .i64 2000000]) (by simp [results, Try.f82, go_sem]) rfl (by rw [← HQ.out]; exact ⟨by rw [← HRR.out]; exact bdrewN HB1.out _, .inr (.inr ⟨j, s, m, HP2.out, by omega, HNE.out, HSTN.out (by rw [HSTE.out, if_neg HPN.out]), rfl⟩)⟩)
              · have hz' : decide ((2000000 : Int) ≤ (lb : Int) + (lc : Int)) = false := by rw [decide_eq_false_iff_not]; omega
                have HPZ : Hid ((tx (.pair TB TC)).length ≤ 2000000) := Lib.hid (by rw [HPL.out]; omega)
                clear hz
                go_quiet ((go_at_call 49; first | exact Calls.quiet_of_same (HSB.out _) | exact Calls.quiet_of_same (HSC.out _)))
                go_wp2_with fail
                have hk6 := KeepT.drewN 106 w5 nq
                have HPR := Lib.hid (fun W (hb : Below (w5.drewN nq).heap.size (w5.drewN nq) W) => tpair_any W TB TC (.pointer Rb) (.pointer Rc) (NodeW.below (NodeW.keep HNB.out hk6) hb) (NodeW.below (NodeW.keep HNC.out hk6) hb) (by have := HLB.out; omega) (by have := HLC.out; omega))
                have d2 : (w5.drewN nq).cell? ⟨wr.heap.size, 2, none⟩ = some (.int .i64 (bn : Int)) := HBX2.out
                have d3 : (w5.drewN nq).cell? ⟨wr.heap.size, 3, none⟩ = some (.int .i64 (cn : Int)) := HBX3.out
                have db : (w5.drewN nq).cell? ⟨R, bn, none⟩ = some (.pointer Rb) := HCB.out
                have dc : (w5.drewN nq).cell? ⟨R, cn, none⟩ = some (.pointer Rc) := HCC.out
                have HT6 : Hid (TM (w5.drewN nq) R C ps s) := Lib.hid (TM.below HT1.out (bdrewN (Below.refl _ _) nq))
                have HB6 : Hid (Below R w (w5.drewN nq)) := Lib.hid (bdrewN HB1.out nq)
                have HNA6 : Hid (NodeW 106 (w5.drewN nq) (s.regs[an]?.getD .nil) (.pointer Ra)) := Lib.hid (NodeW.keep HNA.out hk6)
                have HCA6 : Hid ((w5.drewN nq).cell? ⟨R, an, none⟩ = some (.pointer Ra)) := HCA
                have HFA6 : Hid ((w5.drewN nq).frozen? ⟨R, an, none⟩ = false) := HFA
                have HBX6 : Hid ((w5.drewN nq).cell? ⟨wr.heap.size, 1, none⟩ = some (.int .i64 (an : Int))) := HBX
                clear hk6 hz' hwr cb cc bx2 bx3
                generalize w5.drewN nq = w6 at *
                have D2 := Lib.hid d2; have D3 := Lib.hid d3; have DB := Lib.hid db; have DC := Lib.hid dc
                clear d2 d3 db dc
                go_region_held3 (fun w' => w'.cell? ⟨wr.heap.size, 2, none⟩ = some (.int .i64 (bn : Int)) ∧ w'.cell? ⟨wr.heap.size, 3, none⟩ = some (.int .i64 (cn : Int)) ∧ w'.cell? ⟨R, bn, none⟩ = some (.pointer Rb) ∧ w'.cell? ⟨R, cn, none⟩ = some (.pointer Rc)) (first | exact ⟨D2.out, D3.out, DB.out, DC.out⟩ | exact ⟨e1, e2, e3, e4⟩ | go_keep)
                  (first | (go_simp; go_at_call 50; refine (HPR.out _ (by first | exact Below.refl _ _ | exact (Below.refl _ _).drew)).mono ?_; rintro e w7 ⟨v7, rfl, hv7, hb7⟩; obtain ⟨V7, rfl⟩ := hv7.one; have e1 := cell_keep hb7 D2.out; have e2 := cell_keep hb7 D3.out; have e3 := cell_keep hb7 DB.out; have e4 := cell_keep hb7 DC.out))
                have hb67 : Below w6.heap.size w6 w7 := (Below.refl _ w6).drew.trans hb7
                have HV7 := Lib.hid hv7
                have HT7 := Lib.hid (HT6.out.below hb67)
                have HB7 : Hid (Below R w w7) := Lib.hid (HB6.out.trans (hb67.mono (by have := HT6.out.tagR.lt; omega)))
                have HNA7 : Hid (NodeW 106 w7 (s.regs[an]?.getD .nil) (.pointer Ra)) := Lib.hid (NodeW.below HNA6.out hb67)
                have HCA7 := Lib.hid (cell_keep hb67 HCA6.out)
                have HFA7 : Hid (w7.frozen? ⟨R, an, none⟩ = false) := Lib.hid (HT7.out.free an)
                have HBX7 := Lib.hid (cell_keep hb67 HBX6.out)
                clear hb67 hb7 hv7 e1 e2 e3 e4
                go_wp2_with fail
                obtain ⟨sy, hsy⟩ : ∃ sy, (tx (.pair TB TC)).length = sy := ⟨_, rfl⟩
                obtain ⟨sa, hsa⟩ : ∃ sa, (tx (s.regs[an]?.getD .nil)).length = sa := ⟨_, rfl⟩
                have hsy2 : (sy : Int) ≤ 2000000 := len_le hsy (HPZ.out)
                have hsa2 : (sa : Int) ≤ 2000000 := by have h9 := reg_len (r := an) HSO.out; omega
                have HS1 := Lib.hid (fun q => tsz w7 q _ (.pointer V7) HV7.out sy hsy)
                have HS2 := Lib.hid (fun q => tsz w7 q _ (.pointer Ra) HNA7.out sa hsa)
                have HTOT : Hid ((tot ⟨s.at_ + 1, s.regs.set an (.pair TB TC)⟩ : Int) = (tot s : Int) + ((sy : Int) - (sa : Int))) := Lib.hid (by rw [tot_put HSO.out han, hsy, hsa]; omega)
                have HPK : Hid (PeakS ps (first x) (j + 1) ⟨s.at_ + 1, s.regs.set an (.pair TB TC)⟩ (max m (tot ⟨s.at_ + 1, s.regs.set an (.pair TB TC)⟩ : Int))) := Lib.hid (.succ HP2.out HNE.out (HST.out _ (by rw [HSTE.out, if_pos HPZ.out])))
                have HTN := Lib.hid (fun q => (TM.below HT7.out (bdrewN (Below.refl _ _) q)).put HSO.out han (Y := V7) (NodeW.keep HV7.out (KeepT.drewN _ _ q)) (s.at_ + 1))
                have HBN := Lib.hid (fun q => (bdrewN HB7.out q).setCell (p := ⟨R, an, none⟩) (Nat.le_refl R) (.pointer V7))
                have bx1 := HBX7.out
                have ca5 := HCA7.out
                have fa5 := HFA7.out
                have hm0 := HMB.out; have ht0 : (tot s : Int) ≤ 64000000 := by have := HTB.out; omega
                have ht1 : (0 : Int) ≤ (tot s : Int) := by omega
                obtain ⟨hm0, hm1⟩ := hm0
                have hsy0 : (0 : Int) ≤ (sy : Int) := by omega
                have hsa0 : (0 : Int) ≤ (sa : Int) := by omega
                generalize tot s = ts at *
                clear hsy hsa
                go_quiet ((go_at_call 49; first | exact Calls.quiet_of_same (HS1.out _) | exact Calls.quiet_of_same (HS2.out _)))
                go_wp2_with fail
                go_roundw
                case rel => exact ⟨j + 1, ⟨s.at_ + 1, s.regs.set an (.pair TB TC)⟩, _, by go_num, int_eq HTOT.out.symm, rfl, by go_num, by omega, Lib.hid (by rw [← HTOT.out]; exact HPK.out), Lib.hid (HTN.out _), Lib.hid (HBN.out _)⟩
                case measure => simp [intOf]; omega
            · simp only at ho hc0 ht0 hj1 hj2
              subst ho; subst hc0; subst ht0
              have HBX : Hid ((wr.alloc (.cells #[.int .i64 5, .int .i64 (an : Int), .int .i64 b1, .int .i64 0, .string (S [])] 39)).cell? ⟨wr.heap.size, 1, none⟩ = some (.int .i64 (an : Int))) := Lib.hid (by rw [World.cell?_alloc_new]; rfl)
              have hb4 : (-4000 : Int) ≤ b1 ∧ b1 ≤ 4000 := by have := HN.out; omega
              obtain ⟨hb5, hb6⟩ := hb4
              have hsame : s.regs.set an (s.regs[an]?.getD .nil) = s.regs := by
                have hl9 : an < s.regs.length := by rw [HSO.out.2.1]; exact han
                rw [List.getElem?_eq_getElem hl9]; simp
              have HSAME := Lib.hid hsame
              have hregA : s.reg (an : Int) = s.regs[an]?.getD .nil := by simp [St.reg]
              obtain ⟨T0, hT0⟩ : ∃ T0, s.regs[an]?.getD .nil = T0 := ⟨_, rfl⟩
              have HRA2 : Hid (s.reg (an : Int) = T0) := Lib.hid (by rw [hregA, hT0])
              have HNA2 := HNA
              rw [hT0] at HNA2
              have HT00 := Lib.hid hT0
              clear hsame hregA hT0
              have hs40 : (s.at_ : Int) ≤ 4000 := by omega
              cases T0 with
              | nil =>
                obtain rfl : Ra = none := by have h9 : Value.pointer Ra = .pointer none := HNA2.out; injection h9
                have HCA := Lib.hid ca; have HFA := Lib.hid fa
                go_wp2_with fail
                generalize wr.alloc (.cells _ 39) = w5 at *
                obtain ⟨sy, hsy⟩ : ∃ sy, (tx (s.regs[an]?.getD .nil)).length = sy := ⟨_, rfl⟩
                obtain ⟨sa, hsa⟩ : ∃ sa, (tx (s.regs[an]?.getD .nil)).length = sa := ⟨_, rfl⟩
                have hsy2 : (sy : Int) ≤ 2000000 := len_le hsy (reg_len (r := an) HSO.out)
                have hsa2 : (sa : Int) ≤ 2000000 := by have h9 := reg_len (r := an) HSO.out; omega
                have HS1 := Lib.hid (fun q => tsz w5 q _ (.pointer none) HNA.out sy hsy)
                have HTOT : Hid ((tot ⟨s.at_ + 1, s.regs.set an (s.regs[an]?.getD .nil)⟩ : Int) = (tot s : Int)) := Lib.hid (by rw [tot_put HSO.out han]; omega)
                have HPK : Hid (PeakS ps (first x) (j + 1) ⟨s.at_ + 1, s.regs.set an (s.regs[an]?.getD .nil)⟩ (max m (tot ⟨s.at_ + 1, s.regs.set an (s.regs[an]?.getD .nil)⟩ : Int))) := Lib.hid (.succ HP2.out HNE.out (HST.out _ (by rw [stepI_5 _ rfl, if_pos HRA2.out, HSAME.out])))
                have HTN := Lib.hid (fun q => (TM.below HT1.out (bdrewN (Below.refl _ _) q)).put HSO.out han (Y := none) (NodeW.keep HNA.out (KeepT.drewN _ _ q)) (s.at_ + 1))
                have HBN := Lib.hid (fun q => (bdrewN HB1.out q).setCell (p := ⟨R, an, none⟩) (Nat.le_refl R) (.pointer none))
                have bx1 := HBX.out
                have ca5 := HCA.out
                have fa5 := HFA.out
                have hm0 := HMB.out; have ht0 : (tot s : Int) ≤ 64000000 := by have := HTB.out; omega
                have ht1 : (0 : Int) ≤ (tot s : Int) := by omega
                obtain ⟨hm0, hm1⟩ := hm0
                have hsy0 : (0 : Int) ≤ (sy : Int) := by omega
                have hsa0 : (0 : Int) ≤ (sa : Int) := by omega
                generalize tot s = ts at *
                clear hsy hsa
                go_quiet ((go_at_call 49; exact Calls.quiet_of_same (HS1.out _)))
                go_wp2_with fail
                go_roundw
                case rel => exact ⟨j + 1, ⟨s.at_ + 1, s.regs.set an (s.regs[an]?.getD .nil)⟩, _, by go_num, int_eq HTOT.out.symm, rfl, by go_num, by omega, Lib.hid (by rw [← HTOT.out]; exact HPK.out), Lib.hid (HTN.out _), Lib.hid (HBN.out _)⟩
                case measure => simp [intOf]; omega
              | pair ta tb =>
                obtain ⟨nB, no, xa, xb, hRb, _⟩ := HNA2.out
                injection hRb with hRb
                subst hRb
                have HCA := Lib.hid ca; have HFA := Lib.hid fa
                go_wp2_with fail
                generalize wr.alloc (.cells _ 39) = w5 at *
                obtain ⟨sy, hsy⟩ : ∃ sy, (tx (s.regs[an]?.getD .nil)).length = sy := ⟨_, rfl⟩
                obtain ⟨sa, hsa⟩ : ∃ sa, (tx (s.regs[an]?.getD .nil)).length = sa := ⟨_, rfl⟩
                have hsy2 : (sy : Int) ≤ 2000000 := len_le hsy (reg_len (r := an) HSO.out)
                have hsa2 : (sa : Int) ≤ 2000000 := by have h9 := reg_len (r := an) HSO.out; omega
                have HS1 := Lib.hid (fun q => tsz w5 q _ (.pointer (some ⟨nB, no, none⟩)) HNA.out sy hsy)
                have HTOT : Hid ((tot ⟨((s.at_ : Int) + b1).toNat, s.regs.set an (s.regs[an]?.getD .nil)⟩ : Int) = (tot s : Int)) := Lib.hid (by rw [tot_put HSO.out han]; omega)
                have HPK : Hid (PeakS ps (first x) (j + 1) ⟨((s.at_ : Int) + b1).toNat, s.regs.set an (s.regs[an]?.getD .nil)⟩ (max m (tot ⟨((s.at_ : Int) + b1).toNat, s.regs.set an (s.regs[an]?.getD .nil)⟩ : Int))) := Lib.hid (.succ HP2.out HNE.out (HST.out _ (by rw [stepI_5 _ rfl, if_neg (by rw [HRA2.out]; simp), HSAME.out])))
                have HTN := Lib.hid (fun q => (TM.below HT1.out (bdrewN (Below.refl _ _) q)).put HSO.out han (Y := (some ⟨nB, no, none⟩)) (NodeW.keep HNA.out (KeepT.drewN _ _ q)) (((s.at_ : Int) + b1).toNat))
                have HBN := Lib.hid (fun q => (bdrewN HB1.out q).setCell (p := ⟨R, an, none⟩) (Nat.le_refl R) (.pointer (some ⟨nB, no, none⟩)))
                have bx1 := HBX.out
                have ca5 := HCA.out
                have fa5 := HFA.out
                have hm0 := HMB.out; have ht0 : (tot s : Int) ≤ 64000000 := by have := HTB.out; omega
                have ht1 : (0 : Int) ≤ (tot s : Int) := by omega
                obtain ⟨hm0, hm1⟩ := hm0
                have hsy0 : (0 : Int) ≤ (sy : Int) := by omega
                have hsa0 : (0 : Int) ≤ (sa : Int) := by omega
                generalize tot s = ts at *
                clear hsy hsa
                go_quiet ((go_at_call 49; exact Calls.quiet_of_same (HS1.out _)))
                go_wp2_with fail
                go_roundw
                case rel => exact ⟨j + 1, ⟨((s.at_ : Int) + b1).toNat, s.regs.set an (s.regs[an]?.getD .nil)⟩, _, int_eq (by dsimp only; omega), int_eq HTOT.out.symm, rfl, by go_num, by omega, Lib.hid (by rw [← HTOT.out]; exact HPK.out), Lib.hid (HTN.out _), Lib.hid (HBN.out _)⟩
                case measure => simp [intOf]; omega
end Go.Proofs.Ytmhoacnbmbhcjab
