/- WriteByte and WriteString of a builder that is in use: what they leave alone. By an AI agent. -/
import Derived.Test.YtpiahjbpidcjpaaRText
import Derived.Test.YtpiahjbpidcjpaaList
namespace Go.Proofs.Ytpiahjbpidcjpaa
open Go.RowKit Pl

theorem own_keepT {w w' : World} {base n : Nat} {e : TypeId} {size : Nat} {v : Value} {xs : List Value} (h : w.ownsRow base e size v n xs) (hk : KeepT e w w') : w'.ownsRow base e size v n xs := by
  refine ⟨h.1, ?_⟩
  rcases h.2 with h0 | ⟨g, cap, cur, hv, hb, hg, rest⟩
  · exact .inl h0
  · exact .inr ⟨g, cap, cur, hv, hb, by rw [hk.block g ⟨cur, _, hg⟩, hg], rest⟩
theorem Try.infoBld : (Try.prog.info? 160).map (fun i => i.size) = some 2 := by kernel_rfl
/-- all blocks but those of builders and of bytes are as they were -/
def KeepB (w w' : World) : Prop := ∀ τ : TypeId, τ ≠ 160 → τ ≠ 5 → KeepT τ w w'
theorem KeepB.trans {a b c : World} (h : KeepB a b) (k : KeepB b c) : KeepB a c := fun τ h1 h2 => (h τ h1 h2).trans (k τ h1 h2)
set_option maxHeartbeats 400000 in
set_option maxRecDepth 100000 in
theorem copyCheck_used (b : Nat) (w : World) (h : w.cell? ⟨b, 0, none⟩ = some (.pointer (some ⟨b, 0, none⟩))) :
    Calls Try.prog 132 #[.pointer (some ⟨b, 0, none⟩)] w fun e w' => e = .returned (.tuple #[]) ∧ w = w' := by
  obtain ⟨j, hj, _⟩ := Option.map_eq_some_iff.1 Try.infoBld
  go_enter Try.func132, Try.ntmps132
  go_wp2
  rw [Lib.run_neq_ptr_same w _ Try.underlying157 hj]
  go_wp2
  go_end0
  exact ⟨rfl, rfl⟩

abbrev BAt (B b : Nat) (l : List UInt8) (w : World) : Prop := Lib.BuilderAt 160 5 B b (.pointer (some ⟨b, 0, none⟩)) (Lib.byteCells l) w
set_option maxHeartbeats 1600000 in
set_option maxRecDepth 100000 in
theorem WriteByte_own (B b : Nat) (l : List UInt8) (c : UInt8) (w : World) (h : BAt B b l w) (hlen : l.length + 1 ≤ 140737488355328) (hBw : B ≤ w.heap.size) :
    Calls Try.prog 117 #[.pointer (some ⟨b, 0, none⟩), .int .u8 (c.toNat : Int)] w fun e w' => e = .returned .nilIface ∧ BAt B b (l ++ [c]) w' ∧ Below B w w' ∧ KeepB w w' := by
  obtain ⟨i0, hi, hz0, hz1, hz2⟩ := info_parts Try.infoByte
  obtain ⟨hB, v, hbk, hown, hne⟩ := h
  have c0 : w.cell? ⟨b, 0, none⟩ = some (.pointer (some ⟨b, 0, none⟩)) := by rw [Lib.cell_of_heap hbk]; rfl
  have c1 : w.cell? ⟨b, 1, none⟩ = some v := by rw [Lib.cell_of_heap hbk]; rfl
  have HC := Lib.hid (copyCheck_used b w c0)
  rw [Lib.byteCells_length] at hown
  obtain ⟨n, hn⟩ : ∃ n, n = l.length := ⟨_, rfl⟩
  rw [← hn] at hown hlen
  have HN := Lib.hid hn; have HBK := Lib.hid hbk; have HNE := Lib.hid hne
  clear hn hbk hne
  go_enter Try.func117, Try.ntmps117
  go_wp2_with fail
  refine HC.out.mono ?_
  rintro e w1 ⟨rfl, rfl⟩
  go_wp2_with (at_builtin; refine wpList_append_own _ rfl _ _ 158 rfl B 5 i0 (.int .u8 0) 1 1 Try.underlying158 hi hz0 hz1 hz2 rfl (by decide) _ _ _ rfl (hown.alloc _) ⟨w.heap.size, 0, none⟩ 1 1 [.int .u8 (c.toNat : Int)] rfl rfl ?c1 ?c2 ?c3 ?c4 ?c5 ?_)
  case c1 =>
    intro j u hj
    match j, hj with
    | 0, hj => simp at hj; subst hj; simp [Addr.add]
  case c2 => intro u hu; simp at hu; subst hu; rfl
  case c3 => unfold maxLen; omega
  case c4 => omega
  case c5 => simp; omega
  intro v' w2 hown' hgrow _
  have hlt : b < w.heap.size := (Array.getElem?_eq_some_iff.1 HBK.out).1
  have hb2 : w2.heap[b]? = some (.cells #[.pointer (some ⟨b, 0, none⟩), v] 160 (0, 0)) := by
    rw [hgrow.block b (by simp; omega) (fun e => HNE.out e.symm), Lib.alloc_old w _ b hlt]
    exact HBK.out
  have d0 : w2.cell? ⟨b, 0, none⟩ = some (.pointer (some ⟨b, 0, none⟩)) := by rw [Lib.cell_of_heap hb2]; rfl
  have d1 : w2.cell? ⟨b, 1, none⟩ = some v := by rw [Lib.cell_of_heap hb2]; rfl
  have f1 : w2.frozen? ⟨b, 1, none⟩ = false := Lib.frozen_of_heap hb2 1
  have HK : Hid (KeepB w (w2.setCell ⟨b, 1, none⟩ v')) := Lib.hid (fun τ h1 h2 => ((KeepT.alloc τ w _).trans (app_keep (hown.alloc _) hgrow (Ne.symm h2))).trans (KeepT.setCell (TagB.ne ⟨_, _, hb2⟩ (Ne.symm h1)) _))
  have HB2 := Lib.hid (((((Below.refl B w).alloc hBw _).grown hgrow (by simp; omega) (fun k hk => (hown.lt k hk).1))).setCell (p := ⟨b, 1, none⟩) hB v')
  have HO2 := Lib.hid hown'
  have HH := Lib.hid hb2
  obtain ⟨g, cap, rfl⟩ : ∃ g cap, v' = .slice (some ⟨g, 0, none⟩) (n + 1) cap := by
    rcases hown'.2 with ⟨_, h0⟩ | ⟨g, cap, cur, hv, _⟩
    · omega
    · exact ⟨g, cap, hv⟩
  clear hown' hgrow hb2 c0 c1
  go_wp2
  go_ret
  refine ⟨rfl, ?_, HB2.out, HK.out⟩
  exact Lib.BuilderAt.put (T := 160) (e := 5) hB HH.out (bs' := Lib.byteCells (l ++ [c])) (by have h9 := HO2.out; rw [Lib.byteCells_length, List.length_append, ← HN.out, Lib.byteCells_append]; exact h9) (by decide)
set_option maxHeartbeats 1600000 in
set_option maxRecDepth 100000 in
theorem WriteString_own (B b : Nat) (l s : List UInt8) (w : World) (h : BAt B b l w) (hlen : l.length + s.length ≤ 140737488355328) (hBw : B ≤ w.heap.size) :
    Calls Try.prog 118 #[.pointer (some ⟨b, 0, none⟩), .string (S s)] w fun e w' => e = .returned (.tuple #[.int .i64 s.length, .nilIface]) ∧ BAt B b (l ++ s) w' ∧ Below B w w' ∧ KeepB w w' := by
  obtain ⟨i0, hi, hz0, hz1, hz2⟩ := info_parts Try.infoByte
  obtain ⟨hB, v, hbk, hown, hne⟩ := h
  have c0 : w.cell? ⟨b, 0, none⟩ = some (.pointer (some ⟨b, 0, none⟩)) := by rw [Lib.cell_of_heap hbk]; rfl
  have c1 : w.cell? ⟨b, 1, none⟩ = some v := by rw [Lib.cell_of_heap hbk]; rfl
  have HC := Lib.hid (copyCheck_used b w c0)
  rw [Lib.byteCells_length] at hown
  obtain ⟨n, hn⟩ : ∃ n, n = l.length := ⟨_, rfl⟩
  rw [← hn] at hown hlen
  have hss : (S s).size = s.length := S_size s
  rw [← hss] at hlen ⊢
  have HSS := Lib.hid hss; clear hss
  have hst : Lib.strCells (S s) = Lib.byteCells s := rfl
  have HST := Lib.hid hst; clear hst
  generalize S s = σ at *
  have HN := Lib.hid hn; have HBK := Lib.hid hbk; have HNE := Lib.hid hne
  clear hn hbk hne
  go_enter Try.func118, Try.ntmps118
  go_wp2_with fail
  refine HC.out.mono ?_
  rintro e w1 ⟨rfl, rfl⟩
  go_wp2_with (at_builtin; refine Lib.wpList_append_own_string _ rfl _ _ 158 9 rfl B 5 i0 Try.underlying158 Try.underlying9 hi hz0 hz1 hz2 _ _ _ rfl hown σ rfl ?c3 ?c4 ?c5 ?_)
  case c3 => unfold maxLen; omega
  case c4 => omega
  case c5 => omega
  intro v' w2 hown' hgrow _
  have hlt : b < w.heap.size := (Array.getElem?_eq_some_iff.1 HBK.out).1
  have hb2 : w2.heap[b]? = some (.cells #[.pointer (some ⟨b, 0, none⟩), v] 160 (0, 0)) := by
    rw [hgrow.block b hlt (fun e => HNE.out e.symm)]
    exact HBK.out
  have d0 : w2.cell? ⟨b, 0, none⟩ = some (.pointer (some ⟨b, 0, none⟩)) := by rw [Lib.cell_of_heap hb2]; rfl
  have d1 : w2.cell? ⟨b, 1, none⟩ = some v := by rw [Lib.cell_of_heap hb2]; rfl
  have f1 : w2.frozen? ⟨b, 1, none⟩ = false := Lib.frozen_of_heap hb2 1
  have HK : Hid (KeepB w (w2.setCell ⟨b, 1, none⟩ v')) := Lib.hid (fun τ h1 h2 => (app_keep hown hgrow (Ne.symm h2)).trans (KeepT.setCell (TagB.ne ⟨_, _, hb2⟩ (Ne.symm h1)) _))
  have HB2 := Lib.hid ((((Below.refl B w).grown hgrow hBw (fun k hk => (hown.lt k hk).1))).setCell (p := ⟨b, 1, none⟩) hB v')
  have HO2 := Lib.hid hown'
  have HH := Lib.hid hb2
  obtain ⟨ao, n', cap, rfl⟩ : ∃ ao n' cap, v' = .slice ao n' cap := by
    rcases hown'.2 with ⟨hv, _⟩ | ⟨g, cap, cur, hv, _⟩
    · exact ⟨_, _, _, hv⟩
    · exact ⟨_, _, _, hv⟩
  clear hown' hgrow hb2 c0 c1
  go_wp2
  go_ret2
  refine ⟨rfl, ?_, HB2.out, HK.out⟩
  exact Lib.BuilderAt.put (T := 160) (e := 5) hB HH.out (bs' := Lib.byteCells (l ++ s)) (by have h9 := HO2.out; rw [Lib.byteCells_length, List.length_append, ← HN.out, ← HSS.out, Lib.byteCells_append, ← HST.out]; exact h9) (by decide)
/-- how many bytes a builder holds -/
def bldLen (b : Nat) (w : World) : Nat := sliceLen ((w.cell? ⟨b, 1, none⟩).getD .nilFunc)
theorem bldLen_of {B b : Nat} {l : List UInt8} {w : World} (h : BAt B b l w) : bldLen b w = l.length := by
  obtain ⟨hB, v, hbk, hown, hne⟩ := h
  have c1 : w.cell? ⟨b, 1, none⟩ = some v := by rw [Lib.cell_of_heap hbk]; rfl
  unfold bldLen
  rw [c1]
  show sliceLen v = _
  rw [own_len hown, Lib.byteCells_length]
theorem bat_keep {B b : Nat} {l : List UInt8} {w w' : World} (h : BAt B b l w) (h1 : KeepT 160 w w') (h2 : KeepT 5 w w') : BAt B b l w' := by
  obtain ⟨hB, v, hbk, hown, hne⟩ := h
  exact ⟨hB, v, by rw [h1.block b ⟨_, _, hbk⟩, hbk], own_keepT hown h2, hne⟩

set_option maxHeartbeats 3200000 in
set_option maxRecDepth 100000 in
theorem text_any (t : Tr) (v : Value) (w : World) (hn : NodeW 151 w t v) (hl : (tx t).length ≤ 2000000) :
    Calls Try.prog 73 #[v] w fun e w' => e = .returned (.string (S (tx t))) ∧ Below w.heap.size w w' := by
  obtain ⟨i0, hi, hz0, hz1, hz2⟩ := info_parts Try.infoNode
  have HSZ := Lib.hid (fun W h => size_any 151 W t v h)
  have HN := Lib.hid hn
  obtain ⟨V, rfl⟩ := hn.one
  clear hn
  obtain ⟨m, hm⟩ : ∃ m, m = (tx t).length := ⟨_, rfl⟩
  rw [← hm] at hl HSZ
  have HM := Lib.hid hm; clear hm
  obtain ⟨N, hNN⟩ : ∃ N, N = w.heap.size := ⟨_, rfl⟩
  have HNN := Lib.hid hNN
  go_enter Try.func73, Try.ntmps73
  go_wp2_with fail
  refine (HSZ.out _ (NodeW.keep HN.out (KeepT.alloc _ _ _))).mono ?_
  rintro e w' ⟨rfl, rfl⟩
  have HBK := Lib.hid (heap_alloc_new w (.cells #[.pointer none, .slice none 0 0] 160))
  go_wp2_with (go_at_call 116; refine (Try.Builder_Grow_fresh w.heap.size w.heap.size m _ (Nat.le_refl _) HBK.out (by simp) (by omega)).mono ?_; rintro e w0 ⟨rfl, hB0, hb0⟩)
  have hBA : BAt w.heap.size w.heap.size [] w0 := hB0
  have hbw0 : Below w.heap.size w w0 := ((Below.refl _ w).alloc (Nat.le_refl _) _).trans hb0
  have hsz0 := hbw0.size
  have hk0 : KeepT 160 w0 (w0.alloc (.cells #[.pointer V] 103)) := KeepT.alloc _ _ _
  have hk1 : KeepT 5 w0 (w0.alloc (.cells #[.pointer V] 103)) := KeepT.alloc _ _ _
  have HBA := Lib.hid (bat_keep hBA hk0 hk1)
  have HBW := Lib.hid (hbw0.alloc hsz0 (.cells #[.pointer V] 103))
  have HSS := Lib.hid (NodeW.below HN.out (hbw0.alloc hsz0 (.cells #[.pointer V] 103)))
  have HLL := Lib.hid (own_one w0 w.heap.size 103 (.pointer V) hsz0)
  clear hBA hbw0 hk0 hk1 hB0 hb0 HN HSZ HBK hsz0
  rw [← hNN] at HBA HBW HLL ⊢
  clear hNN
  go_loopw [4] (fun l wr => ∃ (pre : List UInt8) (ts : List Tr) (vs : List Value), Hid (BAt N N pre wr) ∧ Hid (pre ++ txs ts = tx t) ∧ Hid (Stk (CellsAt 151 wr) ts vs) ∧ wr.ownsRow N 103 1 l vs.length vs.reverse ∧ Below N w wr) (fun _ wr => m - bldLen N wr)
  case atStart => exact ⟨[], [t], [.pointer V], HBA, Lib.hid (by simp [txs]), Lib.hid ⟨HSS.out, trivial⟩, HLL.out, HBW.out⟩
  case round =>
    clear HBA HLL HBW HSS
    obtain ⟨pre, ts, vs, HBA, HT, HS, hst, hbw⟩ := hrel
    have hsz := hbw.size
    have hBw : N ≤ wr.heap.size := by have := HNN.out; omega
    have hlen : pre.length + (txs ts).length = m := by rw [HM.out, ← HT.out, List.length_append]
    have hvl : vs.length ≤ 2000000 := by have h1 := HS.out.len; have h2 := txs_len ts; omega
    cases ts with
    | nil =>
      obtain rfl : vs = [] := List.length_eq_zero_iff.1 HS.out.len
      obtain ⟨sa, sc, rfl⟩ := own_zero hst
      have hI : Lib.IsBuilder 160 5 N N (Lib.byteCells (tx t)) wr := by
        have h1 := HT.out
        rw [txs_nil, List.append_nil] at h1
        rw [← h1]; exact Or.inr HBA.out
      have HI := Lib.hid (Try.Builder_String_any N N (tx t) wr hI hBw)
      clear hI hst HBA HT HS hlen
      go_wp2_with fail
      refine HI.out.mono ?_
      rintro e w2 ⟨rfl, hb2⟩
      go_wp2_with fail
      go_ret
      exact ⟨rfl, by rw [← HNN.out]; exact hbw.trans hb2⟩
    | cons t1 ts =>
      obtain ⟨x, u, rfl, hx, hu⟩ := HS.out.up
      obtain ⟨g, cap, rfl, _, hcap, hg0, hg, cell1, own1⟩ := own_top (ys := u.reverse) (x := x) hst (by rw [List.reverse_cons])
      rw [List.length_reverse] at hcap cell1 own1 ⊢
      rw [List.length_cons] at hvl
      have OWN := Lib.hid own1
      have HX := Lib.hid hx; have HU := Lib.hid hu
      obtain ⟨X, rfl⟩ := hx.one
      have HBL := Lib.hid (bldLen_of HBA.out)
      clear own1 hst hx hu HS hlen
      generalize hqn : u.length = q at *
      have HQ := Lib.hid hqn; clear hqn
      have hq1 : (0 : Int) < (q : Int) + 1 := by omega
      obtain ⟨wo, rfl⟩ : ∃ wo : World, wo = wr := ⟨_, rfl⟩
      go_wp2_with fail
      go_loopw [4, 6] (fun l x W => ∃ (pre1 : List UInt8) (t2 : Tr) (ts : List Tr) (vs : List Value), Hid (pre.length ≤ pre1.length) ∧ Hid (BAt N N pre1 W) ∧ Hid (pre1 ++ txs (t2 :: ts) = tx t) ∧ Hid (NodeW 151 W t2 x) ∧ Hid (Stk (CellsAt 151 W) ts vs) ∧ W.ownsRow N 103 1 l vs.length vs.reverse ∧ Below N w W) (fun _ _ W => m - bldLen N W)
      case atStart => exact ⟨pre, t1, ts, u, Lib.hid (Nat.le_refl _), HBA, HT, HX, HU, by rw [HQ.out]; exact OWN.out, hbw⟩
      case round =>
        clear HBA HT HX HU OWN hbw HQ cell1 hcap hq1 hg0 hg hvl hsz hBw
        obtain ⟨pre1, t2, ts2, vs, HP, HBA, HT, HX, HS, hst, hbw⟩ := hrel
        have hBw : N ≤ wr.heap.size := by have := HNN.out; have := hbw.size; omega
        have HBL1 := Lib.hid (bldLen_of HBA.out)
        cases t2 with
        | nil =>
          have hx0 : u6 = .pointer none := HX.out
          subst hx0
          have hlen : pre1.length + 1 + (txs ts2).length = m := by
            have h1 := congrArg List.length HT.out
            rw [List.length_append, txs_cons, List.length_append, ← HM.out] at h1
            simp only [tx, List.length_cons, List.length_nil] at h1
            omega
          have HT1 : Hid ((pre1 ++ [48]) ++ txs ts2 = tx t) := Lib.hid (by rw [← HT.out, txs_cons]; simp [tx])
          have HW := Lib.hid (WriteString_own N N pre1 [48] wr HBA.out (by simp; omega) hBw)
          clear HX HT HBA
          go_wp2_with fail
          refine HW.out.mono ?_
          rintro e w2 ⟨rfl, h1, h2, h3⟩
          have HB2 := Lib.hid h1
          have HK := Lib.hid (h3 103 (by decide) (by decide))
          have HKN := Lib.hid (h3 151 (by decide) (by decide))
          have HBL2 := Lib.hid (bldLen_of h1)
          have hb2 := hbw.trans h2
          have HST := Lib.hid hst
          clear h1 h2 h3 hbw hst HW
          go_wp2_with fail
          go_roundw
          case rel => exact ⟨pre1 ++ [48], ts2, vs, HB2, HT1, Lib.hid (HS.out.keep HKN.out), own_keepT HST.out HK.out, hb2⟩
          case measure => rw [HBL2.out, HBL.out, List.length_append]; have := HP.out; simp; omega
        | pair a b =>
          obtain ⟨B, o, xa, xb, hx0, ca, cb, _, na, nb⟩ := HX.out
          subst hx0
          obtain ⟨Xa, rfl⟩ := na.one
          obtain ⟨Xb, rfl⟩ := nb.one
          have hlen : pre1.length + 1 + (tx a).length + (tx b).length + (txs ts2).length = m := by
            have h1 := congrArg List.length HT.out
            rw [List.length_append, txs_cons, List.length_append, ← HM.out, tx_pair] at h1
            omega
          have hq2 : vs.length + 1 ≤ 2000000 := by
            have h3 := txs_len ts2
            have h4 := HS.out.len
            have := tx_pos a
            omega
          have HT1 : Hid ((pre1 ++ [49]) ++ txs (a :: b :: ts2) = tx t) := Lib.hid (by rw [← HT.out, txs_cons, txs_cons, txs_cons]; simp [tx])
          have HW := Lib.hid (WriteByte_own N N pre1 49 wr HBA.out (by omega) hBw)
          have CA := Lib.hid ca; have CB := Lib.hid cb; have NA := Lib.hid na; have NB := Lib.hid nb
          have hlt : pre1.length < m := by omega
          clear HX HT HBA ca cb na nb hlen
          go_wp2_with fail
          refine HW.out.mono ?_
          rintro e w2 ⟨rfl, h1, h2, h3⟩
          have hkn := h3 151 (by decide) (by decide)
          have hst2 := own_keepT hst (h3 103 (by decide) (by decide))
          have HB2 := Lib.hid h1
          have hb2 := hbw.trans h2
          have hBw2 : N ≤ w2.heap.size := by have := h2.size; omega
          have CA2 := Lib.hid (CA.out.keep hkn)
          have NA2 := Lib.hid (NodeW.keep NA.out hkn)
          have NB2 := Lib.hid (NodeW.keep NB.out hkn)
          have HS2 := Lib.hid (HS.out.keep hkn)
          have kb := (CB.out.keep hkn).2
          clear h1 h2 h3 hkn hst hbw CA CB NA NB HS HW
          go_wp2_with (at_builtin; refine wpList_append_own _ rfl _ _ 102 rfl N 103 i0 (.pointer none) 1 8 Try.underlying102 hi hz0 hz1 hz2 rfl (by decide) _ _ _ rfl (hst2.alloc _) ⟨w2.heap.size, 0, none⟩ 1 1 [.pointer Xb] rfl rfl ?c1 ?c2 ?c3 ?c4 ?c5 ?_)
          case c1 =>
            intro t u ht
            match t, ht with
            | 0, ht => simp at ht; subst ht; simp [Addr.add]
          case c2 => intro u hu; simp at hu; subst hu; rfl
          case c3 => unfold maxLen; omega
          case c4 => omega
          case c5 => simp; omega
          intro v' w3 hown' hgrow _
          have hb3 : Below N w w3 := app_below hb2 hBw2 hst2 hgrow
          have hkn3 := (KeepT.alloc 151 w2 _).trans (app_keep (hst2.alloc _) hgrow (by decide))
          have hkb3 := (KeepT.alloc 160 w2 _).trans (app_keep (hst2.alloc _) hgrow (by decide))
          have hku3 := (KeepT.alloc 5 w2 _).trans (app_keep (hst2.alloc _) hgrow (by decide))
          have HB3 := Lib.hid (bat_keep HB2.out hkb3 hku3)
          have HBL3 := Lib.hid (bldLen_of HB3.out)
          have HX3 := Lib.hid (NodeW.keep NA2.out hkn3)
          have HS3 : Hid (Stk (CellsAt 151 w3) (b :: ts2) (.pointer Xb :: vs)) := Lib.hid ⟨NodeW.keep NB2.out hkn3, HS2.out.keep hkn3⟩
          have HO3 : Hid (w3.ownsRow N 103 1 v' (Value.pointer Xb :: vs).length (Value.pointer Xb :: vs).reverse) := Lib.hid (by rw [List.reverse_cons, List.length_cons]; exact hown')
          have ka := (CA2.out.keep hkn3).2
          clear hown' hgrow hst2 hb2 hkn3 hkb3 hku3 CA2 NA2 NB2 HS2 HB2 kb
          go_wp2_with fail
          go_roundw
          case rel => exact ⟨pre1 ++ [49], a, b :: ts2, _, Lib.hid (by have := HP.out; rw [List.length_append]; omega), HB3, HT1, HX3, HS3, HO3.out, hb3⟩
          case measure => rw [HBL3.out, HBL1.out, List.length_append]; simp; omega
end Go.Proofs.Ytpiahjbpidcjpaa
