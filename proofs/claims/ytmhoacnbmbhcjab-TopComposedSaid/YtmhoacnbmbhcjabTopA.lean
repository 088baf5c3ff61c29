/- narcissustop: trees of its own. By an AI agent. -/
import Derived.Test.YtmhoacnbmbhcjabRunA
namespace Go.Proofs.Ytmhoacnbmbhcjab
open Go.RowKit Pl

theorem Try.infoTCell : (Try.prog.info? 65).map (fun i => (i.zero, i.size, i.bytes)) = some (some (.pointer none), 1, 8) := by kernel_rfl
set_option maxHeartbeats 400000 in
set_option maxRecDepth 100000 in
theorem tsize_any (w : World) (t : Tr) (v : Value) (h : NodeW 106 w t v) :
    Calls Try.prog 49 #[v] w fun e w' => e = .returned (.int .i64 ((tx t).length : Nat)) ∧ w = w' := by
  cases t with
  | nil =>
    obtain rfl : v = .pointer none := h
    go_enter Try.func49, Try.ntmps49
    go_wp2
    go_ret
    exact ⟨rfl, rfl⟩
  | pair a b =>
    obtain ⟨B, o, x, y, rfl, h1, h2, ⟨_, h3⟩, h4, h5⟩ := h
    generalize (tx (.pair a b)).length = n at *
    go_enter Try.func49, Try.ntmps49
    go_wp2
    go_ret
    exact ⟨rfl, rfl⟩
set_option maxHeartbeats 400000 in
set_option maxRecDepth 100000 in
theorem tpair_any (w : World) (a b : Tr) (x y : Value) (ha : NodeW 106 w a x) (hb : NodeW 106 w b y) (la : (tx a).length ≤ 200000000) (lb : (tx b).length ≤ 200000000) :
    Calls Try.prog 50 #[x, y] w (ConsOut 106 w (.pair a b)) := by
  obtain ⟨X, rfl⟩ := ha.one
  obtain ⟨Y, rfl⟩ := hb.one
  have H := Lib.hid (fun n hn => node_new ha hb n hn)
  have H1 := Lib.hid (fun W => tsize_any W a (.pointer X))
  have H2 := Lib.hid (fun W => tsize_any W b (.pointer Y))
  have HL := Lib.hid (tx_pair a b)
  have HA := Lib.hid ha; have HB := Lib.hid hb; clear ha hb
  generalize hm : (tx a).length = m at *
  generalize hk : (tx b).length = k at *
  clear hm hk
  go_enter Try.func50, Try.ntmps50
  go_wp2_with fail
  refine (H1.out _ HA.out).mono ?_
  rintro e w' ⟨rfl, rfl⟩
  go_wp2_with fail
  refine (H2.out _ HB.out).mono ?_
  rintro e w' ⟨rfl, rfl⟩
  go_wp2_with fail
  go_ret
  exact ⟨_, rfl, H.out _ (by rw [HL.out]; push_cast; rfl), (Below.refl _ _).alloc (Nat.le_refl _) _⟩
set_option maxHeartbeats 3200000 in
set_option maxRecDepth 100000 in
theorem ttext_any (t : Tr) (v : Value) (w : World) (hn : NodeW 106 w t v) (hl : (tx t).length ≤ 2000000) :
    Calls Try.prog 104 #[v] w fun e w' => e = .returned (.string (S (tx t))) ∧ Below w.heap.size w w' := by
  obtain ⟨i0, hi, hz0, hz1, hz2⟩ := info_parts Try.infoTCell
  obtain ⟨j0, hj, hy0, hy1, hy2⟩ := info_parts Try.infoByte
  have HN := Lib.hid hn
  obtain ⟨V, rfl⟩ := hn.one
  clear hn
  obtain ⟨m, hm⟩ : ∃ m, m = (tx t).length := ⟨_, rfl⟩
  rw [← hm] at hl
  have HM := Lib.hid hm; clear hm
  go_enter Try.func104, Try.ntmps104
  have hb0 : Below w.heap.size w w := Below.refl _ _
  have HO0 := Lib.hid (World.ownsRow_nil (w.alloc (.cells #[.pointer V] 65)) w.heap.size 5 1)
  have HL0 := Lib.hid (own_one w w.heap.size 65 (.pointer V) (Nat.le_refl _))
  have HB0 := Lib.hid (hb0.alloc (Nat.le_refl _) (.cells #[.pointer V] 65))
  have HS0 := Lib.hid (NodeW.keep HN.out (KeepT.alloc _ w (.cells #[.pointer V] 65)))
  clear hb0 HN
  go_wp2
  go_loopw [3, 4] (fun out l wr => ∃ (pre : List UInt8) (ts : List Tr) (vs : List Value), wr.ownsRow w.heap.size 5 1 out pre.length (Lib.byteCells pre) ∧ Hid (pre ++ txs ts = tx t) ∧ Hid (Stk (CellsAt 106 wr) ts vs) ∧ wr.ownsRow w.heap.size 65 1 l vs.length vs.reverse ∧ Below w.heap.size w wr) (fun out _ _ => m - sliceLen out)
  case atStart => exact ⟨[], [t], [.pointer V], HO0.out, Lib.hid (by simp [txs]), Lib.hid ⟨HS0.out, trivial⟩, HL0.out, HB0.out⟩
  case round =>
    clear HO0 HL0 HB0 HS0
    obtain ⟨pre, ts, vs, hown, HT, HS, hst, hbw⟩ := hrel
    have hsz := hbw.size
    have HLEN := Lib.hid (own_len hown)
    have hlen : pre.length + (txs ts).length = m := by rw [HM.out, ← HT.out, List.length_append]
    have hvl : vs.length ≤ 2000000 := by have h1 := HS.out.len; have h2 := txs_len ts; omega
    cases ts with
    | nil =>
      obtain rfl : vs = [] := List.length_eq_zero_iff.1 HS.out.len
      have ho1 : wr.ownsRow w.heap.size 5 1 u3 (tx t).length (Lib.byteCells (tx t)) := by
        have h1 := HT.out
        rw [txs_nil, List.append_nil] at h1
        rw [← h1]; exact hown
      obtain ⟨g, cap, rfl, hn, hcell⟩ := own_bytes ho1 (tx_pos t)
      have hcv := run_convert_bytes_back (P := Try.prog) wr 107 9 5 ⟨g, 0, none⟩ cap (tx t) Try.underlying107 Try.underlying5 Try.underlying9 hcell
      obtain ⟨sa, sc, rfl⟩ := own_zero hst
      generalize hL : tx t = l at *
      have HN := Lib.hid hn; have HL := Lib.hid hL; clear hn hL ho1 hcell hst HLEN hown
      go_wp2
      go_ret
      exact ⟨ret_str (by rw [HL.out]), hbw⟩
    | cons t1 ts =>
      obtain ⟨x, u, rfl, hx, hu⟩ := HS.out.up
      clear HS
      obtain ⟨g, cap, rfl, _, hcap, hg0, hg, cell1, own1⟩ := own_top (ys := u.reverse) (x := x) hst (by rw [List.reverse_cons])
      rw [List.length_reverse] at hcap cell1 own1 ⊢
      rw [List.length_cons] at hvl
      have OWN := Lib.hid own1
      clear own1 hst
      generalize hqn : u.length = q at *
      have HQ := Lib.hid hqn; clear hqn
      have hq1 : (0 : Int) < (q : Int) + 1 := by omega
      cases t1 with
      | nil =>
        obtain rfl : x = .pointer none := hx
        have HT1 : Hid ((pre ++ [48]) ++ txs ts = tx t) := Lib.hid (by rw [← HT.out, txs_cons]; simp [tx])
        have hpre : pre.length + 1 ≤ m := by rw [txs_cons, List.length_append] at hlen; simp [tx] at hlen; omega
        clear HT hlen
        go_wp2_with (at_builtin; refine wpList_append_own _ rfl _ _ 107 rfl w.heap.size 5 j0 (.int .u8 0) 1 1 Try.underlying107 hj hy0 hy1 hy2 rfl (by decide) _ _ _ rfl (hown.alloc _) ⟨wr.heap.size, 0, none⟩ 1 1 [.int .u8 48] rfl rfl ?c1 ?c2 ?c3 ?c4 ?c5 ?_)
        case c1 =>
          intro t u ht
          match t, ht with
          | 0, ht => simp at ht; subst ht; simp [Addr.add]
        case c2 => intro u hu; simp at hu; subst hu; rfl
        case c3 => unfold maxLen; omega
        case c4 => omega
        case c5 => simp; omega
        intro v' w1 hown' hgrow _
        have hb1 := app_below hbw hsz hown hgrow
        have hk1 := (KeepT.alloc 106 wr _).trans (app_keep (hown.alloc _) hgrow (by decide))
        have HS1 : Hid (Stk (CellsAt 106 w1) ts u) := Lib.hid (hu.keep hk1)
        have HO1 : Hid (w1.ownsRow w.heap.size 5 1 v' (pre ++ [48]).length (Lib.byteCells (pre ++ [48]))) := Lib.hid (by rw [Lib.byteCells_append, List.length_append]; exact hown')
        have HW1 : Hid (w1.ownsRow w.heap.size 65 1 (.slice (some ⟨g, 0, none⟩) q cap) u.length u.reverse) := Lib.hid (by rw [HQ.out]; exact (OWN.out.alloc _).kept hgrow (own_apart OWN.out hown (by decide)))
        have HLV := Lib.hid (own_len hown')
        clear hown' hgrow hown hbw hk1 OWN hu
        go_wp2
        go_roundw
        case rel => exact ⟨_, _, _, HO1.out, HT1, HS1, HW1.out, hb1⟩
        case measure => rw [HLV.out, HLEN.out]; omega
      | pair a b =>
        obtain ⟨B, o, xa, xb, rfl, ca, cb, _, na, nb⟩ := hx
        obtain ⟨Xa, rfl⟩ := na.one
        obtain ⟨Xb, rfl⟩ := nb.one
        have HT1 : Hid ((pre ++ [49]) ++ txs (a :: b :: ts) = tx t) := Lib.hid (by rw [← HT.out, txs_cons, txs_cons, txs_cons]; simp [tx])
        have hpre : pre.length + 1 ≤ m ∧ q + 2 ≤ 2000000 := by
          have h1 := HT1.out
          have h2 := congrArg List.length h1
          rw [List.length_append, List.length_append, ← HM.out, txs_cons, txs_cons, List.length_append, List.length_append] at h2
          have h3 := txs_len ts
          have h4 := hu.len
          have h5 := HQ.out
          have := tx_pos a
          have := tx_pos b
          simp only [List.length_cons, List.length_nil] at h2
          omega
        obtain ⟨hpre, hq2⟩ := hpre
        have hBg : B ≠ g := fun e => by subst e; exact (own_tag OWN.out rfl).ne (by decide) ca.1
        have CA := Lib.hid ca; have CB := Lib.hid cb; have NA := Lib.hid na; have NB := Lib.hid nb; have HU := Lib.hid hu
        clear ca cb na nb HT hlen hu
        go_wp2_with (at_builtin; refine wpList_append_own _ rfl _ _ 107 rfl w.heap.size 5 j0 (.int .u8 0) 1 1 Try.underlying107 hj hy0 hy1 hy2 rfl (by decide) _ _ _ rfl (hown.alloc _) ⟨wr.heap.size, 0, none⟩ 1 1 [.int .u8 49] rfl rfl ?c1 ?c2 ?c3 ?c4 ?c5 ?_)
        case c1 =>
          intro t u ht
          match t, ht with
          | 0, ht => simp at ht; subst ht; simp [Addr.add]
        case c2 => intro u hu; simp at hu; subst hu; rfl
        case c3 => unfold maxLen; omega
        case c4 => omega
        case c5 => simp; omega
        intro v' w1 hown' hgrow _
        have hb1 := app_below hbw hsz hown hgrow
        have hsz1 := hb1.size
        have hk1 := (KeepT.alloc 106 wr _).trans (app_keep (hown.alloc _) hgrow (by decide))
        have HU1 := Lib.hid (HU.out.keep hk1)
        have NA1 := Lib.hid (NodeW.keep NA.out hk1)
        have NB1 := Lib.hid (NodeW.keep NB.out hk1)
        have ka := (CA.out.keep hk1).2
        have kb := (CB.out.keep hk1).2
        have HO1 : Hid (w1.ownsRow w.heap.size 5 1 v' (pre ++ [49]).length (Lib.byteCells (pre ++ [49]))) := Lib.hid (by rw [Lib.byteCells_append, List.length_append]; exact hown')
        have HW1 : Hid (w1.ownsRow w.heap.size 65 1 (.slice (some ⟨g, 0, none⟩) q cap) q u.reverse) := Lib.hid ((OWN.out.alloc _).kept hgrow (own_apart OWN.out hown (by decide)))
        have HLV := Lib.hid (own_len hown')
        clear hown' hgrow hown hbw hk1 OWN HU NA NB CA CB cell1
        have hB1 : B < w1.heap.size := World.block_lt_of_cell? w1 _ ka
        go_wp2_with fail
        go_region_held3 (fun w' => w'.cell? ⟨B, o + 1, none⟩ = some (.pointer Xb) ∧ w'.cell? ⟨B, o, none⟩ = some (.pointer Xa)) (first | exact ⟨e1, e2⟩ | go_keep)
          (first
            | (refine step_append_lies _ (by rfl) _ _ _ (by rfl) w.heap.size 65 i0 _ 1 8 Try.underlying100 hi hz0 hz1 hz2 rfl (by omega) _ _ _ (by rfl) ((HW1.out.alloc _).drew) ⟨w1.heap.size, 0, none⟩ 2 2 [.pointer Xb, .pointer Xa] (by rfl) (by rfl) (World.news_of_block (cs := #[.pointer Xb, .pointer Xa]) (t := 65) (fr := (0, 0)) (heap_alloc_new w1 _)) (by simp [Value.oneCell']) (by omega) (by unfold maxLen; omega) (by omega) (by simp; omega) (w1.heap.size + 1) (by simp) ?_; intro gg cap1 w2 hown2 hgrow2 hat hlt1; have e1 := far2 hgrow2 (by intro e; exact hBg (Option.some.inj e)) kb; have e2 := far2 hgrow2 (by intro e; exact hBg (Option.some.inj e)) ka))
        have hb2 : Below w.heap.size w w2 := (hb1.alloc hsz1 _).drew.grown hgrow2 (by simp; omega) (fun k h => (HW1.out.lt k h).1)
        have hk2 := ((KeepT.alloc 106 w1 (.cells #[.pointer Xb, .pointer Xa] 65)).trans (KeepT.drewN _ _ 1)).trans (app_keep (HW1.out.alloc _).drew hgrow2 (by decide))
        have HS2 : Hid (Stk (CellsAt 106 w2) (a :: b :: ts) (.pointer Xa :: .pointer Xb :: u)) := Lib.hid ⟨NodeW.keep NA1.out hk2, NodeW.keep NB1.out hk2, HU1.out.keep hk2⟩
        have HO2 : Hid (w2.ownsRow w.heap.size 5 1 v' (pre ++ [49]).length (Lib.byteCells (pre ++ [49]))) := Lib.hid ((HO1.out.alloc _).drew.kept hgrow2 (own_apart HO1.out HW1.out (by decide)))
        have HW2 : Hid (w2.ownsRow w.heap.size 65 1 (.slice (some ⟨gg, 0, none⟩) (q + 2) cap1) (Value.pointer Xa :: Value.pointer Xb :: u).length (Value.pointer Xa :: Value.pointer Xb :: u).reverse) := Lib.hid (by rw [rev_two, List.append_assoc, List.length_cons, List.length_cons, HQ.out]; exact hown2)
        clear hown2 hgrow2 hk2 HO1 HW1 HU1 NA1 NB1 hb1 ka kb hat hlt1 e1 e2
        go_wp2
        go_roundw
        case rel => exact ⟨_, _, _, HO2.out, HT1, HS2, HW2.out, hb2⟩
        case measure => rw [HLV.out, HLEN.out]; omega
set_option maxHeartbeats 400000 in
set_option maxRecDepth 100000 in
theorem tequal_any (w : World) (a b : Tr) (x y : Value) (r : Bool) (ha : NodeW 106 w a x) (hb : NodeW 106 w b y) (la : (tx a).length ≤ 2000000) (lb : (tx b).length ≤ 2000000) (hr : r = true ↔ a = b) :
    Calls Try.prog 83 #[x, y] w fun e w' => e = .returned (.bool r) ∧ Below w.heap.size w w' := by
  have H1 := Lib.hid (fun W h => tsize_any W a x h)
  have H2 := Lib.hid (fun W h => tsize_any W b y h)
  have T1 := Lib.hid (fun W h => ttext_any a x W h la)
  have T2 := Lib.hid (fun W h => ttext_any b y W h lb)
  have HA := Lib.hid ha; have HB := Lib.hid hb
  obtain ⟨X, rfl⟩ := ha.one
  obtain ⟨Y, rfl⟩ := hb.one
  clear ha hb
  by_cases hl : (tx a).length = (tx b).length
  · rw [← hl] at H2
    cases r with
    | true =>
      obtain rfl := hr.1 rfl
      generalize tx a = l at *
      clear hl la lb hr
      go_enter Try.func83, Try.ntmps83
      go_wp2_with fail
      refine (H1.out _ HA.out).mono ?_
      rintro e w' ⟨rfl, rfl⟩
      go_wp2_with fail
      refine (H2.out _ HB.out).mono ?_
      rintro e w' ⟨rfl, rfl⟩
      go_wp2_with fail
      refine (T1.out _ HA.out).mono ?_
      rintro e w1 ⟨rfl, h1⟩
      have HB1 := Lib.hid (NodeW.below HB.out h1)
      go_wp2_with fail
      refine (T2.out _ HB1.out).mono ?_
      rintro e w2 ⟨rfl, h2⟩
      go_wp2_with fail
      go_ret
      exact ⟨rfl, bstep h1 h2⟩
    | false =>
      have hne : (tx a == tx b) = false := beq_eq_false_iff_ne.2 fun e => by have := hr.2 (tx_inj e); cases this
      generalize tx a = l at *
      generalize tx b = k at *
      clear hl la lb hr
      go_enter Try.func83, Try.ntmps83
      go_wp2_with fail
      refine (H1.out _ HA.out).mono ?_
      rintro e w' ⟨rfl, rfl⟩
      go_wp2_with fail
      refine (H2.out _ HB.out).mono ?_
      rintro e w' ⟨rfl, rfl⟩
      go_wp2_with fail
      refine (T1.out _ HA.out).mono ?_
      rintro e w1 ⟨rfl, h1⟩
      have HB1 := Lib.hid (NodeW.below HB.out h1)
      go_wp2_with fail
      refine (T2.out _ HB1.out).mono ?_
      rintro e w2 ⟨rfl, h2⟩
      go_wp2_with fail
      go_ret
      exact ⟨rfl, bstep h1 h2⟩
  · have hrf : r = false := by
      cases r with
      | false => rfl
      | true => exact absurd (congrArg (fun t => (tx t).length) (hr.1 rfl)) hl
    subst hrf
    have hl2 : (((tx a).length : Int) == ((tx b).length : Int)) = false := beq_eq_false_iff_ne.2 (by omega)
    generalize (tx a).length = l at *
    generalize (tx b).length = k at *
    clear hr la lb hl T1 T2
    go_enter Try.func83, Try.ntmps83
    go_wp2_with fail
    refine (H1.out _ HA.out).mono ?_
    rintro e w' ⟨rfl, rfl⟩
    go_wp2_with fail
    refine (H2.out _ HB.out).mono ?_
    rintro e w' ⟨rfl, rfl⟩
    go_wp2_with fail
    go_ret
    exact ⟨rfl, Below.refl _ _⟩
end Go.Proofs.Ytmhoacnbmbhcjab
