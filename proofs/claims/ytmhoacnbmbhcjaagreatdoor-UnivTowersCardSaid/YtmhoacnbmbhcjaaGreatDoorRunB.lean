/- share: a tree's text as nodes in one block. By an AI agent. -/
import Derived.Test.YtmhoacnbmbhcjaaGreatDoorRunA
import Derived.Deep.QuietTactic
import Derived.BigQuiet
import Derived.Outline
import Derived.RangeFuncNested
import Derived.RangeFuncBound
import Derived.RangeFuncCalls
import Derived.RangeFuncLeaves
import Derived.OwnWalkIn
import Derived.TacticsInMore
import Derived.LoopNIn
import Derived.LoopIn
import Derived.WalkKit
import Derived.Test.YtmhoacnbmbhcjaaGreatDoorMth
namespace Go.Proofs.YtmhoacnbmbhcjaaGreatDoor
open Go.RowKit Pl

/-- the cells of a row's list that are done -/
def InRow (N k : Nat) (ys : List Value) (b o : Nat) (x : Value) : Prop := b = N ∧ o < k * 3 ∧ ys[o]? = some x
theorem InRow.set3 {N k : Nat} {ys : List Value} {b o : Nat} {x : Value} (h : InRow N k ys b o x) (v0 v1 v2 : Value) : InRow N (k + 1) (((ys.set (k * 3) v0).set (k * 3 + 1) v1).set (k * 3 + 2) v2) b o x := by
  obtain ⟨rfl, h1, h2⟩ := h
  refine ⟨rfl, by omega, ?_⟩
  rw [List.getElem?_set_ne (by omega), List.getElem?_set_ne (by omega), List.getElem?_set_ne (by omega), h2]
theorem set3_get {ys : List Value} {m : Nat} (v0 v1 v2 : Value) (h : m + 3 ≤ ys.length) :
    (((ys.set m v0).set (m + 1) v1).set (m + 2) v2)[m]? = some v0 ∧ (((ys.set m v0).set (m + 1) v1).set (m + 2) v2)[m + 1]? = some v1 ∧ (((ys.set m v0).set (m + 1) v1).set (m + 2) v2)[m + 2]? = some v2 := by
  refine ⟨?_, ?_, ?_⟩
  · rw [List.getElem?_set_ne (by omega), List.getElem?_set_ne (by omega), List.getElem?_set_self (by omega)]
  · rw [List.getElem?_set_ne (by omega), List.getElem?_set_self (by simp; omega)]
  · rw [List.getElem?_set_self (by simp; omega)]
theorem own_stored3 {w : World} {B g n m : Nat} {e : TypeId} {xs : List Value} (h : w.ownsRow B e 3 (.slice (some ⟨g, 0, none⟩) n n) n xs) (v0 v1 v2 : Value) :
    (((w.setCell ⟨g, m, none⟩ v0).setCell ⟨g, m + 1, none⟩ v1).setCell ⟨g, m + 2, none⟩ v2).ownsRow B e 3 (.slice (some ⟨g, 0, none⟩) n n) n (((xs.set m v0).set (m + 1) v1).set (m + 2) v2) :=
  (((h.stored m v0).1.stored (m + 1) v1).1.stored (m + 2) v2).1
theorem below3at {B b m : Nat} {w0 w : World} (v0 v1 v2 : Value) (h : Below B w0 w) (hb : B ≤ b) :
    Below B w0 (((w.setCell ⟨b, m, none⟩ v0).setCell ⟨b, m + 1, none⟩ v1).setCell ⟨b, m + 2, none⟩ v2) :=
  ((h.setCell (p := ⟨b, m, none⟩) hb _).setCell (p := ⟨b, m + 1, none⟩) hb _).setCell (p := ⟨b, m + 2, none⟩) hb _
theorem own_cell3 {w : World} {B g n : Nat} {e : TypeId} {xs : List Value} (h : w.ownsRow B e 3 (.slice (some ⟨g, 0, none⟩) n n) n xs) (j : Nat) (hj : j < n * 3) : ∃ u, w.cell? ⟨g, j, none⟩ = some u := by
  have hx := h.1
  rw [h.cellAt j hj]
  exact ⟨xs[j]'(by omega), List.getElem?_eq_getElem _⟩
theorem row_set3 {w : World} {g n m base k : Nat} {e' : TypeId} {v : Value} {ys : List Value} (h : w.ownsRow base e' k v n ys) (hg : v.ownBlock = none ∨ v.ownBlock ≠ some g) (v0 v1 v2 : Value) :
    (((w.setCell ⟨g, m, none⟩ v0).setCell ⟨g, m + 1, none⟩ v1).setCell ⟨g, m + 2, none⟩ v2).ownsRow base e' k v n ys :=
  h.kept (row := some g) ⟨rfl, rfl, rfl, by simp [World.setCell], fun k hk hne => by
    rw [Below.heap_setCell _ _ _ _ (fun e => hne (by rw [e])), Below.heap_setCell _ _ _ _ (fun e => hne (by rw [e])), Below.heap_setCell _ _ _ _ (fun e => hne (by rw [e]))]⟩ hg
/-- what lies done in a row of the call's own is a tree in the world -/
theorem inRow_node {w : World} {B N n k : Nat} {τ : TypeId} {ys : List Value} {t : Tr} {v : Value} (h : w.ownsRow B τ 3 (.slice (some ⟨N, 0, none⟩) n n) n ys) (hv : NodeC (InRow N k ys) t v) : NodeW τ w t v :=
  NodeC.mono (fun b o x ⟨h1, h2, h3⟩ => by
    subst h1
    refine ⟨own_tag h rfl, ?_⟩
    have hx : o < ys.length := (List.getElem?_eq_some_iff.1 h3).1
    rw [h.cellAt o (by rw [← h.1]; exact hx), h3]) hv
theorem Tryz.infoNodeS : (Tryz.prog.info? 202).map (fun i => (i.zero, i.size, i.bytes)) = some (some (.agg #[.pointer none, .pointer none, .int .i64 0]), 3, 24) := by kernel_rfl
/-- the size of a tree whose nodes lie in a row -/
theorem size_row (N k n B : Nat) (ys : List Value) (w : World) (t : Tr) (v : Value) (hr : w.ownsRow B 202 3 (.slice (some ⟨N, 0, none⟩) n n) n ys) (h : NodeC (InRow N k ys) t v) :
    Calls Tryz.prog 183 #[v] w fun e w' => e = .returned (.int .i64 ((tx t).length : Nat)) ∧ w = w' := size_any _ w t v (inRow_node hr h)

set_option maxHeartbeats 3200000 in
set_option maxRecDepth 100000 in
theorem share_any (s : ByteArray) (w : World) (hv : vld s.data.toList = true) :
    Calls Tryz.prog 181 #[.string s] w (ConsOut 202 w (rd s.data.toList)) := by
  obtain ⟨i0, hi, hz0, hz1, hz2⟩ := info_parts Tryz.infoNode
  obtain ⟨i1, hi1, hz10, hz11, hz12⟩ := info_parts Tryz.infoNodeS
  have hs := vld_size hv
  have HV := Lib.hid hv
  obtain ⟨n, hn⟩ : ∃ n, n = ones s.data.toList := ⟨_, rfl⟩
  have hnh : (s.size : Int) / 2 = (n : Int) := by have := half_ones hv; rw [len_eq, ← hn] at this; omega
  have hn1 : n ≤ 1000000 := by omega
  have HN := Lib.hid hn
  clear hv hn
  go_enter Tryz.func181, Tryz.ntmps181
  go_wp2_with (at_make; refine wpList_make_full _ rfl _ _ 216 rfl w.heap.size 202 i1 (.agg #[.pointer none, .pointer none, .int .i64 0]) 3 Tryz.underlying216 hi1 hz10 hz11 .i64 .i64 _ _ n rfl rfl rfl rfl (by rw [hz12]; omega) (by unfold maxLen; omega) (Nat.le_refl _) ?_)
  intro w1 hown hgrow
  have hb1 : Below w.heap.size w w1 := (Below.refl _ _).grown hgrow (Nat.le_refl _) (by simp)
  obtain ⟨xs, HO⟩ : ∃ xs, Hid (w1.ownsRow w.heap.size 202 3 (.slice (some ⟨w.heap.size, 0, none⟩) n n) n xs) := ⟨_, Lib.hid hown⟩
  clear hown hgrow hi1 hz10 hz11 hz12
  obtain ⟨N, hNN⟩ : ∃ N, N = w.heap.size := ⟨_, rfl⟩
  rw [← hNN] at hb1 HO ⊢
  have HNN := Lib.hid hNN
  clear hNN
  go_wp2
  go_loopw [3, 4, 5] (fun nv v i wr => ∃ (j k d off : Nat) (ts : List Tr) (vs ys : List Value), j ≤ s.size ∧ i = .int .i64 ((j : Int) - 1) ∧ d + k = n ∧ nv = .slice (some ⟨N, off, none⟩) d d ∧ Hid (0 < d → off = k * 3) ∧ Hid (onesFrom s.data.toList j = k) ∧ Hid (txs ts = s.data.toList.drop j) ∧ Hid (Stk (InRow N k ys) ts vs) ∧ Hid (wr.ownsRow N 202 3 (.slice (some ⟨N, 0, none⟩) n n) n ys) ∧ wr.ownsRow N 156 1 v vs.length vs.reverse ∧ Below N w wr) (fun _ _ i _ => (intOf i + 1).toNat)
  case atStart => exact ⟨s.size, 0, n, 0, [], [], xs, Nat.le_refl _, rfl, by omega, rfl, Lib.hid (fun _ => rfl), Lib.hid (by unfold onesFrom; rw [List.drop_of_length_le (by rw [len_eq]; exact Nat.le_refl _)]; rfl), Lib.hid (by rw [List.drop_of_length_le (by rw [len_eq]; exact Nat.le_refl _)]; rfl), Lib.hid trivial, HO, World.ownsRow_nil _ _ _ _, hb1⟩
  case round =>
    clear HO hb1
    obtain ⟨j, k, d, off, ts, vs, ys, hj, rfl, hdk, rfl, HOFF, HK, HT, HS, HO, hown, hbw⟩ := hrel
    have hsz := hbw.size
    cases j with
    | zero =>
      have h1 : ts = [rd s.data.toList] := one_of HV.out (by rw [HT.out]; rfl)
      have HS' := HS.out
      rw [h1] at HS'
      obtain ⟨x, rfl, hx⟩ := HS'.one
      obtain ⟨g, cap, rfl, _, _, _, _, hcell, _⟩ := own_top (ys := []) hown rfl
      have HX := Lib.hid (inRow_node HO.out hx)
      clear hx HS' hown h1
      rw [show ([] : List Value).length = 0 from rfl] at hcell ⊢
      go_wp2
      go_ret
      exact ⟨_, rfl, HX.out, by rw [← HNN.out]; exact hbw⟩
    | succ j =>
      rw [show ((j + 1 : Nat) : Int) - 1 = (j : Int) from by omega]
      have hk : j < s.size := hj
      have hkl : j < s.data.toList.length := by rw [len_eq]; exact hk
      have hNlt : N < wr.heap.size := (own_tag HO.out rfl).lt
      have hfew : vs.length ≤ 2000000 := by
        have h1 := HS.out.len
        have h2 := txs_len ts
        have h3 := congrArg List.length HT.out
        have h4 := (vld_iff.1 HV.out).1
        rw [List.length_drop] at h3
        omega
      rcases vld_byte HV.out hkl with hc | hc
      · have hc' : s[j] = 48 := hc
        have HT1 : Hid (txs (Tr.nil :: ts) = s.data.toList.drop j) := Lib.hid (by rw [drop_cons hkl, hc, txs_cons, HT.out]; rfl)
        have HK1 : Hid (onesFrom s.data.toList j = k) := Lib.hid (by rw [onesFrom_zero hkl hc, HK.out])
        clear hc HT HK
        go_wp2_with (at_builtin; refine wpList_append_own _ rfl _ _ 157 rfl N 156 i0 (.pointer none) 1 8 Tryz.underlying157 hi hz0 hz1 hz2 rfl (by decide) _ _ _ rfl (hown.alloc _) ⟨wr.heap.size, 0, none⟩ 1 1 [.pointer none] rfl rfl ?c1 ?c2 ?c3 ?c4 ?c5 ?_)
        case c1 =>
          intro t u ht
          match t, ht with
          | 0, ht => simp at ht; subst ht; simp [Addr.add]
        case c2 => intro u hu; simp at hu; subst hu; rfl
        case c3 => unfold maxLen; omega
        case c4 => omega
        case c5 => simp; omega
        intro v' w1 hown' hgrow _
        have hb1 := app_below hbw (by omega) hown hgrow
        have HO1 := Lib.hid ((HO.out.alloc (.cells #[.pointer none] 156)).kept hgrow (own_apart HO.out hown (by decide)))
        have HS1 : Hid (Stk (InRow N k ys) (Tr.nil :: ts) (.pointer none :: vs)) := Lib.hid ⟨rfl, HS.out⟩
        have HW : Hid (w1.ownsRow N 156 1 v' (Value.pointer none :: vs).length (Value.pointer none :: vs).reverse) := Lib.hid (by rw [List.reverse_cons, List.length_cons]; exact hown')
        clear hown' hgrow hown hbw HS HO
        go_wp2
        go_roundw
        case rel => exact ⟨j, k, d, off, _, _, _, by omega, rfl, hdk, rfl, HOFF, HK1, HT1, HS1, HO1, HW.out, hb1⟩
        case measure => simp [intOf]
      · have hc' : s[j] = 49 := hc
        obtain ⟨a, b, r, rfl⟩ := two_of HV.out hkl hc HT.out
        obtain ⟨x, y, u, rfl, hx, hy, hu⟩ := HS.out.two
        have HT1 : Hid (txs (Tr.pair a b :: r) = s.data.toList.drop j) := Lib.hid (by rw [drop_cons hkl, hc, ← HT.out, txs_cons, txs_cons, txs_cons]; simp [tx])
        have HK1 : Hid (onesFrom s.data.toList j = k + 1) := Lib.hid (by rw [onesFrom_one hkl hc, HK.out])
        have hkn : k + 1 ≤ n := by have h1 := onesFrom_le s.data.toList j; rw [HK1.out, ← HN.out] at h1; exact h1
        obtain ⟨d, rfl⟩ : ∃ q, d = q + 1 := ⟨d - 1, by omega⟩
        obtain rfl : off = k * 3 := HOFF.out (by omega)
        have hle : (tx a).length + (tx b).length ≤ 2000000 := by
          have h3 := congrArg List.length HT.out
          have h4 := (vld_iff.1 HV.out).1
          rw [List.length_drop, txs_cons, txs_cons, List.length_append, List.length_append] at h3
          omega
        clear hc HT HS HK HOFF
        obtain ⟨g, cap, rfl, _, hcap, hg0, hg, cell1, own1⟩ := own_top hown (rev_two x y u)
        obtain ⟨g2, cap2, hg2, _, hcap2, _, _, cell2, own2⟩ := own_top own1 rfl
        injection hg2 with e1 e2 e3
        injection e1 with e1
        injection e1 with e1
        subst e1; subst e3
        simp only [List.length_append, List.length_reverse, List.length_cons, List.length_nil] at cell1 cell2 hcap hfew own2 ⊢
        clear own1 hown hcap2 e2
        obtain ⟨X, rfl⟩ := hx.one
        obtain ⟨Y, rfl⟩ := hy.one
        have HSX := Lib.hid (fun W h => size_row N k n N ys W a _ h hx)
        have HSY := Lib.hid (fun W h => size_row N k n N ys W b _ h hy)
        have HX := Lib.hid hx; have HY := Lib.hid hy; have HU := Lib.hid hu; clear hx hy hu
        have HP := Lib.hid (tx_pair a b)
        generalize (tx a).length = la at *
        generalize (tx b).length = lb at *
        generalize hqn : u.length = qn at *
        have HQ := Lib.hid hqn; clear hqn
        obtain ⟨m, hm⟩ : ∃ m, qn + 1 + 1 = m := ⟨_, rfl⟩
        simp only [Nat.zero_add] at cell1 cell2 hcap own2 ⊢
        rw [hm] at hcap hfew ⊢
        rw [show qn + 1 = m - 1 from by omega] at cell1
        rw [show qn = m - 2 from by omega] at cell2
        have hNg : g ≠ N := fun e => by subst e; exact (own_tag own2 rfl).ne (by decide) (own_tag HO.out rfl)
        have hNg' : N ≠ g := fun e => hNg e.symm
        have m0 : 2 ≤ m := by omega
        have m5 : (1 : Int) ≤ (m : Int) := by omega
        have m6 : (2 : Int) ≤ (m : Int) := by omega
        have m1 : (0 : Int) ≤ (m : Int) - 1 := by omega
        have m2 : (m : Int) - 1 < (m : Int) := by omega
        have m3 : (0 : Int) ≤ (m : Int) - 1 - 1 := by omega
        have m4 : (m : Int) - 1 - 1 < (m : Int) := by omega
        have s1 : ((m : Int) - 1).toNat = m - 1 := by omega
        have s2 : ((m : Int) - 1 - 1).toNat = m - 2 := by omega
        have wr1 : IntKind.i64.wrap ((m : Int) - 1) = (m : Int) - 1 := IntWalk.i64_in _ (by omega)
        have wr2 : IntKind.i64.wrap ((m : Int) - 1 - 1) = (m : Int) - 1 - 1 := IntWalk.i64_in _ (by omega)
        rw [show qn = m - 2 from by omega] at own2 HQ
        have OWN := Lib.hid own2
        clear hm own2
        rcases Nat.eq_zero_or_pos d with rfl | hd
        · go_wp2_with fail
          go_quiet (fail)
          clear cell1 cell2
          obtain ⟨u0, c0⟩ := own_cell3 HO.out (k * 3) (by omega)
          obtain ⟨u1, c1⟩ := own_cell3 HO.out (k * 3 + 1) (by omega)
          obtain ⟨u2, c2⟩ := own_cell3 HO.out (k * 3 + 2) (by omega)
          have f0 := HO.out.frozenAt (k * 3)
          have f1 := HO.out.frozenAt (k * 3 + 1)
          have f2 := HO.out.frozenAt (k * 3 + 2)
          go_wp2_with fail
          have HOD := Lib.hid (own_below HO.out (bdrewN (Below.refl wr.heap.size wr) nq))
          refine (HSX.out _ HOD.out).mono ?_
          rintro e w2 ⟨rfl, rfl⟩
          go_wp2_with fail
          refine (HSY.out _ HOD.out).mono ?_
          rintro e w2 ⟨rfl, rfl⟩
          have OWN3 := Lib.hid (row_set3 (m := k * 3) (g := N) (own_below OWN.out (bdrewN (Below.refl _ _) nq)) (.inr (fun e => hNg (by injection e))) (.pointer X) (.pointer Y) (.int .i64 (1 + (la : Int) + (lb : Int))))
          have HO3 := Lib.hid (own_stored3 (m := k * 3) HOD.out (.pointer X) (.pointer Y) (.int .i64 (1 + (la : Int) + (lb : Int))))
          have HB3 := Lib.hid (below3at (m := k * 3) (.pointer X) (.pointer Y) (.int .i64 (1 + (la : Int) + (lb : Int))) (bdrewN hbw nq) (Nat.le_refl N))
          have hyl : n * 3 = ys.length := HO.out.1.symm
          have HYL := Lib.hid hyl
          clear hyl hbw OWN HSX HSY HO HOD
          go_wp2_with (at_builtin; refine wpList_append_own _ rfl _ _ 157 rfl N 156 i0 (.pointer none) 1 8 Tryz.underlying157 hi hz0 hz1 hz2 rfl (by decide) _ _ _ rfl (OWN3.out.alloc _) ⟨wr.heap.size, 0, none⟩ 1 1 [.pointer (some ⟨N, k * 3, none⟩)] rfl rfl ?d1 ?d2 ?d3 ?d4 ?d5 ?_)
          case d1 =>
            intro t u ht
            match t, ht with
            | 0, ht =>
              simp at ht; subst ht
              show World.cell? _ ⟨wr.heap.size, 0, none⟩ = _
              rw [World.cell?_alloc_at _ _ _ _ (by simp [World.setCell])]; rfl
          case d2 => intro u hu; simp at hu; subst hu; rfl
          case d3 => unfold maxLen; omega
          case d4 => omega
          case d5 => simp [World.setCell]; omega
          intro v' w1 hown' hgrow _
          have hb1 := app_below HB3.out (by simp [World.setCell]; omega) OWN3.out hgrow
          have HO4 := Lib.hid ((HO3.out.alloc (.cells #[.pointer (some ⟨N, k * 3, none⟩)] 156)).kept hgrow (own_apart HO3.out OWN3.out (by decide)))
          have hyl : n * 3 = ys.length := HYL.out
          have HS1 : Hid (Stk (InRow N (k + 1) (((ys.set (k * 3) (.pointer X)).set (k * 3 + 1) (.pointer Y)).set (k * 3 + 2) (.int .i64 (1 + (la : Int) + (lb : Int))))) (Tr.pair a b :: r) (.pointer (some ⟨N, k * 3, none⟩) :: u)) := Lib.hid (by
            obtain ⟨g1, g2, g3⟩ := set3_get (ys := ys) (m := k * 3) (.pointer X) (.pointer Y) (.int .i64 (1 + (la : Int) + (lb : Int))) (by omega)
            refine ⟨⟨N, k * 3, .pointer X, .pointer Y, rfl, ⟨rfl, by omega, g1⟩, ⟨rfl, by omega, g2⟩, ⟨rfl, by omega, by rw [g3, HP.out]; push_cast; rfl⟩, NodeC.mono (fun _ _ _ h => h.set3 _ _ _) HX.out, NodeC.mono (fun _ _ _ h => h.set3 _ _ _) HY.out⟩, Stk.mono (fun _ _ _ h => h.set3 _ _ _) HU.out⟩)
          clear hyl
          have HW : Hid (w1.ownsRow N 156 1 v' (Value.pointer (some ⟨N, k * 3, none⟩) :: u).length (Value.pointer (some ⟨N, k * 3, none⟩) :: u).reverse) := Lib.hid (by rw [List.reverse_cons, List.length_cons, HQ.out]; exact hown')
          clear hown' hgrow OWN3 HO3 HB3 HX HY HU
          go_wp2
          go_roundw
          case rel => exact ⟨j, k + 1, 0, k * 3, _, _, _, by omega, rfl, by omega, rfl, Lib.hid (fun h => absurd h (Nat.lt_irrefl _)), HK1, HT1, HS1, HO4, HW.out, hb1⟩
          case measure => simp [intOf]
        · go_wp2_with fail
          go_quiet (fail)
          clear cell1 cell2
          obtain ⟨u0, c0⟩ := own_cell3 HO.out (k * 3) (by omega)
          obtain ⟨u1, c1⟩ := own_cell3 HO.out (k * 3 + 1) (by omega)
          obtain ⟨u2, c2⟩ := own_cell3 HO.out (k * 3 + 2) (by omega)
          have f0 := HO.out.frozenAt (k * 3)
          have f1 := HO.out.frozenAt (k * 3 + 1)
          have f2 := HO.out.frozenAt (k * 3 + 2)
          go_wp2_with fail
          have HOD := Lib.hid (own_below HO.out (bdrewN (Below.refl wr.heap.size wr) nq))
          refine (HSX.out _ HOD.out).mono ?_
          rintro e w2 ⟨rfl, rfl⟩
          go_wp2_with fail
          refine (HSY.out _ HOD.out).mono ?_
          rintro e w2 ⟨rfl, rfl⟩
          have OWN3 := Lib.hid (row_set3 (m := k * 3) (g := N) (own_below OWN.out (bdrewN (Below.refl _ _) nq)) (.inr (fun e => hNg (by injection e))) (.pointer X) (.pointer Y) (.int .i64 (1 + (la : Int) + (lb : Int))))
          have HO3 := Lib.hid (own_stored3 (m := k * 3) HOD.out (.pointer X) (.pointer Y) (.int .i64 (1 + (la : Int) + (lb : Int))))
          have HB3 := Lib.hid (below3at (m := k * 3) (.pointer X) (.pointer Y) (.int .i64 (1 + (la : Int) + (lb : Int))) (bdrewN hbw nq) (Nat.le_refl N))
          have hyl : n * 3 = ys.length := HO.out.1.symm
          have HYL := Lib.hid hyl
          clear hyl hbw OWN HSX HSY HO HOD
          go_wp2_with (at_builtin; refine wpList_append_own _ rfl _ _ 157 rfl N 156 i0 (.pointer none) 1 8 Tryz.underlying157 hi hz0 hz1 hz2 rfl (by decide) _ _ _ rfl (OWN3.out.alloc _) ⟨wr.heap.size, 0, none⟩ 1 1 [.pointer (some ⟨N, k * 3, none⟩)] rfl rfl ?d1 ?d2 ?d3 ?d4 ?d5 ?_)
          case d1 =>
            intro t u ht
            match t, ht with
            | 0, ht =>
              simp at ht; subst ht
              show World.cell? _ ⟨wr.heap.size, 0, none⟩ = _
              rw [World.cell?_alloc_at _ _ _ _ (by simp [World.setCell])]; rfl
          case d2 => intro u hu; simp at hu; subst hu; rfl
          case d3 => unfold maxLen; omega
          case d4 => omega
          case d5 => simp [World.setCell]; omega
          intro v' w1 hown' hgrow _
          have hb1 := app_below HB3.out (by simp [World.setCell]; omega) OWN3.out hgrow
          have HO4 := Lib.hid ((HO3.out.alloc (.cells #[.pointer (some ⟨N, k * 3, none⟩)] 156)).kept hgrow (own_apart HO3.out OWN3.out (by decide)))
          have hyl : n * 3 = ys.length := HYL.out
          have HS1 : Hid (Stk (InRow N (k + 1) (((ys.set (k * 3) (.pointer X)).set (k * 3 + 1) (.pointer Y)).set (k * 3 + 2) (.int .i64 (1 + (la : Int) + (lb : Int))))) (Tr.pair a b :: r) (.pointer (some ⟨N, k * 3, none⟩) :: u)) := Lib.hid (by
            obtain ⟨g1, g2, g3⟩ := set3_get (ys := ys) (m := k * 3) (.pointer X) (.pointer Y) (.int .i64 (1 + (la : Int) + (lb : Int))) (by omega)
            refine ⟨⟨N, k * 3, .pointer X, .pointer Y, rfl, ⟨rfl, by omega, g1⟩, ⟨rfl, by omega, g2⟩, ⟨rfl, by omega, by rw [g3, HP.out]; push_cast; rfl⟩, NodeC.mono (fun _ _ _ h => h.set3 _ _ _) HX.out, NodeC.mono (fun _ _ _ h => h.set3 _ _ _) HY.out⟩, Stk.mono (fun _ _ _ h => h.set3 _ _ _) HU.out⟩)
          clear hyl
          have HW : Hid (w1.ownsRow N 156 1 v' (Value.pointer (some ⟨N, k * 3, none⟩) :: u).length (Value.pointer (some ⟨N, k * 3, none⟩) :: u).reverse) := Lib.hid (by rw [List.reverse_cons, List.length_cons, HQ.out]; exact hown')
          clear hown' hgrow OWN3 HO3 HB3 HX HY HU
          go_wp2
          go_roundw
          case rel => exact ⟨j, k + 1, d, k * 3 + 3, _, _, _, by omega, rfl, by omega, rfl, Lib.hid (fun _ => by omega), HK1, HT1, HS1, HO4, HW.out, hb1⟩
          case measure => simp [intOf]
end Go.Proofs.YtmhoacnbmbhcjaaGreatDoor

namespace Go.Proofs.YtmhoacnbmbhcjaaGreatDoor
open Go.RowKit Pl

def st0 : St := ⟨0, List.replicate 32 .nil⟩
def NewOut (w : World) (v : Value) (ps : List Ins) (e : Ending) (w' : World) : Prop := ∃ M C, e = .returned (.pointer (some ⟨M, 0, none⟩)) ∧ (∀ n1, n1 ≤ w.heap.size → (∀ k, 0 < ps.length → v.ownBlock = some k → k < n1) → Mach w' n1 M C ps st0) ∧ w.heap.size ≤ M ∧ TagB w' M 160 ∧ Below w.heap.size w w'
theorem PValid.tree {ps : List Ins} (hv : PValid ps) {k : Nat} {x : Ins} (hx : ps[k]? = some x) (h0 : x.op = 0) : vld x.tree = true := by
  have hr := hv.2.2 k x hx
  unfold right at hr; rw [h0] at hr; simp at hr; exact hr.2.2
theorem own_cell1 {w : World} {B g n : Nat} {e : TypeId} {xs : List Value} (h : w.ownsRow B e 1 (.slice (some ⟨g, 0, none⟩) n n) n xs) (j : Nat) (hj : j < n) : ∃ u, w.cell? ⟨g, j, none⟩ = some u := by
  have hx := h.1
  rw [h.cellAt j (by omega)]
  exact ⟨xs[j]'(by omega), List.getElem?_eq_getElem _⟩
/-- the cells of a machine that has just been made -/
def machCells (v : Value) (C n : Nat) : Array Value := #[v, .slice (some ⟨C, 0, none⟩) n n, .int .i64 0, .pointer none, .pointer none, .pointer none, .pointer none, .pointer none, .pointer none, .pointer none, .pointer none, .pointer none, .pointer none, .pointer none, .pointer none, .pointer none, .pointer none, .pointer none, .pointer none, .pointer none, .pointer none, .pointer none, .pointer none, .pointer none, .pointer none, .pointer none, .pointer none, .pointer none, .pointer none, .pointer none, .pointer none, .pointer none, .pointer none, .pointer none, .pointer none]
/-- the trees of the first k instructions -/
def TreesTo (w : World) (ps : List Ins) (k : Nat) (ys : List Value) : Prop := ∀ j x, j < k → ps[j]? = some x → x.op = 0 → ∃ y, ys[j]? = some y ∧ NodeW 202 w (rd x.tree) y
theorem mach_cells_reg (v : Value) (C n : Nat) : ∀ r, r < 32 → (machCells v C n)[3 + r]? = some (.pointer none) := by
  intro r hr
  match r, hr with
  | 0, _ | 1, _ | 2, _ | 3, _ | 4, _ | 5, _ | 6, _ | 7, _ | 8, _ | 9, _ | 10, _ | 11, _ | 12, _ | 13, _ | 14, _ | 15, _ | 16, _ | 17, _ | 18, _ | 19, _ | 20, _ | 21, _ | 22, _ | 23, _ | 24, _ | 25, _ | 26, _ | 27, _ | 28, _ | 29, _ | 30, _ | 31, _ => rfl
  | k + 32, h => exact absurd h (by omega)
theorem mach_made {w W : World} {M C n0 : Nat} {ps : List Ins} {ys : List Value} {v : Value} (hM : W.heap[M]? = some (.cells (machCells v C ps.length) 160 (0, 0))) (hC : W.ownsRow n0 156 1 (.slice (some ⟨C, 0, none⟩) ps.length ps.length) ps.length ys) (hT : TreesTo W ps ps.length ys)
    (hA : ArgP w v ps) (hb : Below n0 w W) (hn : n0 = w.heap.size) (hMn : n0 ≤ M) : ∀ n1, n1 ≤ w.heap.size → (∀ k, 0 < ps.length → v.ownBlock = some k → k < n1) → Mach W n1 M C ps st0 := by
  subst hn
  intro n1 h1 ho
  have hcell : ∀ o, W.cell? ⟨M, o, none⟩ = (machCells v C ps.length)[o]? := fun o => Lib.cell_of_heap hM o
  refine ⟨⟨v, by rw [hcell]; rfl, hA.below hb, ho⟩, by rw [hcell]; rfl, by rw [hcell]; rfl, fun r hr => ⟨.pointer none, by rw [hcell, mach_cells_reg _ _ _ r hr], ?_⟩, fun k x hx h0 => ?_, ⟨_, (), hM⟩, fun o => Lib.frozen_of_heap hM o, own_tag hC rfl, Nat.le_trans h1 hMn, Nat.le_trans h1 hb.size⟩
  · show NodeW _ W ((List.replicate 32 Tr.nil)[r]?.getD .nil) _
    rw [List.getElem?_replicate, if_pos hr]; rfl
  · have hk : k < ps.length := (List.getElem?_eq_some_iff.1 hx).1
    obtain ⟨y, h1, h2⟩ := hT k x hk hx h0
    exact ⟨y, by rw [hC.cellAt k (by omega), h1], h2⟩

set_option maxHeartbeats 3200000 in
set_option maxRecDepth 100000 in
theorem newMachine_some (w : World) (b off cap : Nat) (ps : List Ins) (hP : ProgAt w b off ps) (h0 : 0 < ps.length) (hv : PValid ps) :
    Calls Tryz.prog 180 #[.slice (some ⟨b, off, none⟩) ps.length cap] w (NewOut w (.slice (some ⟨b, off, none⟩) ps.length cap) ps) := by
  obtain ⟨i0, hi, hz0, hz1, hz2⟩ := info_parts Tryz.infoNode
  have HA : Hid (ArgP w (.slice (some ⟨b, off, none⟩) ps.length cap) ps) := Lib.hid (.inr ⟨h0, b, off, cap, rfl, hP⟩)
  have hm := hv.1
  have HMM := Lib.hid (fun W M C (ys : List Value) => mach_made (w := w) (W := W) (M := M) (C := C) (n0 := w.heap.size) (ps := ps) (ys := ys) (v := .slice (some ⟨b, off, none⟩) ps.length cap))
  obtain ⟨n, hn⟩ : ∃ n, n = ps.length := ⟨_, rfl⟩
  rw [← hn] at HA HMM hm h0 ⊢
  have HN := Lib.hid hn
  have HP := Lib.hid hP; have HV := Lib.hid hv
  have hbw := hP.1
  clear hn hP hv
  go_enter Tryz.func180, Tryz.ntmps180
  go_wp2_with (at_make; refine wpList_make_full _ rfl _ _ 157 rfl w.heap.size 156 i0 (.pointer none) 1 Tryz.underlying157 hi hz0 hz1 .i64 .i64 _ _ n rfl rfl rfl rfl (by rw [hz2]; omega) (by unfold maxLen; omega) (Nat.le_refl _) ?_)
  intro w1 hown hgrow
  have hb1 : Below w.heap.size w w1 := (Below.refl _ _).grown hgrow (Nat.le_refl _) (by simp)
  obtain ⟨xs, HO⟩ : ∃ xs, Hid (w1.ownsRow w.heap.size 156 1 (.slice (some ⟨w.heap.size, 0, none⟩) n n) n xs) := ⟨_, Lib.hid hown⟩
  clear hown hgrow hi hz0 hz1 hz2
  have hsz1 := hb1.size
  have HM1 : Hid ((w1.alloc (.cells (machCells (.slice (some ⟨b, off, none⟩) n cap) w.heap.size n) 160)).heap[w1.heap.size]? = some (.cells (machCells (.slice (some ⟨b, off, none⟩) n cap) w.heap.size n) 160 (0, 0))) := Lib.hid (heap_alloc_new _ _)
  have HO1 := Lib.hid (HO.out.alloc (.cells (machCells (.slice (some ⟨b, off, none⟩) n cap) w.heap.size n) 160))
  have HB1 := Lib.hid (hb1.alloc hsz1 (.cells (machCells (.slice (some ⟨b, off, none⟩) n cap) w.heap.size n) 160))
  have hMs : w1.heap.size < (w1.alloc (.cells (machCells (.slice (some ⟨b, off, none⟩) n cap) w.heap.size n) 160)).heap.size := by simp
  clear HO hb1
  go_wp2
  change Code.wp _ _ _ _ (w1.alloc (.cells (machCells (.slice (some ⟨b, off, none⟩) n cap) w.heap.size n) 160))
  generalize w1.alloc (.cells (machCells (.slice (some ⟨b, off, none⟩) n cap) w.heap.size n) 160) = w2 at *
  generalize w1.heap.size = M at *
  obtain ⟨N, hNN⟩ : ∃ N, N = w.heap.size := ⟨_, rfl⟩
  rw [← hNN] at HM1 HO1 HB1 HMM hbw ⊢
  have hNM : N ≤ M := by omega
  have HNN := Lib.hid hNN
  clear hNN hsz1
  go_loopw [14] (fun i wr => ∃ (k : Nat) (ys : List Value), k ≤ n ∧ i = .int .i64 k ∧ Hid (wr.heap[M]? = some (.cells (machCells (.slice (some ⟨b, off, none⟩) n cap) N n) 160 (0, 0))) ∧ Hid (wr.ownsRow N 156 1 (.slice (some ⟨N, 0, none⟩) n n) n ys) ∧ Hid (TreesTo wr ps k ys) ∧ Below N w wr) (fun i _ => n - (intOf i).toNat)
  case atStart => exact ⟨0, xs, Nat.zero_le _, rfl, HM1, HO1, Lib.hid (fun j x hj => absurd hj (Nat.not_lt_zero _)), HB1.out⟩
  case round =>
    clear HM1 HO1 HB1 hMs
    obtain ⟨k, ys, hk, rfl, HM, HO, HT, hb⟩ := hrel
    have hNw : N ≤ wr.heap.size := by have := HNN.out; have := hb.size; omega
    have hMlt : M < wr.heap.size := (Array.getElem?_eq_some_iff.1 HM.out).1
    by_cases hlt : k < n
    · obtain ⟨x, hx⟩ := get_at (ps := ps) (k := k) (by have := HN.out; omega)
      obtain ⟨a0, a1, a2, a3, a4⟩ := HP.out.2 k x hx
      have k0 := (hb.cell (p := ⟨b, off + k * 5, none⟩) hbw).trans a0
      have k1 := (hb.cell (p := ⟨b, off + k * 5 + 1, none⟩) hbw).trans a1
      have k2 := (hb.cell (p := ⟨b, off + k * 5 + 2, none⟩) hbw).trans a2
      have k3 := (hb.cell (p := ⟨b, off + k * 5 + 3, none⟩) hbw).trans a3
      have k4 := (hb.cell (p := ⟨b, off + k * 5 + 4, none⟩) hbw).trans a4
      have HX := Lib.hid hx
      have hk1 : (k : Int) < (n : Int) := by omega
      have hk0 : (0 : Int) ≤ (k : Int) := by omega
      clear hx a0 a1 a2 a3 a4
      by_cases h0 : x.op = 0
      · have HS := Lib.hid (fun W => share_any (S x.tree) W (HV.out.tree HX.out h0))
        have H0 := Lib.hid h0
        rw [h0] at k0
        clear h0
        have hbx : Below wr.heap.size wr (wr.alloc (.cells #[.int .i64 0, .int .i64 x.a, .int .i64 x.b, .int .i64 x.c, .string (S x.tree)] 64)) := (Below.refl _ _).alloc (Nat.le_refl _) _
        have m1 : wr.cell? ⟨M, 1, none⟩ = some (.slice (some ⟨N, 0, none⟩) n n) := Lib.cell_of_heap HM.out 1
        have b4 : (wr.alloc (.cells #[.int .i64 0, .int .i64 x.a, .int .i64 x.b, .int .i64 x.c, .string (S x.tree)] 64)).cell? ⟨wr.heap.size, 4, none⟩ = some (.string (S x.tree)) := by rw [World.cell?_alloc_new]; rfl
        have b1 := cell_keep hbx m1
        have hn1 : (⟨N, k, none⟩ : Addr) ≠ ⟨M, 1, none⟩ := fun e => by
          injection e with e1
          have h9 := own_tag HO.out (k := N) rfl
          rw [e1] at h9
          exact h9.ne (τ := 160) (by decide) ⟨_, (), HM.out⟩
        have hn2 : (⟨N, k, none⟩ : Addr) ≠ ⟨wr.heap.size, 4, none⟩ := fun e => by
          injection e with e1
          have h9 := (own_tag HO.out (k := N) rfl).lt
          omega
        have HN1 := Lib.hid hn1; have HN2 := Lib.hid hn2; clear hn1 hn2
        have B4 := Lib.hid b4; have B1 := Lib.hid b1; have HBX := Lib.hid hbx
        obtain ⟨u0, hu0⟩ := own_cell1 HO.out k hlt
        have hf0 := HO.out.frozenAt k
        have HU0 := Lib.hid (cell_keep hbx hu0)
        have HF0 := Lib.hid ((hbx.frozen (p := ⟨N, k, none⟩) (cell_lt hu0)).trans hf0)
        clear b4 b1 hbx hu0 hf0
        go_wp2_with fail
        go_region_held3 (fun w' => w'.cell? ⟨M, 1, none⟩ = some (.slice (some ⟨N, 0, none⟩) n n) ∧ w'.cell? ⟨wr.heap.size, 4, none⟩ = some (.string (S x.tree)))
          (first | exact ⟨B1.out, B4.out⟩ | exact ⟨g1, g2⟩ | exact ⟨j1, j2⟩ | go_keep)
          (first | (go_simp; go_at_call 181; refine (HS.out _).mono ?_; rintro e w2 ⟨v2, rfl, hv2, hb2⟩; obtain ⟨V2, rfl⟩ := hv2.one; have g1 := cell_keep hb2 B1.out; have g2 := cell_keep hb2 B4.out; have g3 := cell_keep hb2 HU0.out; have g4 := (hb2.frozen (p := ⟨N, k, none⟩) (cell_lt HU0.out)).trans HF0.out; have j1 := (set_other (v := .pointer V2) HN1.out).trans g1; have j2 := (set_other (v := .pointer V2) HN2.out).trans g2))
        have hw2 : Below wr.heap.size wr w2 := HBX.out.drew.trans (hb2.mono (by simp))
        have hbN : Below N w w2 := hb.trans (hw2.mono hNw)
        have HB3 := Lib.hid (hbN.setCell (p := ⟨N, k, none⟩) (Nat.le_refl N) (.pointer V2))
        have HM3 : Hid ((w2.setCell ⟨N, k, none⟩ (.pointer V2)).heap[M]? = some (.cells (machCells (.slice (some ⟨b, off, none⟩) n cap) N n) 160 (0, 0))) := Lib.hid (by
          rw [Below.heap_setCell _ _ _ _ (fun e => by have h9 := own_tag HO.out (k := N) rfl; rw [← show M = N from e] at h9; exact h9.ne (τ := 160) (by decide) ⟨_, (), HM.out⟩), hw2.block M hMlt, HM.out])
        have HO3 := Lib.hid ((own_below HO.out hw2).stored k (.pointer V2)).1
        have hKN : KeepT 202 w2 (w2.setCell ⟨N, k, none⟩ (.pointer V2)) := KeepT.setCell ((own_tag (own_below HO.out hw2) (k := N) rfl).ne (by decide)) _
        have hKW := (KeepT.below hw2).trans hKN
        have hyl : ys.length = n := by have := HO.out.1; omega
        have HT3 : Hid (TreesTo (w2.setCell ⟨N, k, none⟩ (.pointer V2)) ps (k + 1) (ys.set k (.pointer V2))) := Lib.hid (fun j y hj hy hy0 => by
          by_cases e : j = k
          · subst e
            have h1 := HX.out
            rw [hy] at h1
            cases h1
            refine ⟨.pointer V2, by rw [List.getElem?_set_self (by omega)], ?_⟩
            exact NodeW.keep hv2 hKN
          · obtain ⟨z, z1, z2⟩ := HT.out j y (by omega) hy hy0
            exact ⟨z, by rw [List.getElem?_set_ne (fun h => e h.symm), z1], NodeW.keep z2 hKW⟩)
        clear hw2 hbN hKN hKW hyl hv2 hb2 g1 g2 g3 g4 j1 j2 hb
        go_wp2_with fail
        go_roundw
        case rel => exact ⟨k + 1, _, by omega, by go_num, HM3, HO3, HT3, HB3.out⟩
        case measure => simp [intOf]; omega
      · have hz : (x.op == 0) = false := beq_eq_false_iff_ne.2 h0
        have HT1 : Hid (TreesTo wr ps (k + 1) ys) := Lib.hid (fun j y hj hy hy0 => by
          by_cases e : j = k
          · subst e
            have h1 := HX.out
            rw [hy] at h1
            cases h1; exact absurd hy0 h0
          · exact HT.out j y (by omega) hy hy0)
        have HB2 := Lib.hid (hb.alloc hNw (.cells #[.int .i64 x.op, .int .i64 x.a, .int .i64 x.b, .int .i64 x.c, .string (S x.tree)] 64))
        have HK : Hid (KeepT 202 wr (wr.alloc (.cells #[.int .i64 x.op, .int .i64 x.a, .int .i64 x.b, .int .i64 x.c, .string (S x.tree)] 64))) := Lib.hid (KeepT.alloc _ _ _)
        have HO2 := Lib.hid (HO.out.alloc (.cells #[.int .i64 x.op, .int .i64 x.a, .int .i64 x.b, .int .i64 x.c, .string (S x.tree)] 64))
        have HM2 : Hid ((wr.alloc (.cells #[.int .i64 x.op, .int .i64 x.a, .int .i64 x.b, .int .i64 x.c, .string (S x.tree)] 64)).heap[M]? = _) := Lib.hid ((Lib.alloc_old wr _ M hMlt).trans HM.out)
        clear h0 hb
        go_wp2_with fail
        go_roundw
        case rel => exact ⟨k + 1, ys, by omega, by go_num, HM2, HO2, Lib.hid (fun j y hj hy hy0 => by obtain ⟨z, z1, z2⟩ := HT1.out j y hj hy hy0; exact ⟨z, z1, NodeW.keep z2 HK.out⟩), HB2.out⟩
        case measure => simp [intOf]; omega
    · obtain rfl : k = n := by omega
      go_wp2_with fail
      go_ret
      exact ⟨M, N, rfl, by rw [← HNN.out, ← HN.out]; exact HMM.out wr M N ys HM.out HO.out HT.out HA.out hb trivial hNM, by rw [← HNN.out]; exact hNM, ⟨_, (), HM.out⟩, by rw [← HNN.out]; exact hb⟩
set_option maxHeartbeats 3200000 in
set_option maxRecDepth 100000 in
theorem newMachine_none (w : World) (A : Option Addr) (cap : Nat) (hv : Value.slice A 0 cap = .slice none 0 0 ∨ ∃ ad c, Value.slice A 0 cap = .slice (some ad) 0 c) :
    Calls Tryz.prog 180 #[.slice A 0 cap] w (NewOut w (.slice A 0 cap) []) := by
  obtain ⟨i0, hi, hz0, hz1, hz2⟩ := info_parts Tryz.infoNode
  have HMM := Lib.hid (fun W M C (ys : List Value) => mach_made (w := w) (W := W) (M := M) (C := C) (n0 := w.heap.size) (ps := []) (ys := ys) (v := .slice A 0 cap))
  have HV := Lib.hid hv
  clear hv
  go_enter Tryz.func180, Tryz.ntmps180
  go_wp2_with (at_make; refine wpList_make_full _ rfl _ _ 157 rfl w.heap.size 156 i0 (.pointer none) 1 Tryz.underlying157 hi hz0 hz1 .i64 .i64 _ _ 0 rfl rfl rfl rfl (by rw [hz2]; omega) (by unfold maxLen; omega) (Nat.le_refl _) ?_)
  intro w1 hown hgrow
  have hb1 : Below w.heap.size w w1 := (Below.refl _ _).grown hgrow (Nat.le_refl _) (by simp)
  obtain ⟨xs, HO⟩ : ∃ xs, Hid (w1.ownsRow w.heap.size 156 1 (.slice (some ⟨w.heap.size, 0, none⟩) 0 0) 0 xs) := ⟨_, Lib.hid hown⟩
  clear hown hgrow hi hz0 hz1 hz2
  have hsz1 := hb1.size
  have HM1 : Hid ((w1.alloc (.cells (machCells (.slice A 0 cap) w.heap.size 0) 160)).heap[w1.heap.size]? = some (.cells (machCells (.slice A 0 cap) w.heap.size 0) 160 (0, 0))) := Lib.hid (heap_alloc_new _ _)
  have HO1 := Lib.hid (HO.out.alloc (.cells (machCells (.slice A 0 cap) w.heap.size 0) 160))
  have HB1 := Lib.hid (hb1.alloc hsz1 (.cells (machCells (.slice A 0 cap) w.heap.size 0) 160))
  clear HO hb1
  go_wp2
  change Code.wp _ _ _ _ (w1.alloc (.cells (machCells (.slice A 0 cap) w.heap.size 0) 160))
  go_loopw [14] (fun i wr => i = .int .i64 0 ∧ wr = w1.alloc (.cells (machCells (.slice A 0 cap) w.heap.size 0) 160)) (fun _ _ => 0)
  case atStart => exact ⟨rfl, rfl⟩
  case round =>
    obtain ⟨rfl, rfl⟩ := hrel
    go_wp2
    go_ret
    exact ⟨_, _, rfl, HMM.out _ _ _ xs HM1.out HO1.out (fun j x hj => absurd hj (Nat.not_lt_zero _)) (.inl ⟨rfl, HV.out⟩) HB1.out trivial hsz1, hsz1, ⟨_, (), HM1.out⟩, HB1.out⟩
theorem newMachine_any (w : World) (v : Value) (ps : List Ins) (h : ArgP w v ps) (hv : PValid ps) : Calls Tryz.prog 180 #[v] w (NewOut w v ps) := by
  rcases h with ⟨rfl, h⟩ | ⟨h0, b, off, cap, rfl, hP⟩
  · obtain ⟨A, cap, rfl⟩ := empty_arg h
    exact newMachine_none w A cap h
  · exact newMachine_some w b off cap ps hP h0 hv
end Go.Proofs.YtmhoacnbmbhcjaaGreatDoor

namespace Go.Proofs.YtmhoacnbmbhcjaaGreatDoor
open Go.RowKit

section
variable {P : Program} {w : World} {n : Nat}
/-- how a round's body may be left: it goes on, or it returns -/
def RoundOut (B : Nat) (I' : World → Prop) (Ix : World → Prop) (W : World) : Exit → Act → World → Prop
  | .normal, _, W' => KeepsFrom B W W' ∧ I' W'
  | .ret, _, W' => KeepsFrom B W W' ∧ Ix W'
  | _, _, _ => False
theorem range_shared {g : Operand} {ps : Array Tmp} {assign body : Code} {Q : Exit → Act → World → Prop} {a : Act}
    {gf : Nat} {fi lb : Array Value} (hg : a.eval g = .func (.func gf) fi lb) (eg : ∀ args w, (callFunc gf args).run P w = .ok (.enter gf args) w) (hps : ps.size = 1)
    (I I' : Nat → World → Prop) (Ix Dn : World → Prop) (hI : OwnFrom w.heap.size I) (hI' : OwnFrom w.heap.size I') (hIx : OwnFrom w.heap.size (fun (_ : Unit) W => Ix W)) (hDn : OwnFrom w.heap.size (fun (_ : Unit) W => Dn W)) (h0 : I 0 w)
    (hseq : ∀ (l : Nat) (Z Jx : World → Prop), (∀ W W', KeepsFrom w.heap.size W W' → Z W → Z W') →
      (∀ k W, I k W → Z W → YieldAt Fence.wide (n - 1 - 1) P l #[.int .i64 (k : Int)] W fun e W' => (e = .returned (.bool true) ∧ I' k W' ∧ Z W') ∨ (e = .returned (.bool false) ∧ Jx W')) →
      ∀ W, I 0 W → Z W → CallsIn Fence.wide (n - 1) P gf (fi ++ #[.func (.yield l) #[] #[]] ++ lb) W fun e W' => (∃ v, e = .returned v) ∧ ((Dn W' ∧ Z W') ∨ Jx W'))
    (hround : ∀ (l k : Nat) (W : World), I k W → assign.wpIn (Fence.wide.inRound l) (n - 1 - 1) P (Exit.then (fun a₁ W₁ => W₁ = W ∧ ∀ W₂, I k W₂ → body.wpIn (Fence.wide.inRound l) (n - 1 - 1) P (RoundOut w.heap.size (I' k) Ix W₂) a₁ W₂) (fun _ _ _ => False)) { tmps := (ps.zip #[.int .i64 (k : Int)]).foldl (fun t (p, v) => t.setIfInBounds p v) a.tmps, defers := [] } W)
    (hdone : ∀ (D : Nat) (W : World), w.heap.size ≤ D → Dn W → W.heap[D]? = some (.deferred (some [])) → Q .normal { a with defers := { target := .collected D, args := #[] } :: a.defers } W)
    (hstop : ∀ (D : Nat) (W : World), w.heap.size ≤ D → Ix W → W.heap[D]? = some (.deferred (some [])) → Code.ret.wpIn Fence.wide n P Q { a with defers := { target := .collected D, args := #[] } :: a.defers } W) :
    (Code.rangeFunc g ps assign body).wpIn Fence.wide n P Q a w := by
  refine wpIn_rangeFunc ?_
  intro fn hfn
  have hro : Fence.wide.round = none := rfl
  rw [hro]
  let rec_ : LoopState → Option Code → Loop := fun st pe => { state := st, pending := pe, fn, tmps := a.tmps, params := ps, assign, body, defers := w.heap.size }
  let W1 := (w.alloc (.deferred (some []))).alloc (.loop (rec_ .ready none))
  have hL1 : W1.heap[w.heap.size + 1]? = some (.loop (rec_ .ready none)) := by
    have := World.alloc_heap_new (w.alloc (.deferred (some []))) (.loop (rec_ .ready none)); rwa [World.size_alloc] at this
  have hK1 : W1.heap[w.heap.size]? = some (.deferred (some [])) := (Below.heap_alloc _ _ _ (by simp)).trans (World.alloc_heap_new w _)
  have hI1 : I 0 W1 := hI.alloc _ (hI.alloc _ h0)
  let Z : World → Prop := fun W => W.heap[w.heap.size + 1]? = some (.loop (rec_ .ready none)) ∧ W.heap[w.heap.size]? = some (.deferred (some []))
  let Jx : World → Prop := fun W => Ix W ∧ W.heap[w.heap.size + 1]? = some (.loop (rec_ .done (some .ret))) ∧ W.heap[w.heap.size]? = some (.deferred (some []))
  have hZ : ∀ W W', KeepsFrom w.heap.size W W' → Z W → Z W' := fun W W' h hz => ⟨h.same _ _ (by omega) hz.1 rfl, h.same _ _ (Nat.le_refl _) hz.2 rfl⟩
  refine ⟨w.heap.size + 1, [{ target := .collected w.heap.size, args := #[] }], W1, { target := .fn (.func gf) lb, args := fi ++ #[.func (.yield (w.heap.size + 1)) #[] #[]] }, W1, gf,
    fi ++ #[.func (.yield (w.heap.size + 1)) #[] #[]] ++ lb, W1, ?_, ?_, ?_, ?_, fun h => ?_, ?_⟩
  · exact run_enterLoop_outer _ _ _ _ _
  · simp only [resolve, hg]
    simp [go_sem]
  · intro f' _; trivial
  · simp [invoke, go_sem, eg]
  · simp [Fence.wide] at h
  · refine (hseq (w.heap.size + 1) Z Jx hZ ?_ W1 hI1 ⟨hL1, hK1⟩).mono ?_
    · rintro k W hi ⟨hl, hk⟩
      have hlt : w.heap.size + 1 < W.heap.size := (Array.getElem?_eq_some_iff.1 hl).1
      refine ⟨fn, _, assign, body, run_yield (P := P) (args := #[.int .i64 (k : Int)]) hl (by rw [show (rec_ .ready none).params = ps from rfl, hps]; rfl), roundIn_of_wpIn hfn (wpIn_mono (hround (w.heap.size + 1) k W hi) ?_)⟩
      rintro e a1 W1 hp1
      cases e with
      | normal => ?_
      | ret => exact hp1.elim
      | exit id => exact hp1.elim
      | goto t => exact hp1.elim
      | panic ch => exact hp1.elim
      | outgrown => exact hp1.elim
      obtain ⟨hW1, hbody⟩ := hp1
      rw [hW1]
      refine ⟨_, run_beginRound hl rfl, ?_⟩
      have hi2 : I k (W.putObj (w.heap.size + 1) (.loop { rec_ .ready none with state := .busy })) := hI.putObj _ hi (by omega) hl rfl
      have hl2 : (W.putObj (w.heap.size + 1) (.loop { rec_ .ready none with state := .busy })).heap[w.heap.size + 1]? = some (.loop { rec_ .ready none with state := .busy }) := World.putObj_heap_same hlt
      have hk2 : (W.putObj (w.heap.size + 1) (.loop { rec_ .ready none with state := .busy })).heap[w.heap.size]? = some (.deferred (some [])) := (World.putObj_heap_other (by omega)).trans hk
      refine wpIn_mono (hbody _ hi2) ?_
      rintro e a3 W3 hp
      cases e with
      | normal =>
        obtain ⟨hk3, hi3⟩ := hp
        have hl3 := hk3.same _ _ (by omega) hl2 rfl
        have hd3 := hk3.same _ _ (Nat.le_refl _) hk2 rfl
        exact ⟨_, _, run_endRound none hl3, .inl ⟨rfl, hI'.putObj _ hi3 (by omega) hl3 rfl, World.putObj_heap_same (Array.getElem?_eq_some_iff.1 hl3).1, (World.putObj_heap_other (by omega)).trans hd3⟩⟩
      | ret =>
        obtain ⟨hk3, hi3⟩ := hp
        have hl3 := hk3.same _ _ (by omega) hl2 rfl
        have hd3 := hk3.same _ _ (Nat.le_refl _) hk2 rfl
        exact ⟨_, _, run_endRound (some .ret) hl3, .inr ⟨rfl, hIx.putObj (s := ()) _ hi3 (by omega) hl3 rfl, World.putObj_heap_same (Array.getElem?_eq_some_iff.1 hl3).1, (World.putObj_heap_other (by omega)).trans hd3⟩⟩
      | exit id => exact hp.elim
      | goto t => exact hp.elim
      | panic ch => exact hp.elim
      | outgrown => exact hp.elim
    · rintro e W2 ⟨⟨v, rfl⟩, (⟨hd, hl, hk⟩ | ⟨hi, hl, hk⟩)⟩
      · exact ⟨none, _, run_endLoop (P := P) hl (by simp [rec_]), hdone _ _ (Nat.le_refl _) (hDn.putObj (s := ()) _ hd (by omega) hl rfl) ((World.putObj_heap_other (by omega)).trans hk)⟩
      · exact ⟨some .ret, _, run_endLoop (P := P) hl (by simp [rec_]), hstop _ _ (Nat.le_refl _) (hIx.putObj (s := ()) _ hi (by omega) hl rfl) ((World.putObj_heap_other (by omega)).trans hk)⟩
end
theorem But.keepsFrom {M B : Nat} {w w' : World} (h : But M w w') (hM : ∃ C τ fr, w.heap[M]? = some (.cells C τ fr)) : KeepsFrom B w w' :=
  ⟨h.size, fun k o _ hk ho => by
    by_cases e : k = M
    · subst e
      obtain ⟨C, τ, fr, h1⟩ := hM
      rw [h1] at hk; cases hk; cases ho
    · rw [h.block k (Array.getElem?_eq_some_iff.1 hk).1 e]; exact hk⟩
end Go.Proofs.YtmhoacnbmbhcjaaGreatDoor

namespace Go.Proofs.YtmhoacnbmbhcjaaGreatDoor
open Go.RowKit Pl

attribute [local go_sem] Oper.semAt_some

/-- a machine after k steps -/
def RunI (M C n0 K : Nat) (ps : List Ins) (s0 : St) (Zb : World → Prop) (k : Nat) (W : World) : Prop := ∃ s, Steps ps s0 k s ∧ k ≤ K ∧ Mach W n0 M C ps s ∧ Zb W
/-- .. that goes on -/
def RunI' (M C n0 K : Nat) (ps : List Ins) (s0 : St) (Zb : World → Prop) (k : Nat) (W : World) : Prop := ∃ s, Steps ps s0 k s ∧ k < K ∧ s.at_ ≠ ps.length ∧ Mach W n0 M C ps s ∧ Zb W
/-- .. whose next step is too large -/
def RunD (K : Nat) (ps : List Ins) (s0 : St) (Zb : World → Prop) (W : World) : Prop := ∃ k s, Steps ps s0 k s ∧ k < K ∧ s.at_ ≠ ps.length ∧ stepP ps s = none ∧ Zb W

theorem ended_is {w : World} {n0 M C : Nat} {ps : List Ins} {s : St} (hm : Mach w n0 M C ps s) (hv : PValid ps) (hs : s.ok ps.length) :
    Calls Tryz.prog 140 #[.pointer (some ⟨M, 0, none⟩)] w fun e w' => e = .returned (.bool (s.at_ == ps.length)) ∧ ∃ q, w' = w.drewN q := by
  obtain ⟨v, m0, hA, _⟩ := hm.prog
  obtain ⟨A, cap, rfl⟩ : ∃ A cap, v = .slice A ps.length cap := by
    rcases hA with ⟨rfl, h⟩ | ⟨_, b, off, cap, rfl, _⟩
    · obtain ⟨A, cap, rfl⟩ := empty_arg h
      exact ⟨A, cap, rfl⟩
    · exact ⟨_, _, rfl⟩
  exact ended_any w M ps.length cap s.at_ A hv.1 hs.1 m0 hm.place
theorem ended_not {w : World} {n0 M C : Nat} {ps : List Ins} {s : St} (hm : Mach w n0 M C ps s) (hv : PValid ps) (hs : s.ok ps.length) (hne : s.at_ ≠ ps.length) :
    Calls Tryz.prog 140 #[.pointer (some ⟨M, 0, none⟩)] w fun e w' => e = .returned (.bool false) ∧ ∃ q, w' = w.drewN q := by
  have := ended_is hm hv hs
  rwa [show (s.at_ == ps.length) = false from by simp [hne]] at this
theorem step_yes {w : World} {n0 M C : Nat} {ps : List Ins} {s s' : St} (hm : Mach w n0 M C ps s) (hv : PValid ps) (hs : s.ok ps.length) (hne : s.at_ ≠ ps.length) (h : stepP ps s = some s') :
    Calls Tryz.prog 216 #[.pointer (some ⟨M, 0, none⟩)] w fun e w' => e = .returned (.bool true) ∧ Mach w' n0 M C ps s' ∧ But M w w' :=
  (step_any w n0 M C ps s hm hv hs (by have := hs.1; omega)).mono fun e w' ⟨h1, h2⟩ => by rw [h] at h2; exact ⟨h2.1, h2.2, h1⟩
theorem step_no {w : World} {n0 M C : Nat} {ps : List Ins} {s : St} (hm : Mach w n0 M C ps s) (hv : PValid ps) (hs : s.ok ps.length) (hne : s.at_ ≠ ps.length) (h : stepP ps s = none) :
    Calls Tryz.prog 216 #[.pointer (some ⟨M, 0, none⟩)] w fun e w' => e = .returned (.bool false) ∧ Mach w' n0 M C ps s ∧ But M w w' :=
  (step_any w n0 M C ps s hm hv hs (by have := hs.1; omega)).mono fun e w' ⟨h1, h2⟩ => by rw [h] at h2; exact ⟨h2.1, h2.2, h1⟩

set_option maxRecDepth 100000 in
set_option maxHeartbeats 2000000 in
theorem states_in (n l M C n0 K : Nat) (ps : List Ins) (s0 : St) (hv : PValid ps) (hs0 : s0.ok ps.length) (hK : K ≤ 10000000) (Zb Z Jx : World → Prop)
    (hZb : ∀ W W', But M W W' → Zb W → Zb W') (hZ : ∀ W W', But M W W' → TagB W M 160 → Z W → Z W')
    (hY : ∀ k W, RunI M C n0 K ps s0 Zb k W → Z W → YieldAt Fence.wide (n - 1) Tryz.prog l #[.int .i64 (k : Int)] W fun e W' => (e = .returned (.bool true) ∧ RunI' M C n0 K ps s0 Zb k W' ∧ Z W') ∨ (e = .returned (.bool false) ∧ Jx W'))
    (W : World) (h0 : RunI M C n0 K ps s0 Zb 0 W) (hz : Z W) :
    CallsIn Fence.wide n Tryz.prog 182 #[.pointer (some ⟨M, 0, none⟩), .func (.yield l) #[] #[]] W fun e W' => (∃ v, e = .returned v) ∧ ((RunD K ps s0 Zb W' ∧ Z W') ∨ Jx W') := by
  have HY := Lib.hid hY; have HZ := Lib.hid hZ; have HZB := Lib.hid hZb; have H0 := Lib.hid h0; have HZ0 := Lib.hid hz
  have HV := Lib.hid hv; have HS0 := Lib.hid hs0
  clear hY hZ hZb h0 hz hv hs0
  refine callsIn_of_wp Tryz.func182 rfl trivial ?_ rfl
  simp only [Tryz.ntmps182, List.size_toArray, List.length_cons, List.length_nil, Nat.reduceAdd, Nat.reduceSub, Array.replicate_succ, Array.replicate_zero, List.push_toArray, List.append_toArray, List.nil_append, List.cons_append]
  gi_wp2
  gi_loopw [4] (fun i wr => ∃ k : Nat, k ≤ K ∧ i = .int .i64 (k : Int) ∧ Hid (RunI M C n0 K ps s0 Zb k wr) ∧ Hid (Z wr)) (fun i _ => K + 1 - (intOf i).toNat)
  case atStart => exact ⟨0, Nat.zero_le _, rfl, H0, HZ0⟩
  case round =>
    obtain ⟨k, hk, rfl, HI, HZw⟩ := hrel
    obtain ⟨fn, tmps, assign, body, hy, hR⟩ := HY.out k wr HI.out HZw.out
    gi_wp2
    refine ⟨fun h => by simp [Fence.wide] at h, hR.mono ?_⟩
    clear hy hR HI HZw
    rintro e W3 (⟨rfl, ⟨s, hst, hkK, hne, hM, hZb⟩, hZ3⟩ | ⟨rfl, hJ⟩)
    · have HE := Lib.hid (ended_not hM HV.out (hst.ok HV.out HS0.out) hne)
      have HM := Lib.hid hM; have HST := Lib.hid hst; have HNE := Lib.hid hne; have HB3 := Lib.hid hZb; have HZ3 := Lib.hid hZ3
      clear hM hst hne hZb hZ3
      gi_wp2_with fail
      refine ⟨trivial, fun h => by simp [Fence.wide] at h, (callsIn_wide.2 HE.out).mono ?_⟩
      rintro e W4 ⟨rfl, q, rfl⟩
      have hbd : Below W3.heap.size W3 (W3.drewN q) := bdrewN (Below.refl _ _) q
      have HM4 := Lib.hid (HM.out.below hbd)
      have HB4 := Lib.hid (HZB.out _ _ (But.of_below hbd) HB3.out)
      have HZ4 := Lib.hid (HZ.out _ _ (But.of_below hbd) HM.out.tagM HZ3.out)
      clear hbd HE
      cases hs : stepP ps s with
      | some s' =>
        have HS := Lib.hid (step_yes HM4.out HV.out (HST.out.ok HV.out HS0.out) HNE.out hs)
        have HST' := Lib.hid (Steps.succ HST.out HNE.out hs)
        clear hs
        gi_wp2_with fail
        refine ⟨trivial, fun h => by simp [Fence.wide] at h, (callsIn_wide.2 HS.out).mono ?_⟩
        rintro e W5 ⟨rfl, hM5, hb5⟩
        have HI5 : Hid (RunI M C n0 K ps s0 Zb (k + 1) W5) := Lib.hid ⟨s', HST'.out, by omega, hM5, HZB.out _ _ hb5 HB4.out⟩
        have HZ5 := Lib.hid (HZ.out _ _ hb5 HM4.out.tagM HZ4.out)
        clear hM5 hb5
        gi_wp2
        go_roundw
        case rel => exact ⟨k + 1, by omega, by go_num, HI5, HZ5⟩
        case measure => simp [intOf]; omega
      | none =>
        have HS := Lib.hid (step_no HM4.out HV.out (HST.out.ok HV.out HS0.out) HNE.out hs)
        have HN := Lib.hid hs
        clear hs
        gi_wp2_with fail
        refine ⟨trivial, fun h => by simp [Fence.wide] at h, (callsIn_wide.2 HS.out).mono ?_⟩
        rintro e W5 ⟨rfl, hM5, hb5⟩
        have HD : Hid (RunD K ps s0 Zb W5 ∧ Z W5) := Lib.hid ⟨⟨k, s, HST.out, hkK, HNE.out, HN.out, HZB.out _ _ hb5 HB4.out⟩, HZ.out _ _ hb5 HM4.out.tagM HZ4.out⟩
        clear hM5 hb5
        gi_wp2
        go_end0
        exact ⟨⟨_, rfl⟩, .inl HD.out⟩
    · have HJ := Lib.hid hJ
      clear hJ
      gi_wp2_with fail
      refine ⟨trivial, ?_⟩
      gi_wp2_with fail
      refine ⟨trivial, ?_⟩
      gi_wp2
      go_end0
      exact ⟨⟨_, rfl⟩, .inr HJ.out⟩
end Go.Proofs.YtmhoacnbmbhcjaaGreatDoor

namespace Go.Proofs.YtmhoacnbmbhcjaaGreatDoor
open Go.RowKit Pl

attribute [local go_sem] Oper.semAt_some

/-- what advance returns -/
def AdvOut (w : World) (ps : List Ins) (t : Tr) (K : Nat) (e : Ending) (w' : World) : Prop :=
  Below w.heap.size w w' ∧ match runTo ps K (first t) with
    | some (s, n) => ∃ n0 M C, e = .returned (.tuple #[.pointer (some ⟨M, 0, none⟩), .int .i64 (n : Int), .int .i64 0]) ∧ Mach w' n0 M C ps s ∧ w.heap.size ≤ n0
    | none => e = .returned (.tuple #[.pointer none, .int .i64 0, .int .i64 3])
/-- what advance has in boxes: k, and its results -/
structure Res (w : World) (k : Int) (W : World) : Prop where
  c0 : W.cell? ⟨w.heap.size, 0, none⟩ = some (.int .i64 k)
  c1 : W.cell? ⟨w.heap.size + 1, 0, none⟩ = some (.pointer none)
  c2 : W.cell? ⟨w.heap.size + 1 + 1, 0, none⟩ = some (.int .i64 0)
  c3 : W.cell? ⟨w.heap.size + 1 + 1 + 1, 0, none⟩ = some (.int .i64 0)
  f1 : W.frozen? ⟨w.heap.size + 1, 0, none⟩ = false
  f2 : W.frozen? ⟨w.heap.size + 1 + 1, 0, none⟩ = false
  f3 : W.frozen? ⟨w.heap.size + 1 + 1 + 1, 0, none⟩ = false
  size : w.heap.size + 1 + 1 + 1 < W.heap.size
  below : Below w.heap.size w W
  tags : ∀ b, w.heap.size ≤ b → b ≤ w.heap.size + 1 + 1 + 1 → ¬ TagB W b 156 ∧ ¬ TagB W b 202
def res0 (w : World) (k : Int) : World := ((((w.alloc (.cells #[.int .i64 k] 3)).alloc (.cells #[.pointer none] 153)).alloc (.cells #[.int .i64 0] 3)).alloc (.cells #[.int .i64 0] 27))
theorem Res.keep {w W W' : World} {k : Int} (h : Res w k W) (hs : W.heap.size ≤ W'.heap.size) (hb : Below w.heap.size w W') (hk : ∀ b, w.heap.size ≤ b → b ≤ w.heap.size + 1 + 1 + 1 → W'.heap[b]? = W.heap[b]?) : Res w k W' :=
  have e : ∀ b, w.heap.size ≤ b → b ≤ w.heap.size + 1 + 1 + 1 → W'.cell? ⟨b, 0, none⟩ = W.cell? ⟨b, 0, none⟩ := fun b h1 h2 => World.cell?_of_block (w := W) (a := ⟨b, 0, none⟩) (hk b h1 h2)
  have g : ∀ b, w.heap.size ≤ b → b ≤ w.heap.size + 1 + 1 + 1 → W'.frozen? ⟨b, 0, none⟩ = W.frozen? ⟨b, 0, none⟩ := fun b h1 h2 => World.frozen?_of_block (w := W) (a := ⟨b, 0, none⟩) (hk b h1 h2)
  ⟨(e _ (by omega) (by omega)).trans h.c0, (e _ (by omega) (by omega)).trans h.c1, (e _ (by omega) (by omega)).trans h.c2, (e _ (by omega) (by omega)).trans h.c3,
    (g _ (by omega) (by omega)).trans h.f1, (g _ (by omega) (by omega)).trans h.f2, (g _ (by omega) (by omega)).trans h.f3, Nat.lt_of_lt_of_le h.size hs, hb, fun b h1 h2 => ⟨fun ⟨C, fr, e⟩ => (h.tags b h1 h2).1 ⟨C, fr, (hk b h1 h2) ▸ e⟩, fun ⟨C, fr, e⟩ => (h.tags b h1 h2).2 ⟨C, fr, (hk b h1 h2) ▸ e⟩⟩⟩
theorem Res.later {w W W' : World} {k : Int} (h : Res w k W) (hb : Below W.heap.size W W') : Res w k W' :=
  h.keep hb.size (h.below.trans (hb.mono (by have := h.size; omega))) fun b _ h2 => hb.block b (by have := h.size; omega)
theorem res0_is (w : World) (k : Int) : Res w k (res0 w k) := by
  have b0 := (((Boxed.new w 3 (.int .i64 k)).alloc (.cells #[.pointer none] 153)).alloc (.cells #[.int .i64 0] 3)).alloc (.cells #[.int .i64 0] 27)
  have b1 := ((Boxed.new (w.alloc (.cells #[.int .i64 k] 3)) 153 (.pointer none)).alloc (.cells #[.int .i64 0] 3)).alloc (.cells #[.int .i64 0] 27)
  have b2 := (Boxed.new ((w.alloc (.cells #[.int .i64 k] 3)).alloc (.cells #[.pointer none] 153)) 3 (.int .i64 0)).alloc (.cells #[.int .i64 0] 27)
  have b3 := Boxed.new (((w.alloc (.cells #[.int .i64 k] 3)).alloc (.cells #[.pointer none] 153)).alloc (.cells #[.int .i64 0] 3)) 27 (.int .i64 0)
  simp only [World.size_alloc] at b1 b2 b3
  refine ⟨b0.cell, b1.cell, b2.cell, b3.cell, b1.frozen, b2.frozen, b3.frozen, by simp [res0], ((((Below.refl _ w).alloc (Nat.le_refl _) _).alloc (by simp) _).alloc (by simp; omega) _).alloc (by simp; omega) _, fun b h1 h2 => ?_⟩
  rcases (by omega : b = w.heap.size ∨ b = w.heap.size + 1 ∨ b = w.heap.size + 1 + 1 ∨ b = w.heap.size + 1 + 1 + 1) with rfl | rfl | rfl | rfl
  · exact ⟨TagB.ne ⟨_, (), b0⟩ (by decide), TagB.ne ⟨_, (), b0⟩ (by decide)⟩
  · exact ⟨TagB.ne ⟨_, (), b1⟩ (by decide), TagB.ne ⟨_, (), b1⟩ (by decide)⟩
  · exact ⟨TagB.ne ⟨_, (), b2⟩ (by decide), TagB.ne ⟨_, (), b2⟩ (by decide)⟩
  · exact ⟨TagB.ne ⟨_, (), b3⟩ (by decide), TagB.ne ⟨_, (), b3⟩ (by decide)⟩
def resSet (w W : World) (a b c : Value) : World := ((W.setCell ⟨w.heap.size + 1, 0, none⟩ a).setCell ⟨w.heap.size + 1 + 1, 0, none⟩ b).setCell ⟨w.heap.size + 1 + 1 + 1, 0, none⟩ c
theorem blk_ne {a b : Nat} (h : a ≠ b) : (⟨a, 0, none⟩ : Addr) ≠ ⟨b, 0, none⟩ := fun e => h (by injection e)
theorem Res.set {w W : World} {k : Int} (h : Res w k W) (a b c : Value) : (resSet w W a b c).cell? ⟨w.heap.size + 1, 0, none⟩ = some a ∧ (resSet w W a b c).cell? ⟨w.heap.size + 1 + 1, 0, none⟩ = some b ∧ (resSet w W a b c).cell? ⟨w.heap.size + 1 + 1 + 1, 0, none⟩ = some c ∧ Below w.heap.size w (resSet w W a b c) := by
  unfold resSet
  refine ⟨?_, ?_, ?_, ((h.below.setCell (by simp) _).setCell (by simp; omega) _).setCell (by simp; omega) _⟩
  · rw [set_other (blk_ne (by omega)), set_other (blk_ne (by omega)), set_same h.c1]
  · rw [set_other (blk_ne (by omega))]
    refine set_same (u := .int .i64 0) ?_
    rw [set_other (blk_ne (by omega)), h.c2]
  · refine set_same (u := .int .i64 0) ?_
    rw [set_other (blk_ne (by omega)), set_other (blk_ne (by omega)), h.c3]
theorem PV_tree_le {ps : List Ins} (hv : PValid ps) {x : Ins} (hx : x ∈ ps) : x.tree.length ≤ 2000000 := by
  obtain ⟨k, hk⟩ := List.getElem?_of_mem hx
  exact right_tree_le (hv.2.2 k x hk)
theorem pv_not {ps : List Ins} {r : Bool} (h : r = true ↔ PValid ps) (hn : ¬ PValid ps) : r = false := by
  cases r with
  | false => rfl
  | true => exact absurd (h.1 rfl) hn

set_option maxHeartbeats 1600000 in
set_option maxRecDepth 100000 in
theorem advance_form (w : World) (v : Value) (ps : List Ins) (x : ByteArray) (k : Int) (h : ArgP w v ps) (hl : ps.length ≤ 281474976710656) (hz : ∀ x ∈ ps, x.tree.length ≤ 281474976710656) (hx : x.size ≤ 281474976710656) (hn : ¬ PValid ps ∨ vld x.data.toList = false) :
    Calls Tryz.prog 139 #[v, .string x, .int .i64 k] w fun e w' => e = .returned (.tuple #[.pointer none, .int .i64 0, .int .i64 1]) ∧ Below w.heap.size w w' := by
  obtain ⟨A, cap, rfl⟩ : ∃ A cap, v = .slice A ps.length cap := by
    rcases h with ⟨rfl, h⟩ | ⟨_, b, off, cap, rfl, _⟩
    · obtain ⟨A, cap, rfl⟩ := empty_arg h
      exact ⟨A, cap, rfl⟩
    · exact ⟨_, _, rfl⟩
  obtain ⟨r, hr⟩ := pv_bool ps
  have HV := Lib.hid (fun W h => CV_arg W (.slice A ps.length cap) ps r h hl hz hr)
  have HX := Lib.hid (fun W b hb => Valid_is b x W hx hb)
  have HA := Lib.hid h; have HR := Lib.hid hr; have HN := Lib.hid hn
  clear hl hz h hr hn
  generalize ps.length = n at *
  go_enter Tryz.func139, Tryz.ntmps139
  go_wp2_with fail
  have h0 := res0_is w k
  refine (HV.out _ (HA.out.below h0.below)).mono ?_
  rintro e w1 ⟨rfl, hb1⟩
  have h1 : Res w k w1 := h0.later hb1
  clear hb1 h0
  cases hrb : r with
  | false =>
    clear hrb
    obtain ⟨p1, p2, p3, pb⟩ := h1.set (.pointer none) (.int .i64 0) (.int .i64 1)
    unfold resSet at p1 p2 p3 pb
    obtain ⟨c0, c1, c2, c3, f1, f2, f3, hs, _⟩ := h1
    have P1 := Lib.hid p1; have P2 := Lib.hid p2; have P3 := Lib.hid p3; have PB := Lib.hid pb
    clear p1 p2 p3 pb
    go_wp2
    exact bodyPost_ret (v := .tuple #[.pointer none, .int .i64 0, .int .i64 1]) (by simp [results, Tryz.f139, go_sem, P1.out, P2.out, P3.out]) rfl ⟨rfl, PB.out⟩
  | true =>
    have hx : vld x.data.toList = false := by
      rcases HN.out with h | h
      · exact absurd (HR.out.1 hrb) h
      · exact h
    have HXF := Lib.hid hx
    clear hx hrb
    go_wp2_with fail
    refine (HX.out _ _ HXF.out).mono ?_
    rintro e w2 ⟨rfl, hb2⟩
    have h2 : Res w k w2 := h1.later hb2
    clear h1 hb2
    obtain ⟨p1, p2, p3, pb⟩ := h2.set (.pointer none) (.int .i64 0) (.int .i64 1)
    unfold resSet at p1 p2 p3 pb
    obtain ⟨c0, c1, c2, c3, f1, f2, f3, hs, _⟩ := h2
    have P1 := Lib.hid p1; have P2 := Lib.hid p2; have P3 := Lib.hid p3; have PB := Lib.hid pb
    clear p1 p2 p3 pb
    go_wp2
    exact bodyPost_ret (v := .tuple #[.pointer none, .int .i64 0, .int .i64 1]) (by simp [results, Tryz.f139, go_sem, P1.out, P2.out, P3.out]) rfl ⟨rfl, PB.out⟩
set_option maxHeartbeats 1600000 in
set_option maxRecDepth 100000 in
theorem advance_arg (w : World) (v : Value) (ps : List Ins) (x : ByteArray) (k : Int) (h : ArgP w v ps) (hv : PValid ps) (hx : vld x.data.toList = true) (hk : k < 0 ∨ 10000000 < k) :
    Calls Tryz.prog 139 #[v, .string x, .int .i64 k] w fun e w' => e = .returned (.tuple #[.pointer none, .int .i64 0, .int .i64 2]) ∧ Below w.heap.size w w' := by
  have HV := Lib.hid (fun W h => CV_arg W v ps true h (by have := hv.1; omega) (fun x hx => by have := PV_tree_le hv hx; omega) (by simp [hv]))
  have HX := Lib.hid (fun W => Valid_is true x W (by have := vld_size hx; omega) hx)
  have HA := Lib.hid h
  obtain ⟨A, cap, rfl⟩ : ∃ A cap, v = .slice A ps.length cap := by
    rcases h with ⟨rfl, h⟩ | ⟨_, b, off, cap, rfl, _⟩
    · obtain ⟨A, cap, rfl⟩ := empty_arg h
      exact ⟨A, cap, rfl⟩
    · exact ⟨_, _, rfl⟩
  clear h hv hx
  generalize ps.length = n at *
  go_enter Tryz.func139, Tryz.ntmps139
  go_wp2_with fail
  have h0 := res0_is w k
  refine (HV.out _ (HA.out.below h0.below)).mono ?_
  rintro e w1 ⟨rfl, hb1⟩
  have h1 : Res w k w1 := h0.later hb1
  clear hb1 h0
  go_wp2_with fail
  refine (HX.out _).mono ?_
  rintro e w2 ⟨rfl, hb2⟩
  have h2 : Res w k w2 := h1.later hb2
  clear h1 hb2
  rcases hk with hk | hk
  · have hk' : k < 0 := hk
    obtain ⟨p1, p2, p3, pb⟩ := h2.set (.pointer none) (.int .i64 0) (.int .i64 2)
    unfold resSet at p1 p2 p3 pb
    obtain ⟨c0, c1, c2, c3, f1, f2, f3, hs, _⟩ := h2
    have P1 := Lib.hid p1; have P2 := Lib.hid p2; have P3 := Lib.hid p3; have PB := Lib.hid pb
    clear p1 p2 p3 pb
    go_wp2
    exact bodyPost_ret (v := .tuple #[.pointer none, .int .i64 0, .int .i64 2]) (by simp [results, Tryz.f139, go_sem, P1.out, P2.out, P3.out]) rfl ⟨rfl, PB.out⟩
  · have hk0 : ¬ k < 0 := by omega
    have hk1 : (0 : Int) ≤ k := by omega
    obtain ⟨p1, p2, p3, pb⟩ := h2.set (.pointer none) (.int .i64 0) (.int .i64 2)
    unfold resSet at p1 p2 p3 pb
    obtain ⟨c0, c1, c2, c3, f1, f2, f3, hs, _⟩ := h2
    have P1 := Lib.hid p1; have P2 := Lib.hid p2; have P3 := Lib.hid p3; have PB := Lib.hid pb
    clear p1 p2 p3 pb
    go_wp2
    exact bodyPost_ret (v := .tuple #[.pointer none, .int .i64 0, .int .i64 2]) (by simp [results, Tryz.f139, go_sem, P1.out, P2.out, P3.out]) rfl ⟨rfl, PB.out⟩
end Go.Proofs.YtmhoacnbmbhcjaaGreatDoor

namespace Go.Proofs.YtmhoacnbmbhcjaaGreatDoor
open Go.RowKit Pl

attribute [local go_sem] Oper.semAt_some

theorem cells_kept {W W' : World} {row : Option Nat} {B b o : Nat} {x : Value} (h : W.cell? ⟨b, o, none⟩ = some x) (hg : W.grownBy W' row) (hr : ∀ r, row = some r → B ≤ r ∧ ∃ o : Obj, W.heap[r]? = some o ∧ o.isCells = false) : W'.heap[b]? = W.heap[b]? :=
  hg.block b (cell_lt h) (fun e => by
    obtain ⟨_, ob, h1, h2⟩ := hr b e.symm
    unfold World.cell? at h
    simp only [h1] at h
    cases ob <;> simp_all [Obj.isCells])
theorem tag_kept {W W' : World} {row : Option Nat} {B b : Nat} {τ : TypeId} (h : TagB W b τ) (hg : W.grownBy W' row) (hr : ∀ r, row = some r → B ≤ r ∧ ∃ o : Obj, W.heap[r]? = some o ∧ o.isCells = false) : W'.heap[b]? = W.heap[b]? :=
  hg.block b h.lt (fun e => by
    obtain ⟨_, ob, h1, h2⟩ := hr b e.symm
    obtain ⟨C, fr, h3⟩ := h
    rw [h1] at h3; cases h3; cases h2)
theorem mach_own {W W' : World} {row : Option Nat} {B n0 M C : Nat} {ps : List Ins} {s : St} (h : Mach W n0 M C ps s) (hB : n0 ≤ B) (hg : W.grownBy W' row) (hr : ∀ r, row = some r → B ≤ r ∧ ∃ o : Obj, W.heap[r]? = some o ∧ o.isCells = false) : Mach W' n0 M C ps s :=
  h.keep hg.size fun k hk hc => by
    rcases hc with hc | rfl | hc | hc
    · exact hg.block k hk (fun e => by have := (hr k e.symm).1; omega)
    · exact tag_kept h.tagM hg hr
    · exact tag_kept hc hg hr
    · exact tag_kept hc hg hr
theorem below_own {w W W' : World} {row : Option Nat} {B : Nat} (h : Below w.heap.size w W) (hB : w.heap.size ≤ B) (hg : W.grownBy W' row) (hr : ∀ r, row = some r → B ≤ r ∧ ∃ o : Obj, W.heap[r]? = some o ∧ o.isCells = false) : Below w.heap.size w W' :=
  h.grown hg h.size fun k e => Nat.le_trans hB (hr k e).1
theorem res_own {w W W' : World} {k : Int} {row : Option Nat} {B : Nat} (h : Res w k W) (hB : w.heap.size ≤ B) (hg : W.grownBy W' row) (hr : ∀ r, row = some r → B ≤ r ∧ ∃ o : Obj, W.heap[r]? = some o ∧ o.isCells = false) : Res w k W' :=
  h.keep hg.size (below_own h.below hB hg hr) fun b h1 h2 => by
    rcases (by omega : b = w.heap.size ∨ b = w.heap.size + 1 ∨ b = w.heap.size + 1 + 1 ∨ b = w.heap.size + 1 + 1 + 1) with rfl | rfl | rfl | rfl
    · exact cells_kept h.c0 hg hr
    · exact cells_kept h.c1 hg hr
    · exact cells_kept h.c2 hg hr
    · exact cells_kept h.c3 hg hr
theorem cell_own {W W' : World} {row : Option Nat} {B b o : Nat} {x : Value} (h : W.cell? ⟨b, o, none⟩ = some x) (hg : W.grownBy W' row) (hr : ∀ r, row = some r → B ≤ r ∧ ∃ o : Obj, W.heap[r]? = some o ∧ o.isCells = false) : W'.cell? ⟨b, o, none⟩ = some x :=
  (World.cell?_of_block (w := W) (a := ⟨b, o, none⟩) (cells_kept h hg hr)).trans h
/-- what lies in boxes while the machine runs -/
def AdvZ (w : World) (K m9 M : Nat) (W : World) : Prop := Res w K W ∧ W.cell? ⟨m9, 0, none⟩ = some (.pointer (some ⟨M, 0, none⟩))
/-- what advance has found -/
def AdvX (w : World) (K n0 M C : Nat) (ps : List Ins) (s0 : St) (W : World) : Prop :=
  ∃ k s, Steps ps s0 k s ∧ k ≤ K ∧ (k = K ∨ s.at_ = ps.length) ∧ Mach W n0 M C ps s ∧ Below w.heap.size w W ∧ W.cell? ⟨w.heap.size + 1, 0, none⟩ = some (.pointer (some ⟨M, 0, none⟩)) ∧ W.cell? ⟨w.heap.size + 1 + 1, 0, none⟩ = some (.int .i64 (k : Int)) ∧ W.cell? ⟨w.heap.size + 1 + 1 + 1, 0, none⟩ = some (.int .i64 0)
theorem advZ_but {w W W' : World} {K m9 M : Nat} (hb : But M W W') (h : AdvZ w K m9 M W) (h1 : w.heap.size + 1 + 1 + 1 < M) (h9 : m9 ≠ M) : AdvZ w K m9 M W' :=
  ⟨h.1.keep hb.size (h.1.below.trans (hb.below (by omega) h.1.below.size)) (fun b _ h2 => hb.block b (by have := h.1.size; omega) (by omega)), hb.cell (p := ⟨m9, 0, none⟩) h9 h.2⟩
theorem advZ_own {w W W' : World} {K m9 M : Nat} {row : Option Nat} {B : Nat} (h : AdvZ w K m9 M W) (hB : w.heap.size ≤ B) (hg : W.grownBy W' row) (hr : ∀ r, row = some r → B ≤ r ∧ ∃ o : Obj, W.heap[r]? = some o ∧ o.isCells = false) : AdvZ w K m9 M W' :=
  ⟨res_own h.1 hB hg hr, cell_own h.2 hg hr⟩
theorem advX_own {w W W' : World} {K n0 M C : Nat} {ps : List Ins} {s0 : St} {row : Option Nat} {B : Nat} (h : AdvX w K n0 M C ps s0 W) (hB : w.heap.size ≤ B) (hB2 : n0 ≤ B) (hg : W.grownBy W' row) (hr : ∀ r, row = some r → B ≤ r ∧ ∃ o : Obj, W.heap[r]? = some o ∧ o.isCells = false) : AdvX w K n0 M C ps s0 W' := by
  obtain ⟨k, s, h1, h2, h3, h4, h5, h6, h7, h8⟩ := h
  exact ⟨k, s, h1, h2, h3, mach_own h4 hB2 hg hr, below_own h5 hB hg hr, cell_own h6 hg hr, cell_own h7 hg hr, cell_own h8 hg hr⟩
theorem keepsFrom_set (B : Nat) (w W : World) (a b c : Value) : KeepsFrom B W (resSet w W a b c) :=
  (((KeepsOthers.setCell W _ a).trans (KeepsOthers.setCell _ _ b)).trans (KeepsOthers.setCell _ _ c)).from B
theorem adv_close {w W : World} {K k m9 M C B : Nat} {ps : List Ins} {s0 s : St} (hZ : AdvZ w K m9 M W) (hst : Steps ps s0 k s) (hk : k ≤ K) (he : k = K ∨ s.at_ = ps.length) (hM : Mach W w.heap.size M C ps s) (hwM : w.heap.size + 1 + 1 + 1 < M) :
    KeepsFrom B W (resSet w W (.pointer (some ⟨M, 0, none⟩)) (.int .i64 (k : Int)) (.int .i64 0)) ∧ AdvX w K w.heap.size M C ps s0 (resSet w W (.pointer (some ⟨M, 0, none⟩)) (.int .i64 (k : Int)) (.int .i64 0)) := by
  obtain ⟨h1, h2, h3, h4⟩ := hZ.1.set (.pointer (some ⟨M, 0, none⟩)) (.int .i64 (k : Int)) (.int .i64 0)
  refine ⟨keepsFrom_set B w W _ _ _, k, s, hst, hk, he, ?_, h4, h1, h2, h3⟩
  have hsz := hZ.1.size
  refine hM.keep (by simp [resSet, World.setCell]) fun b hb hc => ?_
  have hnb : b ≠ w.heap.size + 1 ∧ b ≠ w.heap.size + 1 + 1 ∧ b ≠ w.heap.size + 1 + 1 + 1 := by
    rcases hc with hc | rfl | hc | hc
    · omega
    · omega
    · exact ⟨fun e => (hZ.1.tags b (by omega) (by omega)).1 hc, fun e => (hZ.1.tags b (by omega) (by omega)).1 hc, fun e => (hZ.1.tags b (by omega) (by omega)).1 hc⟩
    · exact ⟨fun e => (hZ.1.tags b (by omega) (by omega)).2 hc, fun e => (hZ.1.tags b (by omega) (by omega)).2 hc, fun e => (hZ.1.tags b (by omega) (by omega)).2 hc⟩
  unfold resSet
  rw [Below.heap_setCell _ _ _ _ hnb.2.2, Below.heap_setCell _ _ _ _ hnb.2.1, Below.heap_setCell _ _ _ _ hnb.1]
theorem first_set (t : Tr) : (⟨st0.at_, st0.regs.set 0 t⟩ : St) = first t := rfl
theorem st0_len : st0.regs.length = 32 := by simp [st0]

set_option maxHeartbeats 3200000 in
set_option maxRecDepth 100000 in
theorem advance_run (w : World) (v : Value) (ps : List Ins) (x : ByteArray) (K : Nat) (h : ArgP w v ps) (hv : PValid ps) (hx : vld x.data.toList = true) (hk : K ≤ 10000000) :
    Calls Tryz.prog 139 #[v, .string x, .int .i64 (K : Int)] w (AdvOut w ps (rd x.data.toList) K) := by
  have HV := Lib.hid (fun W h => CV_arg W v ps true h (by have := hv.1; omega) (fun x hx => by have := PV_tree_le hv hx; omega) (by simp [hv]))
  have HNM := Lib.hid (fun W h => newMachine_any W v ps h hv)
  have HX := Lib.hid (fun W => Valid_is true x W (by have := vld_size hx; omega) hx)
  have HSH := Lib.hid (fun W => share_any x W hx)
  have HVV := Lib.hid hv
  have HFO : Hid ((first (rd x.data.toList)).ok ps.length) := Lib.hid (first_ok _ (by rw [tx_rd hx]; exact (vld_iff.1 hx).1))
  have HA := Lib.hid h
  generalize rd x.data.toList = t at *
  obtain ⟨A, cap, rfl⟩ : ∃ A cap, v = .slice A ps.length cap := by
    rcases h with ⟨rfl, h⟩ | ⟨_, b, off, cap, rfl, _⟩
    · obtain ⟨A, cap, rfl⟩ := empty_arg h
      exact ⟨A, cap, rfl⟩
    · exact ⟨_, _, rfl⟩
  clear h hv hx
  obtain ⟨n, hn⟩ : ∃ n, n = ps.length := ⟨_, rfl⟩
  rw [← hn] at HV HNM HA HFO ⊢
  have HN := Lib.hid hn; clear hn
  refine (callsIn_wide (n := 5)).1 ?_
  refine callsIn_of_wp_marks Tryz.func139 rfl trivial ?_ rfl
  simp only [Tryz.ntmps139, List.size_toArray, List.length_cons, List.length_nil, Nat.reduceAdd, Nat.reduceSub, Array.replicate_succ, Array.replicate_zero, List.push_toArray, List.append_toArray, List.nil_append, List.cons_append]
  refine wpIn_wide.2 ?_
  go_wp2_with fail
  have h0 := res0_is w K
  refine (HV.out _ (HA.out.below h0.below)).mono ?_
  rintro e w1 ⟨rfl, hb1⟩
  have h1 : Res w K w1 := h0.later hb1
  clear hb1 h0
  go_wp2_with fail
  refine (HX.out _).mono ?_
  rintro e w2 ⟨rfl, hb2⟩
  have h2 : Res w K w2 := h1.later hb2
  clear h1 hb2
  have HR2 := Lib.hid h2
  have c0 := h2.c0
  have k0 : ¬ (K : Int) < 0 := by omega
  have k1 : (0 : Int) ≤ (K : Int) := by omega
  have k2 : (K : Int) ≤ 10000000 := by omega
  clear h2
  go_wp2_with fail
  refine (HNM.out _ (HA.out.below HR2.out.below)).mono ?_
  rintro e w3 ⟨M, C, rfl, hMM, hM2, htag, hb3⟩
  have hM : Mach w3 w.heap.size M C ps st0 := hMM _ HR2.out.below.size (fun k h00 hk => by
    rcases HA.out with ⟨e1, _⟩ | ⟨_, b, off, cap', e1, h1⟩
    · rw [e1] at h00; simp at h00
    · injection e1 with e2
      rw [e2] at hk
      cases hk
      exact h1.1)
  have hsz2 := HR2.out.size
  have hMlt := hM.tagM.lt
  have hb4 : Below w3.heap.size w3 (w3.alloc (.cells #[.pointer (some ⟨M, 0, none⟩)] 153)) := (Below.refl _ _).alloc (Nat.le_refl _) _
  have HR4 := Lib.hid ((HR2.out.later hb3).later hb4)
  have HM4 := Lib.hid (hM.below hb4)
  have c9 : (w3.alloc (.cells #[.pointer (some ⟨M, 0, none⟩)] 153)).cell? ⟨w3.heap.size, 0, none⟩ = some (.pointer (some ⟨M, 0, none⟩)) := by rw [World.cell?_alloc_new]; rfl
  have C9 := Lib.hid c9
  have HBD := Lib.hid (Below.refl (w3.alloc (.cells #[.pointer (some ⟨M, 0, none⟩)] 153)).heap.size (w3.alloc (.cells #[.pointer (some ⟨M, 0, none⟩)] 153))).drew
  have hn9 : (⟨M, 3, none⟩ : Addr) ≠ ⟨w3.heap.size, 0, none⟩ := fun e => by injection e with e1; omega
  have HN9 := Lib.hid hn9
  have hold : w2.heap.size ≤ M := hM2
  clear c0 hM hMM hM2 htag hb3 hb4 c9 hn9
  go_wp2_with fail
  go_region_held3 (fun w' => w'.cell? ⟨w3.heap.size, 0, none⟩ = some (.pointer (some ⟨M, 0, none⟩)))
    (first | exact C9.out | exact g1 | exact j1 | go_keep)
    (first | (go_simp; go_at_call 181; refine (HSH.out _).mono ?_; rintro e w5 ⟨v5, rfl, hv5, hb5⟩; obtain ⟨V5, rfl⟩ := hv5.one; have hbd := HBD.out.trans hb5; have hM5 := HM4.out.below hbd; have g1 := cell_keep hb5 C9.out; obtain ⟨u5, g3, _⟩ := hM5.regs 0 (by omega); have g4 := hM5.free 3; have j1 := (set_other (v := .pointer V5) HN9.out).trans g1))
  have HM6 : Hid (Mach (w5.setCell ⟨M, 3, none⟩ (.pointer V5)) w.heap.size M C ps (first t)) := Lib.hid (by
    have h := (hM5.reg st0_len hv5 (a := 0) (by omega)).1
    rw [first_set] at h
    exact h)
  have HB6 : Hid (But M w5 (w5.setCell ⟨M, 3, none⟩ (.pointer V5))) := Lib.hid (But.set _ _)
  have hR5 := HR4.out.later hbd
  have hR6 : Res w K (w5.setCell ⟨M, 3, none⟩ (.pointer V5)) := hR5.keep HB6.out.size (hR5.below.setCell (by simp; omega) _) (fun b _ h2 => Below.heap_setCell _ _ _ _ (by simp; omega))
  have HR6 := Lib.hid hR6
  have hM9 : w3.heap.size ≠ M := by omega
  clear hM5 hb5 hbd g1 g3 g4 hR5 hR6 hv5 HB6 HM4 HR4
  have c9 := j1
  clear j1
  generalize w5.setCell ⟨M, 3, none⟩ (.pointer V5) = w6 at *
  go_wp2_with fail
  have hZ0 : AdvZ w K w3.heap.size M w6 := ⟨HR6.out, c9⟩
  have hwM : w.heap.size + 1 + 1 + 1 < M := by omega
  have hB6 : w.heap.size ≤ w6.heap.size := HR6.out.below.size
  have HZ0 := Lib.hid hZ0
  clear hZ0 c9 HN9
  refine (wpIn_wide (n := 5)).1 ?_
  refine range_shared (n := 5) (gf := 182) (fi := #[.pointer (some ⟨M, 0, none⟩)]) (lb := #[]) rfl (enters_of Tryz.func182 (by kernel_rfl) rfl) rfl
    (RunI M C w.heap.size K ps (first t) (AdvZ w K w3.heap.size M)) (RunI' M C w.heap.size K ps (first t) (AdvZ w K w3.heap.size M)) (AdvX w K w.heap.size M C ps (first t)) (RunD K ps (first t) (AdvZ w K w3.heap.size M))
    (fun k W W' row hs hg hr => by obtain ⟨s, h1, h2, h3, h4⟩ := hs; exact ⟨s, h1, h2, mach_own h3 hB6 hg hr, advZ_own h4 hB6 hg hr⟩)
    (fun k W W' row hs hg hr => by obtain ⟨s, h1, h2, h2b, h3, h4⟩ := hs; exact ⟨s, h1, h2, h2b, mach_own h3 hB6 hg hr, advZ_own h4 hB6 hg hr⟩)
    (fun _ W W' row hs hg hr => advX_own hs hB6 hB6 hg hr)
    (fun _ W W' row hs hg hr => by obtain ⟨k, s, h1, h2, h2b, h3, h4⟩ := hs; exact ⟨k, s, h1, h2, h2b, h3, advZ_own h4 hB6 hg hr⟩)
    ⟨first t, .zero, Nat.zero_le _, HM6.out, HZ0.out⟩
    (fun l Z Jx hZ hY W hI hz => states_in 4 l M C w.heap.size K ps (first t) HVV.out (by rw [← HN.out]; exact HFO.out) hk (AdvZ w K w3.heap.size M) Z Jx (fun W W' hb h => advZ_but hb h hwM hM9) (fun W W' hb htag hz => hZ W W' (hb.keepsFrom (by obtain ⟨D, _, h⟩ := htag; exact ⟨D, _, _, h⟩)) hz) hY W hI hz)
    ?round ?done ?stop
  case round =>
    intro l k W hi
    gi_wp2
    refine ⟨trivial, fun W2 hi2 => ?_⟩
    obtain ⟨s, hst, hkK, hM, hZ⟩ := hi2
    have HST := Lib.hid hst; have HM := Lib.hid hM; have HZ := Lib.hid hZ
    obtain ⟨hR, h9⟩ := hZ
    obtain ⟨c0, c1, c2, c3, f1, f2, f3, hs, hb, _⟩ := hR
    have HB := Lib.hid hb
    clear hst hM hb hi
    by_cases hkk : k = K
    · subst hkk
      gi_wp2_with fail
      refine ⟨trivial, ?_⟩
      gi_wp2
      exact adv_close HZ.out HST.out (Nat.le_refl _) (.inl rfl) HM.out hwM
    · have hkk' : ((k : Int) == (K : Int)) = false := by simp; omega
      have HE := Lib.hid (ended_is HM.out HVV.out (HST.out.ok HVV.out (by rw [← HN.out]; exact HFO.out)))
      have HKK := Lib.hid hkk
      clear hkk
      cases hed : (s.at_ == ps.length) with
      | true =>
        rw [hed] at HE
        have HEN : Hid (s.at_ = ps.length) := Lib.hid (by simpa using hed)
        clear hed
        gi_wp2_with fail
        refine ⟨trivial, (CallsIn.inRound l (callsIn_wide.2 HE.out)).mono ?_⟩
        rintro e W3 ⟨rfl, q, rfl⟩
        have hbd : Below W2.heap.size W2 (W2.drewN q) := bdrewN (Below.refl _ _) q
        have HZ3 := Lib.hid (advZ_but (But.of_below hbd) HZ.out hwM hM9)
        have HM3 := Lib.hid (HM.out.below hbd)
        have HKF : Hid (KeepsFrom w6.heap.size W2 (W2.drewN q)) := Lib.hid ⟨Nat.le_refl _, fun _ _ _ h _ => h⟩
        clear hbd
        gi_wp2
        obtain ⟨g1, g2⟩ := adv_close (B := w6.heap.size) HZ3.out HST.out hkK (.inr HEN.out) HM3.out hwM
        exact ⟨HKF.out.trans g1, g2⟩
      | false =>
        rw [hed] at HE
        have HEN : Hid (s.at_ ≠ ps.length) := Lib.hid (by simpa using hed)
        clear hed
        gi_wp2_with fail
        refine ⟨trivial, (CallsIn.inRound l (callsIn_wide.2 HE.out)).mono ?_⟩
        rintro e W3 ⟨rfl, q, rfl⟩
        have hbd : Below W2.heap.size W2 (W2.drewN q) := bdrewN (Below.refl _ _) q
        have HZ3 := Lib.hid (advZ_but (But.of_below hbd) HZ.out hwM hM9)
        have HM3 := Lib.hid (HM.out.below hbd)
        have HKF : Hid (KeepsFrom w6.heap.size W2 (W2.drewN q)) := Lib.hid ⟨Nat.le_refl _, fun _ _ _ h _ => h⟩
        clear hbd
        gi_wp2
        exact ⟨HKF.out, s, HST.out, by have := HKK.out; omega, HEN.out, HM3.out, HZ3.out⟩
  case done =>
    rintro D W hD ⟨k, s, hst, hkK, hne, hlg, hZ⟩ hDD
    have HST := Lib.hid hst; have HNE := Lib.hid hne; have HLG := Lib.hid hlg; have HZ := Lib.hid hZ
    obtain ⟨hR, h9⟩ := hZ
    obtain ⟨c0, c1, c2, c3, f1, f2, f3, hs, hb, _⟩ := hR
    clear hst hne hlg hb
    obtain ⟨p1, p2, p3, pb⟩ := HZ.out.1.set (.pointer none) (.int .i64 0) (.int .i64 3)
    have hK1 := (keepsFrom_set 0 w W (.pointer none) (.int .i64 0) (.int .i64 3)).same D _ (Nat.zero_le _) hDD rfl
    have P1 := Lib.hid p1; have P2 := Lib.hid p2; have P3 := Lib.hid p3; have PB := Lib.hid pb; have HK1 := Lib.hid hK1
    have HDD := Lib.hid hDD
    clear p1 p2 p3 pb hK1 hDD
    go_wp2
    refine ⟨by simp, .inl ⟨_, _, rfl, run_takeDeferred HK1.out, ?_⟩⟩
    have q1 := cell_kept P1.out (grownBy_putObj' _ D (.deferred none)) (fun r e => by cases e; exact ⟨_, HK1.out, rfl⟩)
    have q2 := cell_kept P2.out (grownBy_putObj' _ D (.deferred none)) (fun r e => by cases e; exact ⟨_, HK1.out, rfl⟩)
    have q3 := cell_kept P3.out (grownBy_putObj' _ D (.deferred none)) (fun r e => by cases e; exact ⟨_, HK1.out, rfl⟩)
    unfold resSet at q1 q2 q3
    refine ⟨.tuple #[.pointer none, .int .i64 0, .int .i64 3], by simp [results, Tryz.f139, go_sem, q1, q2, q3], ?_, ?_⟩
    · exact PB.out.trans (belowK_b (w := w) (Nat.le_refl _) _ D _ _ (by omega) HK1.out rfl rfl)
    · rw [runTo_large HST.out hkK HNE.out HLG.out]
  case stop =>
    rintro D W hD ⟨k, s, hst, hkK, he, hM, hb, g1, g2, g3⟩ hDD
    have HST := Lib.hid hst; have HE := Lib.hid he; have HM := Lib.hid hM; have HB := Lib.hid hb; have G1 := Lib.hid g1; have G2 := Lib.hid g2; have G3 := Lib.hid g3; have HDD := Lib.hid hDD
    clear hst he hM hb g1 g2 g3 hDD
    gi_wp2
    refine ⟨by simp, .inl ⟨_, _, rfl, run_takeDeferred HDD.out, ?_⟩⟩
    have q1 := cell_kept G1.out (grownBy_putObj' _ D (.deferred none)) (fun r e => by cases e; exact ⟨_, HDD.out, rfl⟩)
    have q2 := cell_kept G2.out (grownBy_putObj' _ D (.deferred none)) (fun r e => by cases e; exact ⟨_, HDD.out, rfl⟩)
    have q3 := cell_kept G3.out (grownBy_putObj' _ D (.deferred none)) (fun r e => by cases e; exact ⟨_, HDD.out, rfl⟩)
    refine ⟨.tuple #[.pointer (some ⟨M, 0, none⟩), .int .i64 (k : Int), .int .i64 0], by simp [results, Tryz.f139, go_sem, q1, q2, q3], ?_, ?_⟩
    · exact HB.out.trans (belowK_b (w := w) (Nat.le_refl _) _ D _ _ (by omega) HDD.out rfl rfl)
    · rw [runTo_is HST.out hkK HE.out]
      exact ⟨_, M, C, rfl, mach_own (B := w6.heap.size) HM.out hB6 (grownBy_putObj' _ D (.deferred none)) (fun r e => by cases e; exact ⟨hD, _, HDD.out, rfl⟩), Nat.le_refl _⟩
end Go.Proofs.YtmhoacnbmbhcjaaGreatDoor

namespace Go.Proofs.YtmhoacnbmbhcjaaGreatDoor
open Go.RowKit Pl

/-- what Run returns -/
noncomputable def runRes (ps : List Ins) (K : Nat) (t : Tr) : Value :=
  match runTo ps K (first t) with
  | none => .tuple #[.string (S []), .int .i64 0, .int .i64 3]
  | some (s, n) => if s.at_ = ps.length then .tuple #[.string (S (tx (s.reg 0))), .int .i64 (n : Int), .int .i64 0] else .tuple #[.string (S []), .int .i64 0, .int .i64 7]

set_option maxHeartbeats 1600000 in
set_option maxRecDepth 100000 in
theorem Run_form (w : World) (v : Value) (ps : List Ins) (x : ByteArray) (k : Int) (h : ArgP w v ps) (hl : ps.length ≤ 281474976710656) (hz : ∀ x ∈ ps, x.tree.length ≤ 281474976710656) (hx : x.size ≤ 281474976710656) (hn : ¬ PValid ps ∨ vld x.data.toList = false) :
    Calls Tryz.prog 89 #[v, .string x, .int .i64 k] w fun e w' => e = .returned (.tuple #[.string (S []), .int .i64 0, .int .i64 1]) ∧ Below w.heap.size w w' := by
  have H := Lib.hid (advance_form w v ps x k h hl hz hx hn)
  clear h hl hz hx hn
  go_enter Tryz.func89, Tryz.ntmps89
  go_wp2_with fail
  refine H.out.mono ?_
  rintro e w1 ⟨rfl, hb⟩
  go_wp2
  go_ret3
  exact ⟨rfl, hb⟩
set_option maxHeartbeats 1600000 in
set_option maxRecDepth 100000 in
theorem Run_arg (w : World) (v : Value) (ps : List Ins) (x : ByteArray) (k : Int) (h : ArgP w v ps) (hv : PValid ps) (hx : vld x.data.toList = true) (hk : k < 0 ∨ 10000000 < k) :
    Calls Tryz.prog 89 #[v, .string x, .int .i64 k] w fun e w' => e = .returned (.tuple #[.string (S []), .int .i64 0, .int .i64 2]) ∧ Below w.heap.size w w' := by
  have H := Lib.hid (advance_arg w v ps x k h hv hx hk)
  clear h hv hx hk
  go_enter Tryz.func89, Tryz.ntmps89
  go_wp2_with fail
  refine H.out.mono ?_
  rintro e w1 ⟨rfl, hb⟩
  go_wp2
  go_ret3
  exact ⟨rfl, hb⟩
set_option maxHeartbeats 1600000 in
set_option maxRecDepth 100000 in
theorem Run_yes (w : World) (v : Value) (ps : List Ins) (x : ByteArray) (K : Nat) (h : ArgP w v ps) (hv : PValid ps) (hx : vld x.data.toList = true) (hk : K ≤ 10000000) :
    Calls Tryz.prog 89 #[v, .string x, .int .i64 (K : Int)] w fun e w' => e = .returned (runRes ps K (rd x.data.toList)) ∧ Below w.heap.size w w' := by
  have H := Lib.hid (advance_run w v ps x K h hv hx hk)
  have hf : (first (rd x.data.toList)).ok ps.length := first_ok _ (by rw [tx_rd hx]; exact (vld_iff.1 hx).1)
  generalize rd x.data.toList = t at *
  unfold runRes
  cases hr : runTo ps K (first t) with
  | none =>
    have HR := Lib.hid hr
    clear h hv hx hk hr hf
    go_enter Tryz.func89, Tryz.ntmps89
    go_wp2_with fail
    refine H.out.mono ?_
    rintro e w1 ⟨hb, he⟩
    rw [HR.out] at he
    obtain rfl := he
    go_wp2
    go_ret3
    exact ⟨rfl, hb⟩
  | some r =>
    obtain ⟨s, n⟩ := r
    obtain ⟨hst, hnk, _⟩ := runTo_some hr
    have hok := hst.ok hv hf
    by_cases hat : s.at_ = ps.length
    · have hb1 : (s.at_ == ps.length) = true := by simp [hat]
      have HE := Lib.hid (fun W n0 M C (hm : Mach W n0 M C ps s) => ended_is hm hv hok)
      rw [hb1] at HE
      simp only [if_pos hat]
      have HT := Lib.hid (fun W v h => text_any (s.reg 0) v W h (St.reg_le hok 0))
      have HR := Lib.hid hr
      clear h hv hx hk hr hf hst hat hb1
      go_enter Tryz.func89, Tryz.ntmps89
      go_wp2_with fail
      refine H.out.mono ?_
      rintro e w1 ⟨hb, he⟩
      rw [HR.out] at he
      obtain ⟨n0, M, C, rfl, hM, hn0⟩ := he
      have HM := Lib.hid hM
      clear hM
      go_wp2_with fail
      refine (HE.out _ _ _ _ HM.out).mono ?_
      rintro e w2 ⟨rfl, q, rfl⟩
      obtain ⟨x0, hx0, hN0⟩ := HM.out.regs 0 (by omega)
      obtain ⟨X0, rfl⟩ := hN0.one
      have c3 : (w1.drewN q).cell? ⟨M, 3, none⟩ = some (.pointer X0) := hx0
      have HN0 := Lib.hid hN0
      clear hx0 hN0
      go_wp2_with fail
      refine (HT.out _ _ (NodeW.keep HN0.out (KeepT.drewN _ _ _))).mono ?_
      rintro e w3 ⟨rfl, hb3⟩
      go_wp2
      go_ret3
      exact ⟨rfl, (bdrewN hb q).trans (hb3.mono hb.size)⟩
    · have hb1 : (s.at_ == ps.length) = false := by simp [hat]
      have HE := Lib.hid (fun W n0 M C (hm : Mach W n0 M C ps s) => ended_is hm hv hok)
      rw [hb1] at HE
      simp only [if_neg hat]
      have HT := Lib.hid (fun W v h => text_any (s.reg 0) v W h (St.reg_le hok 0))
      have HR := Lib.hid hr
      clear h hv hx hk hr hf hst hat hb1
      go_enter Tryz.func89, Tryz.ntmps89
      go_wp2_with fail
      refine H.out.mono ?_
      rintro e w1 ⟨hb, he⟩
      rw [HR.out] at he
      obtain ⟨n0, M, C, rfl, hM, hn0⟩ := he
      have HM := Lib.hid hM
      clear hM
      go_wp2_with fail
      refine (HE.out _ _ _ _ HM.out).mono ?_
      rintro e w2 ⟨rfl, q, rfl⟩
      go_wp2
      go_ret3
      exact ⟨rfl, bdrewN hb q⟩
end Go.Proofs.YtmhoacnbmbhcjaaGreatDoor

namespace Go.Proofs.YtmhoacnbmbhcjaaGreatDoor
open Go.RowKit Pl

def pTail : List Ins := [⟨4, 0, 0, 0, []⟩]
def pLoop : List Ins := [⟨0, 1, 0, 0, [49, 48, 48]⟩, ⟨5, 1, 0, 0, []⟩]
def pDbl : List Ins := [⟨2, 0, 0, 0, []⟩, ⟨5, 0, -1, 0, []⟩]
theorem allR_one {x : Ins} (h : right x 0 1 = true) : AllR [x] := by
  intro k y hy
  match k, hy with
  | 0, hy => simp at hy; subst hy; exact h
  | k + 1, hy => simp at hy
theorem allR_two {x y : Ins} (h : right x 0 2 = true) (h2 : right y 1 2 = true) : AllR [x, y] := by
  intro k z hz
  match k, hz with
  | 0, hz => simp at hz; subst hz; exact h
  | 1, hz => simp at hz; subst hz; exact h2
  | k + 2, hz => simp at hz
theorem pTail_valid : PValid pTail := ⟨by decide, by decide, allR_one (by decide)⟩
theorem pLoop_valid : PValid pLoop := ⟨by decide, by decide, allR_two (by decide) (by decide)⟩
theorem pDbl_valid : PValid pDbl := ⟨by decide, by decide, allR_two (by decide) (by decide)⟩
theorem pNil_valid : PValid [] := ⟨by decide, by decide, fun k x h => by simp at h⟩
theorem rd_of {l : List UInt8} {t : Tr} (h : tx t = l) : rd l = t := by rw [← h, rd_tx]
theorem rd_0 : rd [48] = .nil := rd_of rfl
theorem rd_100 : rd [49, 48, 48] = .pair .nil .nil := rd_of rfl
theorem rd_10100 : rd [49, 48, 49, 48, 48] = .pair .nil (.pair .nil .nil) := rd_of rfl
theorem run_tail : runRes pTail 10 (rd [49, 48, 49, 48, 48]) = .tuple #[.string (S [49, 48, 48]), .int .i64 1, .int .i64 0] := by
  have h : runTo pTail 10 (first (rd [49, 48, 49, 48, 48])) = some ((first (rd [49, 48, 49, 48, 48])).put 0 (.pair .nil .nil), 1) :=
    runTo_is (.succ .zero (by decide) (by rw [rd_10100]; rfl)) (by decide) (.inr rfl)
  unfold runRes
  rw [h]
  rfl
theorem run_nil : runRes [] 0 (rd [49, 48, 48]) = .tuple #[.string (S [49, 48, 48]), .int .i64 0, .int .i64 0] := by
  have h : runTo [] 0 (first (rd [49, 48, 48])) = some (first (rd [49, 48, 48]), 0) := rfl
  unfold runRes
  rw [h, rd_100]
  rfl
theorem stepP_jump {ps : List Ins} {s : St} {x : Ins} (h : ps[s.at_]? = some x) (h5 : x.op = 5) (hne : s.reg x.a ≠ .nil) : stepP ps s = some ⟨((s.at_ : Int) + x.b).toNat, s.regs⟩ := by
  unfold stepP
  rw [h]
  show stepI x s = _
  unfold stepI
  rw [if_neg (by omega), if_neg (by omega), if_neg (by omega), if_neg (by omega), if_neg (by omega), if_neg hne]
theorem loop_steps (n : Nat) : Steps pLoop (first .nil) (n + 1) ((first .nil).put 1 (rd [49, 48, 48])) := by
  induction n with
  | zero => exact .succ .zero (by decide) rfl
  | succ n ih => exact .succ ih (by decide) (by rw [rd_100]; exact stepP_jump (x := ⟨5, 1, 0, 0, []⟩) rfl rfl (fun h => by cases h))
theorem run_loop : runRes pLoop 1000 (rd [48]) = .tuple #[.string (S []), .int .i64 0, .int .i64 7] := by
  have h : runTo pLoop 1000 (first .nil) = some ((first .nil).put 1 (rd [49, 48, 48]), 1000) := runTo_is (loop_steps 999) (Nat.le_refl _) (.inl rfl)
  unfold runRes
  rw [rd_0, h]
  rfl

/-- a tree doubled again and again -/
def dbl (t : Tr) : Nat → Tr
  | 0 => t
  | j + 1 => .pair (dbl t j) (dbl t j)
theorem dbl_len (t : Tr) (j : Nat) : (tx (dbl t j)).length + 1 = 2 ^ j * ((tx t).length + 1) := by
  induction j with
  | zero => simp [dbl]
  | succ j ih => rw [dbl, tx_pair, Nat.pow_succ]; have h : 2 ^ j * 2 * ((tx t).length + 1) = 2 * (2 ^ j * ((tx t).length + 1)) := by rw [Nat.mul_comm (2 ^ j) 2, Nat.mul_assoc]
                 rw [h, ← ih]; omega
theorem dbl_succ_len (t : Tr) (j : Nat) : (tx (dbl t (j + 1))).length = 2 * (tx (dbl t j)).length + 1 := by rw [dbl, tx_pair]; omega
theorem dbl_mono (t : Tr) {i j : Nat} (h : i ≤ j) : (tx (dbl t i)).length ≤ (tx (dbl t j)).length := by
  induction h with
  | refl => exact Nat.le_refl _
  | step _ ih => rw [dbl_succ_len]; omega
/-- the state of the doubling program after k steps -/
def dblSt (t : Tr) (k : Nat) : St := ⟨k % 2, dbl t ((k + 1) / 2) :: List.replicate 31 .nil⟩
theorem dbl_even {t : Tr} {j : Nat} (h : (tx (dbl t (j + 1))).length ≤ 2000000) : stepP pDbl (dblSt t (2 * j)) = some (dblSt t (2 * j + 1)) := by
  have e1 : dblSt t (2 * j) = ⟨0, dbl t j :: List.replicate 31 .nil⟩ := by unfold dblSt; rw [show 2 * j % 2 = 0 by omega, show (2 * j + 1) / 2 = j by omega]
  have e2 : dblSt t (2 * j + 1) = ⟨1, dbl t (j + 1) :: List.replicate 31 .nil⟩ := by unfold dblSt; rw [show (2 * j + 1) % 2 = 1 by omega, show (2 * j + 1 + 1) / 2 = j + 1 by omega]
  rw [e1, e2]
  show (if (tx (.pair (dbl t j) (dbl t j))).length ≤ 2000000 then some _ else none) = _
  rw [if_pos (show (tx ((dbl t j).pair (dbl t j))).length ≤ 2000000 from h)]
  rfl
theorem dbl_large {t : Tr} {j : Nat} (h : ¬ (tx (dbl t (j + 1))).length ≤ 2000000) : stepP pDbl (dblSt t (2 * j)) = none := by
  have e1 : dblSt t (2 * j) = ⟨0, dbl t j :: List.replicate 31 .nil⟩ := by unfold dblSt; rw [show 2 * j % 2 = 0 by omega, show (2 * j + 1) / 2 = j by omega]
  rw [e1]
  show (if (tx (.pair (dbl t j) (dbl t j))).length ≤ 2000000 then some _ else none) = _
  rw [if_neg (show ¬ (tx ((dbl t j).pair (dbl t j))).length ≤ 2000000 from h)]
theorem dbl_odd {t : Tr} {j : Nat} : stepP pDbl (dblSt t (2 * j + 1)) = some (dblSt t (2 * j + 2)) := by
  have e1 : dblSt t (2 * j + 1) = ⟨1, .pair (dbl t j) (dbl t j) :: List.replicate 31 .nil⟩ := by unfold dblSt; rw [show (2 * j + 1) % 2 = 1 by omega, show (2 * j + 1 + 1) / 2 = j + 1 by omega]; rfl
  have e2 : dblSt t (2 * j + 2) = ⟨0, .pair (dbl t j) (dbl t j) :: List.replicate 31 .nil⟩ := by unfold dblSt; rw [show (2 * j + 2) % 2 = 0 by omega, show (2 * j + 2 + 1) / 2 = j + 1 by omega]; rfl
  rw [e1, e2]
  exact stepP_jump (ps := pDbl) (s := ⟨1, .pair (dbl t j) (dbl t j) :: List.replicate 31 .nil⟩) (x := ⟨5, 0, -1, 0, []⟩) rfl rfl (fun h => Tr.noConfusion (show Tr.pair (dbl t j) (dbl t j) = .nil from h))
theorem dblSt_at (t : Tr) (k : Nat) : (dblSt t k).at_ ≠ pDbl.length := by
  show k % 2 ≠ 2
  omega
theorem dbl_steps {t : Tr} {J : Nat} (h : (tx (dbl t J)).length ≤ 2000000) : ∀ {k : Nat}, k ≤ 2 * J → Steps pDbl (first t) k (dblSt t k) := by
  intro k
  induction k with
  | zero => intro _; exact .zero
  | succ k ih =>
    intro hk
    refine .succ (ih (by omega)) (dblSt_at t k) ?_
    rcases Nat.mod_two_eq_zero_or_one k with h0 | h0
    · obtain ⟨j, rfl⟩ : ∃ j, k = 2 * j := ⟨k / 2, by omega⟩
      exact dbl_even (Nat.le_trans (dbl_mono t (by omega)) h)
    · obtain ⟨j, rfl⟩ : ∃ j, k = 2 * j + 1 := ⟨k / 2, by omega⟩
      exact dbl_odd
theorem dbl_run {t : Tr} {J K : Nat} (h : (tx (dbl t J)).length ≤ 2000000) (hK : K ≤ 2 * J) : runTo pDbl K (first t) = some (dblSt t K, K) :=
  runTo_is (dbl_steps h hK) (Nat.le_refl _) (.inl rfl)
theorem dbl_none {t : Tr} {J K : Nat} (h : (tx (dbl t J)).length ≤ 2000000) (h2 : ¬ (tx (dbl t (J + 1))).length ≤ 2000000) (hK : 2 * J < K) : runTo pDbl K (first t) = none :=
  runTo_large (dbl_steps h (Nat.le_refl _)) hK (dblSt_at t _) (dbl_large h2)
theorem run_dbl : runRes pDbl 1000 (rd [48]) = .tuple #[.string (S []), .int .i64 0, .int .i64 3] := by
  have l19 : (tx (dbl .nil 19)).length ≤ 2000000 := by have := dbl_len .nil 19; have e : 2 ^ 19 * ((tx Tr.nil).length + 1) = 1048576 := by decide
                                                       omega
  have l20 : ¬ (tx (dbl .nil 20)).length ≤ 2000000 := by have := dbl_len .nil 20; have e : 2 ^ 20 * ((tx Tr.nil).length + 1) = 2097152 := by decide
                                                         omega
  have h : runTo pDbl 1000 (first .nil) = none := dbl_none l19 l20 (by decide)
  unfold runRes
  rw [rd_0, h]
end Go.Proofs.YtmhoacnbmbhcjaaGreatDoor
