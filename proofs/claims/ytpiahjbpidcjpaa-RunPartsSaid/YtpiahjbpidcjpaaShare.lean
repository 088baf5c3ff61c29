/- share: a tree's text as nodes in one block. By an AI agent. -/
import Derived.Test.YtpiahjbpidcjpaaStk
import Derived.Deep.QuietTactic
import Derived.BigQuiet
import Derived.Outline
namespace Go.Proofs.Ytpiahjbpidcjpaa
open Go.RowKit Pl

/-- the cells of a row's list that are done -/
def InRow (N k : Nat) (ys : List Value) (b o : Nat) (x : Value) : Prop := b = N ∧ o < k * 3 ∧ ys[o]? = some x
theorem InRow.set3 {N k : Nat} {ys : List Value} {b o : Nat} {x : Value} (h : InRow N k ys b o x) (v0 v1 v2 : Value) : InRow N (k + 1) (((ys.set (k * 3) v0).set (k * 3 + 1) v1).set (k * 3 + 2) v2) b o x := by
  obtain ⟨rfl, h1, h2⟩ := h
  refine ⟨rfl, by omega, ?_⟩
  rw [List.getElem?_set_ne (by omega), List.getElem?_set_ne (by omega), List.getElem?_set_ne (by omega), h2]
theorem set3_get {ys : List Value} {m : Nat} (v0 v1 v2 : Value) (h : m + 3 ≤ ys.length) :
    (((ys.set m v0).set (m + 1) v1).set (m + 2) v2)[m]? = some v0 ∧ (((ys.set m v0).set (m + 1) v1).set (m + 2) v2)[m + 1]? = some v1 ∧ (((ys.set m v0).set (m + 1) v1).set (m + 2) v2)[m + 2]? = some v2 := by
  refine ⟨?_, ?_, ?_⟩
  · rw [List.getElem?_set_ne (by omega), List.getElem?_set_ne (by omega), List.getElem?_set_self (by omega)]
  · rw [List.getElem?_set_ne (by omega), List.getElem?_set_self (by simp; omega)]
  · rw [List.getElem?_set_self (by simp; omega)]
theorem own_stored3 {w : World} {B g n m : Nat} {e : TypeId} {xs : List Value} (h : w.ownsRow B e 3 (.slice (some ⟨g, 0, none⟩) n n) n xs) (v0 v1 v2 : Value) :
    (((w.setCell ⟨g, m, none⟩ v0).setCell ⟨g, m + 1, none⟩ v1).setCell ⟨g, m + 2, none⟩ v2).ownsRow B e 3 (.slice (some ⟨g, 0, none⟩) n n) n (((xs.set m v0).set (m + 1) v1).set (m + 2) v2) :=
  (((h.stored m v0).1.stored (m + 1) v1).1.stored (m + 2) v2).1
theorem below3at {B b m : Nat} {w0 w : World} (v0 v1 v2 : Value) (h : Below B w0 w) (hb : B ≤ b) :
    Below B w0 (((w.setCell ⟨b, m, none⟩ v0).setCell ⟨b, m + 1, none⟩ v1).setCell ⟨b, m + 2, none⟩ v2) :=
  ((h.setCell (p := ⟨b, m, none⟩) hb _).setCell (p := ⟨b, m + 1, none⟩) hb _).setCell (p := ⟨b, m + 2, none⟩) hb _
theorem own_cell3 {w : World} {B g n : Nat} {e : TypeId} {xs : List Value} (h : w.ownsRow B e 3 (.slice (some ⟨g, 0, none⟩) n n) n xs) (j : Nat) (hj : j < n * 3) : ∃ u, w.cell? ⟨g, j, none⟩ = some u := by
  have hx := h.1
  rw [h.cellAt j hj]
  exact ⟨xs[j]'(by omega), List.getElem?_eq_getElem _⟩
theorem row_set3 {w : World} {g n m base k : Nat} {e' : TypeId} {v : Value} {ys : List Value} (h : w.ownsRow base e' k v n ys) (hg : v.ownBlock = none ∨ v.ownBlock ≠ some g) (v0 v1 v2 : Value) :
    (((w.setCell ⟨g, m, none⟩ v0).setCell ⟨g, m + 1, none⟩ v1).setCell ⟨g, m + 2, none⟩ v2).ownsRow base e' k v n ys :=
  h.kept (row := some g) ⟨rfl, rfl, rfl, by simp [World.setCell], fun k hk hne => by
    rw [Below.heap_setCell _ _ _ _ (fun e => hne (by rw [e])), Below.heap_setCell _ _ _ _ (fun e => hne (by rw [e])), Below.heap_setCell _ _ _ _ (fun e => hne (by rw [e]))]⟩ hg
/-- what lies done in a row of the call's own is a tree in the world -/
theorem inRow_node {w : World} {B N n k : Nat} {τ : TypeId} {ys : List Value} {t : Tr} {v : Value} (h : w.ownsRow B τ 3 (.slice (some ⟨N, 0, none⟩) n n) n ys) (hv : NodeC (InRow N k ys) t v) : NodeW τ w t v :=
  NodeC.mono (fun b o x ⟨h1, h2, h3⟩ => by
    subst h1
    refine ⟨own_tag h rfl, ?_⟩
    have hx : o < ys.length := (List.getElem?_eq_some_iff.1 h3).1
    rw [h.cellAt o (by rw [← h.1]; exact hx), h3]) hv
theorem Try.infoNodeS : (Try.prog.info? 151).map (fun i => (i.zero, i.size, i.bytes)) = some (some (.agg #[.pointer none, .pointer none, .int .i64 0]), 3, 24) := by kernel_rfl
/-- the size of a tree whose nodes lie in a row -/
theorem size_row (N k n B : Nat) (ys : List Value) (w : World) (t : Tr) (v : Value) (hr : w.ownsRow B 151 3 (.slice (some ⟨N, 0, none⟩) n n) n ys) (h : NodeC (InRow N k ys) t v) :
    Calls Try.prog 112 #[v] w fun e w' => e = .returned (.int .i64 ((tx t).length : Nat)) ∧ w = w' := size_any _ w t v (inRow_node hr h)

set_option maxHeartbeats 3200000 in
set_option maxRecDepth 100000 in
theorem share_any (s : ByteArray) (w : World) (hv : vld s.data.toList = true) :
    Calls Try.prog 71 #[.string s] w (ConsOut 151 w (rd s.data.toList)) := by
  obtain ⟨i0, hi, hz0, hz1, hz2⟩ := info_parts Try.infoNode
  obtain ⟨i1, hi1, hz10, hz11, hz12⟩ := info_parts Try.infoNodeS
  have hs := vld_size hv
  have HV := Lib.hid hv
  obtain ⟨n, hn⟩ : ∃ n, n = ones s.data.toList := ⟨_, rfl⟩
  have hnh : (s.size : Int) / 2 = (n : Int) := by have := half_ones hv; rw [len_eq, ← hn] at this; omega
  have hn1 : n ≤ 1000000 := by omega
  have HN := Lib.hid hn
  clear hv hn
  go_enter Try.func71, Try.ntmps71
  go_wp2_with (at_make; refine wpList_make_full _ rfl _ _ 149 rfl w.heap.size 151 i1 (.agg #[.pointer none, .pointer none, .int .i64 0]) 3 Try.underlying149 hi1 hz10 hz11 .i64 .i64 _ _ n rfl rfl rfl rfl (by rw [hz12]; omega) (by unfold maxLen; omega) (Nat.le_refl _) ?_)
  intro w1 hown hgrow
  have hb1 : Below w.heap.size w w1 := (Below.refl _ _).grown hgrow (Nat.le_refl _) (by simp)
  obtain ⟨xs, HO⟩ : ∃ xs, Hid (w1.ownsRow w.heap.size 151 3 (.slice (some ⟨w.heap.size, 0, none⟩) n n) n xs) := ⟨_, Lib.hid hown⟩
  clear hown hgrow hi1 hz10 hz11 hz12
  obtain ⟨N, hNN⟩ : ∃ N, N = w.heap.size := ⟨_, rfl⟩
  rw [← hNN] at hb1 HO ⊢
  have HNN := Lib.hid hNN
  clear hNN
  go_wp2
  go_loopw [3, 4, 5] (fun nv v i wr => ∃ (j k d off : Nat) (ts : List Tr) (vs ys : List Value), j ≤ s.size ∧ i = .int .i64 ((j : Int) - 1) ∧ d + k = n ∧ nv = .slice (some ⟨N, off, none⟩) d d ∧ Hid (0 < d → off = k * 3) ∧ Hid (onesFrom s.data.toList j = k) ∧ Hid (txs ts = s.data.toList.drop j) ∧ Hid (Stk (InRow N k ys) ts vs) ∧ Hid (wr.ownsRow N 151 3 (.slice (some ⟨N, 0, none⟩) n n) n ys) ∧ wr.ownsRow N 103 1 v vs.length vs.reverse ∧ Below N w wr) (fun _ _ i _ => (intOf i + 1).toNat)
  case atStart => exact ⟨s.size, 0, n, 0, [], [], xs, Nat.le_refl _, rfl, by omega, rfl, Lib.hid (fun _ => rfl), Lib.hid (by unfold onesFrom; rw [List.drop_of_length_le (by rw [len_eq]; exact Nat.le_refl _)]; rfl), Lib.hid (by rw [List.drop_of_length_le (by rw [len_eq]; exact Nat.le_refl _)]; rfl), Lib.hid trivial, HO, World.ownsRow_nil _ _ _ _, hb1⟩
  case round =>
    clear HO hb1
    obtain ⟨j, k, d, off, ts, vs, ys, hj, rfl, hdk, rfl, HOFF, HK, HT, HS, HO, hown, hbw⟩ := hrel
    have hsz := hbw.size
    cases j with
    | zero =>
      have h1 : ts = [rd s.data.toList] := one_of HV.out (by rw [HT.out]; rfl)
      have HS' := HS.out
      rw [h1] at HS'
      obtain ⟨x, rfl, hx⟩ := HS'.one
      obtain ⟨g, cap, rfl, _, _, _, _, hcell, _⟩ := own_top (ys := []) hown rfl
      have HX := Lib.hid (inRow_node HO.out hx)
      clear hx HS' hown h1
      rw [show ([] : List Value).length = 0 from rfl] at hcell ⊢
      go_wp2
      go_ret
      exact ⟨_, rfl, HX.out, by rw [← HNN.out]; exact hbw⟩
    | succ j =>
      rw [show ((j + 1 : Nat) : Int) - 1 = (j : Int) from by omega]
      have hk : j < s.size := hj
      have hkl : j < s.data.toList.length := by rw [len_eq]; exact hk
      have hNlt : N < wr.heap.size := (own_tag HO.out rfl).lt
      have hfew : vs.length ≤ 2000000 := by
        have h1 := HS.out.len
        have h2 := txs_len ts
        have h3 := congrArg List.length HT.out
        have h4 := (vld_iff.1 HV.out).1
        rw [List.length_drop] at h3
        omega
      rcases vld_byte HV.out hkl with hc | hc
      · have hc' : s[j] = 48 := hc
        have HT1 : Hid (txs (Tr.nil :: ts) = s.data.toList.drop j) := Lib.hid (by rw [drop_cons hkl, hc, txs_cons, HT.out]; rfl)
        have HK1 : Hid (onesFrom s.data.toList j = k) := Lib.hid (by rw [onesFrom_zero hkl hc, HK.out])
        clear hc HT HK
        go_wp2_with (at_builtin; refine wpList_append_own _ rfl _ _ 102 rfl N 103 i0 (.pointer none) 1 8 Try.underlying102 hi hz0 hz1 hz2 rfl (by decide) _ _ _ rfl (hown.alloc _) ⟨wr.heap.size, 0, none⟩ 1 1 [.pointer none] rfl rfl ?c1 ?c2 ?c3 ?c4 ?c5 ?_)
        case c1 =>
          intro t u ht
          match t, ht with
          | 0, ht => simp at ht; subst ht; simp [Addr.add]
        case c2 => intro u hu; simp at hu; subst hu; rfl
        case c3 => unfold maxLen; omega
        case c4 => omega
        case c5 => simp; omega
        intro v' w1 hown' hgrow _
        have hb1 := app_below hbw (by omega) hown hgrow
        have HO1 := Lib.hid ((HO.out.alloc (.cells #[.pointer none] 103)).kept hgrow (own_apart HO.out hown (by decide)))
        have HS1 : Hid (Stk (InRow N k ys) (Tr.nil :: ts) (.pointer none :: vs)) := Lib.hid ⟨rfl, HS.out⟩
        have HW : Hid (w1.ownsRow N 103 1 v' (Value.pointer none :: vs).length (Value.pointer none :: vs).reverse) := Lib.hid (by rw [List.reverse_cons, List.length_cons]; exact hown')
        clear hown' hgrow hown hbw HS HO
        go_wp2
        go_roundw
        case rel => exact ⟨j, k, d, off, _, _, _, by omega, rfl, hdk, rfl, HOFF, HK1, HT1, HS1, HO1, HW.out, hb1⟩
        case measure => simp [intOf]
      · have hc' : s[j] = 49 := hc
        obtain ⟨a, b, r, rfl⟩ := two_of HV.out hkl hc HT.out
        obtain ⟨x, y, u, rfl, hx, hy, hu⟩ := HS.out.two
        have HT1 : Hid (txs (Tr.pair a b :: r) = s.data.toList.drop j) := Lib.hid (by rw [drop_cons hkl, hc, ← HT.out, txs_cons, txs_cons, txs_cons]; simp [tx])
        have HK1 : Hid (onesFrom s.data.toList j = k + 1) := Lib.hid (by rw [onesFrom_one hkl hc, HK.out])
        have hkn : k + 1 ≤ n := by have h1 := onesFrom_le s.data.toList j; rw [HK1.out, ← HN.out] at h1; exact h1
        obtain ⟨d, rfl⟩ : ∃ q, d = q + 1 := ⟨d - 1, by omega⟩
        obtain rfl : off = k * 3 := HOFF.out (by omega)
        have hle : (tx a).length + (tx b).length ≤ 2000000 := by
          have h3 := congrArg List.length HT.out
          have h4 := (vld_iff.1 HV.out).1
          rw [List.length_drop, txs_cons, txs_cons, List.length_append, List.length_append] at h3
          omega
        clear hc HT HS HK HOFF
        obtain ⟨g, cap, rfl, _, hcap, hg0, hg, cell1, own1⟩ := own_top hown (rev_two x y u)
        obtain ⟨g2, cap2, hg2, _, hcap2, _, _, cell2, own2⟩ := own_top own1 rfl
        injection hg2 with e1 e2 e3
        injection e1 with e1
        injection e1 with e1
        subst e1; subst e3
        simp only [List.length_append, List.length_reverse, List.length_cons, List.length_nil] at cell1 cell2 hcap hfew own2 ⊢
        clear own1 hown hcap2 e2
        obtain ⟨X, rfl⟩ := hx.one
        obtain ⟨Y, rfl⟩ := hy.one
        have HSX := Lib.hid (fun W h => size_row N k n N ys W a _ h hx)
        have HSY := Lib.hid (fun W h => size_row N k n N ys W b _ h hy)
        have HX := Lib.hid hx; have HY := Lib.hid hy; have HU := Lib.hid hu; clear hx hy hu
        have HP := Lib.hid (tx_pair a b)
        generalize (tx a).length = la at *
        generalize (tx b).length = lb at *
        generalize hqn : u.length = qn at *
        have HQ := Lib.hid hqn; clear hqn
        obtain ⟨m, hm⟩ : ∃ m, qn + 1 + 1 = m := ⟨_, rfl⟩
        simp only [Nat.zero_add] at cell1 cell2 hcap own2 ⊢
        rw [hm] at hcap hfew ⊢
        rw [show qn + 1 = m - 1 from by omega] at cell1
        rw [show qn = m - 2 from by omega] at cell2
        have hNg : g ≠ N := fun e => by subst e; exact (own_tag own2 rfl).ne (by decide) (own_tag HO.out rfl)
        have hNg' : N ≠ g := fun e => hNg e.symm
        have m0 : 2 ≤ m := by omega
        have m5 : (1 : Int) ≤ (m : Int) := by omega
        have m6 : (2 : Int) ≤ (m : Int) := by omega
        have m1 : (0 : Int) ≤ (m : Int) - 1 := by omega
        have m2 : (m : Int) - 1 < (m : Int) := by omega
        have m3 : (0 : Int) ≤ (m : Int) - 1 - 1 := by omega
        have m4 : (m : Int) - 1 - 1 < (m : Int) := by omega
        have s1 : ((m : Int) - 1).toNat = m - 1 := by omega
        have s2 : ((m : Int) - 1 - 1).toNat = m - 2 := by omega
        have wr1 : IntKind.i64.wrap ((m : Int) - 1) = (m : Int) - 1 := IntWalk.i64_in _ (by omega)
        have wr2 : IntKind.i64.wrap ((m : Int) - 1 - 1) = (m : Int) - 1 - 1 := IntWalk.i64_in _ (by omega)
        rw [show qn = m - 2 from by omega] at own2 HQ
        have OWN := Lib.hid own2
        clear hm own2
        rcases Nat.eq_zero_or_pos d with rfl | hd
        · go_wp2_with fail
          go_quiet (fail)
          clear cell1 cell2
          obtain ⟨u0, c0⟩ := own_cell3 HO.out (k * 3) (by omega)
          obtain ⟨u1, c1⟩ := own_cell3 HO.out (k * 3 + 1) (by omega)
          obtain ⟨u2, c2⟩ := own_cell3 HO.out (k * 3 + 2) (by omega)
          have f0 := HO.out.frozenAt (k * 3)
          have f1 := HO.out.frozenAt (k * 3 + 1)
          have f2 := HO.out.frozenAt (k * 3 + 2)
          go_wp2_with fail
          have HOD := Lib.hid (own_below HO.out (bdrewN (Below.refl wr.heap.size wr) nq))
          refine (HSX.out _ HOD.out).mono ?_
          rintro e w2 ⟨rfl, rfl⟩
          go_wp2_with fail
          refine (HSY.out _ HOD.out).mono ?_
          rintro e w2 ⟨rfl, rfl⟩
          have OWN3 := Lib.hid (row_set3 (m := k * 3) (g := N) (own_below OWN.out (bdrewN (Below.refl _ _) nq)) (.inr (fun e => hNg (by injection e))) (.pointer X) (.pointer Y) (.int .i64 (1 + (la : Int) + (lb : Int))))
          have HO3 := Lib.hid (own_stored3 (m := k * 3) HOD.out (.pointer X) (.pointer Y) (.int .i64 (1 + (la : Int) + (lb : Int))))
          have HB3 := Lib.hid (below3at (m := k * 3) (.pointer X) (.pointer Y) (.int .i64 (1 + (la : Int) + (lb : Int))) (bdrewN hbw nq) (Nat.le_refl N))
          have hyl : n * 3 = ys.length := HO.out.1.symm
          have HYL := Lib.hid hyl
          clear hyl hbw OWN HSX HSY HO HOD
          go_wp2_with (at_builtin; refine wpList_append_own _ rfl _ _ 102 rfl N 103 i0 (.pointer none) 1 8 Try.underlying102 hi hz0 hz1 hz2 rfl (by decide) _ _ _ rfl (OWN3.out.alloc _) ⟨wr.heap.size, 0, none⟩ 1 1 [.pointer (some ⟨N, k * 3, none⟩)] rfl rfl ?d1 ?d2 ?d3 ?d4 ?d5 ?_)
          case d1 =>
            intro t u ht
            match t, ht with
            | 0, ht =>
              simp at ht; subst ht
              show World.cell? _ ⟨wr.heap.size, 0, none⟩ = _
              rw [World.cell?_alloc_at _ _ _ _ (by simp [World.setCell])]; rfl
          case d2 => intro u hu; simp at hu; subst hu; rfl
          case d3 => unfold maxLen; omega
          case d4 => omega
          case d5 => simp [World.setCell]; omega
          intro v' w1 hown' hgrow _
          have hb1 := app_below HB3.out (by simp [World.setCell]; omega) OWN3.out hgrow
          have HO4 := Lib.hid ((HO3.out.alloc (.cells #[.pointer (some ⟨N, k * 3, none⟩)] 103)).kept hgrow (own_apart HO3.out OWN3.out (by decide)))
          have hyl : n * 3 = ys.length := HYL.out
          have HS1 : Hid (Stk (InRow N (k + 1) (((ys.set (k * 3) (.pointer X)).set (k * 3 + 1) (.pointer Y)).set (k * 3 + 2) (.int .i64 (1 + (la : Int) + (lb : Int))))) (Tr.pair a b :: r) (.pointer (some ⟨N, k * 3, none⟩) :: u)) := Lib.hid (by
            obtain ⟨g1, g2, g3⟩ := set3_get (ys := ys) (m := k * 3) (.pointer X) (.pointer Y) (.int .i64 (1 + (la : Int) + (lb : Int))) (by omega)
            refine ⟨⟨N, k * 3, .pointer X, .pointer Y, rfl, ⟨rfl, by omega, g1⟩, ⟨rfl, by omega, g2⟩, ⟨rfl, by omega, by rw [g3, HP.out]; push_cast; rfl⟩, NodeC.mono (fun _ _ _ h => h.set3 _ _ _) HX.out, NodeC.mono (fun _ _ _ h => h.set3 _ _ _) HY.out⟩, Stk.mono (fun _ _ _ h => h.set3 _ _ _) HU.out⟩)
          clear hyl
          have HW : Hid (w1.ownsRow N 103 1 v' (Value.pointer (some ⟨N, k * 3, none⟩) :: u).length (Value.pointer (some ⟨N, k * 3, none⟩) :: u).reverse) := Lib.hid (by rw [List.reverse_cons, List.length_cons, HQ.out]; exact hown')
          clear hown' hgrow OWN3 HO3 HB3 HX HY HU
          go_wp2
          go_roundw
          case rel => exact ⟨j, k + 1, 0, k * 3, _, _, _, by omega, rfl, by omega, rfl, Lib.hid (fun h => absurd h (Nat.lt_irrefl _)), HK1, HT1, HS1, HO4, HW.out, hb1⟩
          case measure => simp [intOf]
        · go_wp2_with fail
          go_quiet (fail)
          clear cell1 cell2
          obtain ⟨u0, c0⟩ := own_cell3 HO.out (k * 3) (by omega)
          obtain ⟨u1, c1⟩ := own_cell3 HO.out (k * 3 + 1) (by omega)
          obtain ⟨u2, c2⟩ := own_cell3 HO.out (k * 3 + 2) (by omega)
          have f0 := HO.out.frozenAt (k * 3)
          have f1 := HO.out.frozenAt (k * 3 + 1)
          have f2 := HO.out.frozenAt (k * 3 + 2)
          go_wp2_with fail
          have HOD := Lib.hid (own_below HO.out (bdrewN (Below.refl wr.heap.size wr) nq))
          refine (HSX.out _ HOD.out).mono ?_
          rintro e w2 ⟨rfl, rfl⟩
          go_wp2_with fail
          refine (HSY.out _ HOD.out).mono ?_
          rintro e w2 ⟨rfl, rfl⟩
          have OWN3 := Lib.hid (row_set3 (m := k * 3) (g := N) (own_below OWN.out (bdrewN (Below.refl _ _) nq)) (.inr (fun e => hNg (by injection e))) (.pointer X) (.pointer Y) (.int .i64 (1 + (la : Int) + (lb : Int))))
          have HO3 := Lib.hid (own_stored3 (m := k * 3) HOD.out (.pointer X) (.pointer Y) (.int .i64 (1 + (la : Int) + (lb : Int))))
          have HB3 := Lib.hid (below3at (m := k * 3) (.pointer X) (.pointer Y) (.int .i64 (1 + (la : Int) + (lb : Int))) (bdrewN hbw nq) (Nat.le_refl N))
          have hyl : n * 3 = ys.length := HO.out.1.symm
          have HYL := Lib.hid hyl
          clear hyl hbw OWN HSX HSY HO HOD
          go_wp2_with (at_builtin; refine wpList_append_own _ rfl _ _ 102 rfl N 103 i0 (.pointer none) 1 8 Try.underlying102 hi hz0 hz1 hz2 rfl (by decide) _ _ _ rfl (OWN3.out.alloc _) ⟨wr.heap.size, 0, none⟩ 1 1 [.pointer (some ⟨N, k * 3, none⟩)] rfl rfl ?d1 ?d2 ?d3 ?d4 ?d5 ?_)
          case d1 =>
            intro t u ht
            match t, ht with
            | 0, ht =>
              simp at ht; subst ht
              show World.cell? _ ⟨wr.heap.size, 0, none⟩ = _
              rw [World.cell?_alloc_at _ _ _ _ (by simp [World.setCell])]; rfl
          case d2 => intro u hu; simp at hu; subst hu; rfl
          case d3 => unfold maxLen; omega
          case d4 => omega
          case d5 => simp [World.setCell]; omega
          intro v' w1 hown' hgrow _
          have hb1 := app_below HB3.out (by simp [World.setCell]; omega) OWN3.out hgrow
          have HO4 := Lib.hid ((HO3.out.alloc (.cells #[.pointer (some ⟨N, k * 3, none⟩)] 103)).kept hgrow (own_apart HO3.out OWN3.out (by decide)))
          have hyl : n * 3 = ys.length := HYL.out
          have HS1 : Hid (Stk (InRow N (k + 1) (((ys.set (k * 3) (.pointer X)).set (k * 3 + 1) (.pointer Y)).set (k * 3 + 2) (.int .i64 (1 + (la : Int) + (lb : Int))))) (Tr.pair a b :: r) (.pointer (some ⟨N, k * 3, none⟩) :: u)) := Lib.hid (by
            obtain ⟨g1, g2, g3⟩ := set3_get (ys := ys) (m := k * 3) (.pointer X) (.pointer Y) (.int .i64 (1 + (la : Int) + (lb : Int))) (by omega)
            refine ⟨⟨N, k * 3, .pointer X, .pointer Y, rfl, ⟨rfl, by omega, g1⟩, ⟨rfl, by omega, g2⟩, ⟨rfl, by omega, by rw [g3, HP.out]; push_cast; rfl⟩, NodeC.mono (fun _ _ _ h => h.set3 _ _ _) HX.out, NodeC.mono (fun _ _ _ h => h.set3 _ _ _) HY.out⟩, Stk.mono (fun _ _ _ h => h.set3 _ _ _) HU.out⟩)
          clear hyl
          have HW : Hid (w1.ownsRow N 103 1 v' (Value.pointer (some ⟨N, k * 3, none⟩) :: u).length (Value.pointer (some ⟨N, k * 3, none⟩) :: u).reverse) := Lib.hid (by rw [List.reverse_cons, List.length_cons, HQ.out]; exact hown')
          clear hown' hgrow OWN3 HO3 HB3 HX HY HU
          go_wp2
          go_roundw
          case rel => exact ⟨j, k + 1, d, k * 3 + 3, _, _, _, by omega, rfl, by omega, rfl, Lib.hid (fun _ => by omega), HK1, HT1, HS1, HO4, HW.out, hb1⟩
          case measure => simp [intOf]
end Go.Proofs.Ytpiahjbpidcjpaa
