/- Stacks of trees in a row of pointers. By an AI agent. -/
import Derived.Test.YtpiahjbpidcjpaaNode
import Derived.Deep.RegionHeld3
import Derived.StillTailTactics
import Derived.Outline
namespace Go.Proofs.Ytpiahjbpidcjpaa
open Go.RowKit Pl

/-- values that are trees, one by one -/
def Stk (c : Nat → Nat → Value → Prop) : List Tr → List Value → Prop
  | [], [] => True
  | t :: ts, v :: vs => NodeC c t v ∧ Stk c ts vs
  | _, _ => False
theorem Stk.mono {c d : Nat → Nat → Value → Prop} (h : ∀ b o x, c b o x → d b o x) : ∀ {ts : List Tr} {vs : List Value}, Stk c ts vs → Stk d ts vs
  | [], [], _ => trivial
  | _ :: _, _ :: _, hs => ⟨NodeC.mono h hs.1, Stk.mono h hs.2⟩
  | [], _ :: _, hs => hs.elim
  | _ :: _, [], hs => hs.elim
theorem Stk.len {c : Nat → Nat → Value → Prop} : ∀ {ts : List Tr} {vs : List Value}, Stk c ts vs → vs.length = ts.length
  | [], [], _ => rfl
  | _ :: _, _ :: _, hs => by simp [hs.2.len]
  | [], _ :: _, hs => hs.elim
  | _ :: _, [], hs => hs.elim
theorem Stk.two {c : Nat → Nat → Value → Prop} {a b : Tr} {r : List Tr} {vs : List Value} (h : Stk c (a :: b :: r) vs) : ∃ x y u, vs = x :: y :: u ∧ NodeC c a x ∧ NodeC c b y ∧ Stk c r u := by
  match vs, h with
  | x :: y :: u, h => exact ⟨x, y, u, rfl, h.1, h.2.1, h.2.2⟩
  | [_], h => exact h.2.elim
  | [], h => exact h.elim
theorem Stk.one {c : Nat → Nat → Value → Prop} {a : Tr} {vs : List Value} (h : Stk c [a] vs) : ∃ x, vs = [x] ∧ NodeC c a x := by
  match vs, h with
  | [x], h => exact ⟨x, rfl, h.1⟩
  | _ :: _ :: _, h => exact h.2.elim
  | [], h => exact h.elim
theorem Stk.up {c : Nat → Nat → Value → Prop} {a : Tr} {r : List Tr} {vs : List Value} (h : Stk c (a :: r) vs) : ∃ x u, vs = x :: u ∧ NodeC c a x ∧ Stk c r u := by
  match vs, h with
  | x :: u, h => exact ⟨x, u, rfl, h.1, h.2⟩
  | [], h => exact h.elim
/-- the top of a row of the call's own: its cell, and the row without it -/
theorem own_top {w : World} {base n : Nat} {e : TypeId} {v : Value} {xs ys : List Value} {x : Value} (h : w.ownsRow base e 1 v n xs) (hx : xs = ys ++ [x]) :
    ∃ g cap, v = .slice (some ⟨g, 0, none⟩) (ys.length + 1) cap ∧ n = ys.length + 1 ∧ ys.length + 1 ≤ cap ∧ base ≤ g ∧ g < w.heap.size ∧ w.cell? ⟨g, ys.length, none⟩ = some x ∧ w.ownsRow base e 1 (.slice (some ⟨g, 0, none⟩) ys.length cap) ys.length ys := by
  subst hx
  have hn : n = ys.length + 1 := by have := h.1; simp at this; omega
  subst hn
  rcases h.2 with ⟨h1, h2⟩ | ⟨g, cap, cur, rfl, hb, hg, hle, hm, hs, ht⟩
  · omega
  · have hlt : g < w.heap.size := (Array.getElem?_eq_some_iff.1 hg).1
    refine ⟨g, cap, rfl, rfl, hle, hb, hlt, ?_, ?_⟩
    · rw [h.cellAt ys.length (by simp)]; simp
    · refine ⟨by simp, Or.inr ⟨g, cap, cur, rfl, hb, hg, by omega, hm, hs, ?_⟩⟩
      have h3 := congrArg (List.take (ys.length * 1)) ht
      rw [List.take_take, show min (ys.length * 1) ((ys.length + 1) * 1) = ys.length * 1 from by omega] at h3
      rw [h3]; simp
theorem own_below {B k n : Nat} {e : TypeId} {v : Value} {xs : List Value} {w w' : World} (h : w.ownsRow B e k v n xs) (hb : Below w.heap.size w w') : w'.ownsRow B e k v n xs :=
  h.kept (row := none) ⟨hb.os, hb.tape, hb.output, hb.size, fun k hk _ => hb.block k hk⟩ (by cases v.ownBlock <;> simp)
theorem own_tag {w : World} {base n k : Nat} {e : TypeId} {v : Value} {xs : List Value} {size : Nat} (h : w.ownsRow base e size v n xs) (hv : v.ownBlock = some k) : TagB w k e := by
  rcases h.2 with ⟨rfl, _⟩ | ⟨g, cap, cur, rfl, hb, hg, _⟩
  · cases hv
  · cases hv; exact ⟨cur, _, hg⟩
theorem own_apart {w : World} {B B' n m k k' : Nat} {e e' : TypeId} {v u : Value} {xs ys : List Value} (h : w.ownsRow B e k v n xs) (h' : w.ownsRow B' e' k' u m ys) (hne : e ≠ e') : v.ownBlock = none ∨ v.ownBlock ≠ u.ownBlock := by
  cases hv : v.ownBlock with
  | none => exact .inl rfl
  | some b => exact .inr fun hu => (own_tag h hv).ne hne (own_tag h' hu.symm)
theorem app_keep {τ e : TypeId} {w w1 : World} {base n : Nat} {size : Nat} {v : Value} {xs : List Value} (h : w.ownsRow base e size v n xs) (hg : w.grownBy w1 v.ownBlock) (hne : e ≠ τ) : KeepT τ w w1 :=
  KeepT.grown hg fun _ hk => (own_tag h hk).ne hne
theorem Stk.keep {τ : TypeId} {w w' : World} {ts : List Tr} {vs : List Value} (h : Stk (CellsAt τ w) ts vs) (hk : KeepT τ w w') : Stk (CellsAt τ w') ts vs :=
  h.mono fun b o x ⟨h1, h2⟩ => ⟨h1.keep hk, by rw [← h2]; exact World.cell?_of_block (w := w) (a := ⟨b, o, none⟩) (hk.block b h1)⟩
theorem rev_two (x y : Value) (u : List Value) : (x :: y :: u).reverse = (u.reverse ++ [y]) ++ [x] := by simp
theorem Try.infoRNode : (Try.prog.info? 42).map (fun i => (i.zero, i.size, i.bytes)) = some (some (.pointer none), 1, 8) := by kernel_rfl
theorem Try.infoNode : (Try.prog.info? 103).map (fun i => (i.zero, i.size, i.bytes)) = some (some (.pointer none), 1, 8) := by kernel_rfl

set_option maxHeartbeats 3200000 in
set_option maxRecDepth 100000 in
theorem rRead_any (s : ByteArray) (w : World) (hv : vld s.data.toList = true) :
    Calls Try.prog 25 #[.string s] w (ConsOut 123 w (rd s.data.toList)) := by
  obtain ⟨i0, hi, hz0, hz1, hz2⟩ := info_parts Try.infoRNode
  have hs := vld_size hv
  have HV := Lib.hid hv; clear hv
  go_enter Try.func25, Try.ntmps25
  go_wp2
  go_loopw [3, 4] (fun v i wr => ∃ (j : Nat) (ts : List Tr) (vs : List Value), j ≤ s.size ∧ i = .int .i64 ((j : Int) - 1) ∧ Hid (txs ts = s.data.toList.drop j) ∧ Hid (Stk (CellsAt 123 wr) ts vs) ∧ wr.ownsRow w.heap.size 42 1 v vs.length vs.reverse ∧ Below w.heap.size w wr) (fun _ i _ => (intOf i + 1).toNat)
  case atStart => exact ⟨s.size, [], [], Nat.le_refl _, rfl, Lib.hid (by rw [List.drop_of_length_le (by rw [len_eq]; exact Nat.le_refl _)]; rfl), Lib.hid trivial, World.ownsRow_nil _ _ _ _, Below.refl _ _⟩
  case round =>
    obtain ⟨j, ts, vs, hj, rfl, HT, HS, hown, hbw⟩ := hrel
    have hsz := hbw.size
    cases j with
    | zero =>
      have h1 : ts = [rd s.data.toList] := one_of HV.out (by rw [HT.out]; rfl)
      have HS' := HS.out
      rw [h1] at HS'
      obtain ⟨x, rfl, hx⟩ := HS'.one
      obtain ⟨g, cap, rfl, _, _, _, _, hcell, _⟩ := own_top (ys := []) hown rfl
      have HX := Lib.hid hx
      clear hx HS' hown h1
      rw [show ([] : List Value).length = 0 from rfl] at hcell ⊢
      go_wp2
      go_ret
      exact ⟨_, rfl, HX.out, hbw⟩
    | succ k =>
      rw [show ((k + 1 : Nat) : Int) - 1 = (k : Int) from by omega]
      have hk : k < s.size := hj
      have hkl : k < s.data.toList.length := by rw [len_eq]; exact hk
      have hfew : vs.length ≤ 2000000 := by
        have h1 := HS.out.len
        have h2 := txs_len ts
        have h3 := congrArg List.length HT.out
        have h4 := (vld_iff.1 HV.out).1
        rw [List.length_drop] at h3
        omega
      rcases vld_byte HV.out hkl with hc | hc
      · have hc' : s[k] = 48 := hc
        have HT1 : Hid (txs (Tr.nil :: ts) = s.data.toList.drop k) := Lib.hid (by rw [drop_cons hkl, hc, txs_cons, HT.out]; rfl)
        clear hc HT
        go_wp2_with (at_builtin; refine wpList_append_own _ rfl _ _ 115 rfl w.heap.size 42 i0 (.pointer none) 1 8 Try.underlying115 hi hz0 hz1 hz2 rfl (by decide) _ _ _ rfl (hown.alloc _) ⟨wr.heap.size, 0, none⟩ 1 1 [.pointer none] rfl rfl ?c1 ?c2 ?c3 ?c4 ?c5 ?_)
        case c1 =>
          intro t u ht
          match t, ht with
          | 0, ht => simp at ht; subst ht; simp [Addr.add]
        case c2 => intro u hu; simp at hu; subst hu; rfl
        case c3 => unfold maxLen; omega
        case c4 => omega
        case c5 => simp; omega
        intro v' w1 hown' hgrow _
        have hb1 := app_below hbw hsz hown hgrow
        have hk1 := (KeepT.alloc 123 wr _).trans (app_keep (hown.alloc _) hgrow (by decide))
        have HS1 : Hid (Stk (CellsAt 123 w1) (Tr.nil :: ts) (.pointer none :: vs)) := Lib.hid ⟨rfl, HS.out.keep hk1⟩
        have HO : Hid (w1.ownsRow w.heap.size 42 1 v' (Value.pointer none :: vs).length (Value.pointer none :: vs).reverse) := Lib.hid (by rw [List.reverse_cons, List.length_cons]; exact hown')
        clear hown' hgrow hown hbw HS hk1
        go_wp2
        go_roundw
        case rel => exact ⟨k, _, _, by omega, rfl, HT1, HS1, HO.out, hb1⟩
        case measure => simp [intOf]
      · have hc' : s[k] = 49 := hc
        obtain ⟨a, b, r, rfl⟩ := two_of HV.out hkl hc HT.out
        obtain ⟨x, y, u, rfl, hx, hy, hu⟩ := HS.out.two
        have HT1 : Hid (txs (Tr.pair a b :: r) = s.data.toList.drop k) := Lib.hid (by rw [drop_cons hkl, hc, ← HT.out, txs_cons, txs_cons, txs_cons]; simp [tx])
        have hle : (tx a).length ≤ 2000000 ∧ (tx b).length ≤ 2000000 := by
          have h3 := congrArg List.length HT.out
          have h4 := (vld_iff.1 HV.out).1
          rw [List.length_drop, txs_cons, txs_cons, List.length_append, List.length_append] at h3
          omega
        clear hc HT HS
        obtain ⟨g, cap, rfl, _, hcap, hg0, hg, cell1, own1⟩ := own_top hown (rev_two x y u)
        obtain ⟨g2, cap2, hg2, _, hcap2, _, _, cell2, own2⟩ := own_top own1 rfl
        injection hg2 with e1 e2 e3
        injection e1 with e1
        injection e1 with e1
        subst e1; subst e3
        simp only [List.length_append, List.length_reverse, List.length_cons, List.length_nil] at cell1 cell2 hcap hfew own2 ⊢
        clear own1 hown hcap2 e2
        obtain ⟨X, rfl⟩ := hx.one
        obtain ⟨Y, rfl⟩ := hy.one
        have HC := Lib.hid (fun W (h1 : NodeW 123 W a (.pointer X)) (h2 : NodeW 123 W b (.pointer Y)) => rCons_any W a b _ _ h1 h2 hle.1 hle.2)
        have HX := Lib.hid hx; have HY := Lib.hid hy; have HU := Lib.hid hu; clear hx hy hu hle
        generalize hqn : u.length = qn at *
        have HQ := Lib.hid hqn; clear hqn
        obtain ⟨n, hn⟩ : ∃ n, qn + 1 + 1 = n := ⟨_, rfl⟩
        simp only [Nat.zero_add] at cell1 cell2 hcap own2 ⊢
        rw [hn] at hcap hfew ⊢
        rw [show qn + 1 = n - 1 from by omega] at cell1
        rw [show qn = n - 2 from by omega] at cell2
        have m0 : 2 ≤ n := by omega
        have m5 : (1 : Int) ≤ (n : Int) := by omega
        have m6 : (2 : Int) ≤ (n : Int) := by omega
        have m1 : (0 : Int) ≤ (n : Int) - 1 := by omega
        have m2 : (n : Int) - 1 < (n : Int) := by omega
        have m3 : (0 : Int) ≤ (n : Int) - 2 := by omega
        have m4 : (n : Int) - 2 < (n : Int) := by omega
        have s1 : ((n : Int) - 1).toNat = n - 1 := by omega
        have s2 : ((n : Int) - 2).toNat = n - 2 := by omega
        have wr1 : IntKind.i64.wrap ((n : Int) - 1) = (n : Int) - 1 := IntWalk.i64_in _ (by omega)
        have wr2 : IntKind.i64.wrap ((n : Int) - 2) = (n : Int) - 2 := IntWalk.i64_in _ (by omega)
        rw [show qn = n - 2 from by omega] at own2 HQ
        have OWN := Lib.hid own2
        clear hn own2
        go_wp2_with fail
        go_still_tail 12, (by kernel_rfl)
        go_wp2_with fail
        refine (HC.out _ (NodeW.keep HX.out (KeepT.drewN _ wr 1)) (NodeW.keep HY.out (KeepT.drewN _ wr 1))).mono ?_
        rintro e w2 ⟨v2, rfl, hv2, hb2⟩
        have hb2' : Below w.heap.size w w2 := hbw.drew.trans (hb2.mono hsz)
        have OWN2 := Lib.hid (own_below OWN.out.drew hb2)
        have HU2 := Lib.hid (HU.out.keep ((KeepT.drewN _ wr 1).trans (KeepT.below hb2)))
        have hsz2 := hb2'.size
        obtain ⟨Z, rfl⟩ := hv2.one
        have HV2 := Lib.hid hv2
        clear hv2 hb2 OWN HU HX HY HC cell1 cell2 hbw
        go_wp2_with (at_builtin; refine wpList_append_own _ rfl _ _ 115 rfl w.heap.size 42 i0 (.pointer none) 1 8 Try.underlying115 hi hz0 hz1 hz2 rfl (by decide) _ _ _ rfl (OWN2.out.alloc _) ⟨w2.heap.size, 0, none⟩ 1 1 [.pointer Z] rfl rfl ?d1 ?d2 ?d3 ?d4 ?d5 ?_)
        case d1 =>
          intro t u ht
          match t, ht with
          | 0, ht => simp at ht; subst ht; simp [Addr.add]
        case d2 => intro u hu; simp at hu; subst hu; rfl
        case d3 => unfold maxLen; omega
        case d4 => omega
        case d5 => simp; omega
        intro v' w1 hown' hgrow _
        have hb1 := app_below hb2' hsz2 OWN2.out hgrow
        have hk1 := (KeepT.alloc 123 w2 _).trans (app_keep (OWN2.out.alloc _) hgrow (by decide))
        have HS1 : Hid (Stk (CellsAt 123 w1) (Tr.pair a b :: r) (.pointer Z :: u)) := Lib.hid ⟨NodeW.keep HV2.out hk1, HU2.out.keep hk1⟩
        have HO : Hid (w1.ownsRow w.heap.size 42 1 v' (Value.pointer Z :: u).length (Value.pointer Z :: u).reverse) := Lib.hid (by rw [List.reverse_cons, List.length_cons, HQ.out]; exact hown')
        clear hown' hgrow OWN2 hb2' hk1
        go_wp2
        go_roundw
        case rel => exact ⟨k, _, _, by omega, rfl, HT1, HS1, HO.out, hb1⟩
        case measure => simp [intOf]
end Go.Proofs.Ytpiahjbpidcjpaa
