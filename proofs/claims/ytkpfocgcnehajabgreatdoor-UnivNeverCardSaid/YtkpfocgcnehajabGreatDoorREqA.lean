/- The reference's Equal, of any two trees. By an AI agent. -/
import Derived.Test.YtkpfocgcnehajabGreatDoorREq
namespace Go.Proofs.YtkpfocgcnehajabGreatDoor
open Go.RowKit Pl

theorem eql_none_some {P : Program} {tp te : TypeId} (w : World) (b : Addr) (hp : P.underlying tp = some (.pointer te)) :
    (binOp .eql tp (.pointer none) (.pointer (some b))).run P w = .ok (.bool false) w := by
  have h : ∀ d : Nat, (Op.equalIn (d + 1) tp (.pointer none) (.pointer (some b))).run P w = .ok false w := fun d => by
    simp [Op.equalIn, run_underlying hp, sizeOf, typeInfo]
  simp only [binOp]
  simp [Op.equal, Op.maxDepth, h 9999]
theorem eql_some_none {P : Program} {tp te : TypeId} (w : World) (b : Addr) (hp : P.underlying tp = some (.pointer te)) :
    (binOp .eql tp (.pointer (some b)) (.pointer none)).run P w = .ok (.bool false) w := by
  have h : ∀ d : Nat, (Op.equalIn (d + 1) tp (.pointer (some b)) (.pointer none)).run P w = .ok false w := fun d => by
    simp [Op.equalIn, run_underlying hp, sizeOf, typeInfo]
  simp only [binOp]
  simp [Op.equal, Op.maxDepth, h 9999]
/-- pairs of trees, one behind the other -/
def dup2 : List (Tr × Tr) → List Tr | [] => [] | p :: ts => p.1 :: p.2 :: dup2 ts
theorem dup2_len : ∀ ts : List (Tr × Tr), (dup2 ts).length = 2 * ts.length
  | [] => rfl
  | t :: ts => by simp only [dup2, List.length_cons, dup2_len ts]; omega
def tot2 (l : List (Tr × Tr)) : Nat := totT (l.map (·.1)) + totT (l.map (·.2))
theorem tot2_cons (t : Tr × Tr) (ts : List (Tr × Tr)) : tot2 (t :: ts) = (tx t.1).length + (tx t.2).length + tot2 ts := by simp only [tot2, List.map_cons, totT_cons]; omega
theorem tot2_len : ∀ ts : List (Tr × Tr), 2 * ts.length ≤ tot2 ts
  | [] => Nat.le_refl _
  | t :: ts => by rw [tot2_cons, List.length_cons]; have := tot2_len ts; have := tx_pos t.1; have := tx_pos t.2; omega
theorem NodeW.same {τ : TypeId} {w : World} : ∀ {t s : Tr} {v : Value}, NodeW τ w t v → NodeW τ w s v → t = s
  | .nil, .nil, _, _, _ => rfl
  | .nil, .pair c d, v, h, ⟨B, o, x, y, hv, _⟩ => by rw [show v = .pointer none from h] at hv; cases hv
  | .pair a b, .nil, v, ⟨B, o, x, y, hv, _⟩, h => by rw [show v = .pointer none from h] at hv; cases hv
  | .pair a b, .pair c d, v, ⟨B, o, x, y, hv, h1, h2, _, h4, h5⟩, ⟨B', o', x', y', hv', k1, k2, _, k4, k5⟩ => by
    rw [hv] at hv'
    injection hv' with e
    injection e with e
    injection e with e1 e2 _
    subst e1; subst e2
    have ex := h1.2.symm.trans k1.2
    have ey := h2.2.symm.trans k2.2
    injection ex with ex
    injection ey with ey
    subst ex; subst ey
    rw [NodeW.same h4 k4, NodeW.same h5 k5]
set_option maxHeartbeats 3200000 in
set_option maxRecDepth 100000 in
theorem rEqual_any (w : World) (t0 s0 : Tr) (x y : Value) (hx : NodeW 72 w t0 x) (hy : NodeW 72 w s0 y) (ht : (tx t0).length + (tx s0).length ≤ 4000000) :
    Calls Tryz.prog 44 #[x, y] w fun e w' => ∃ b : Bool, e = .returned (.bool b) ∧ (b = true ↔ t0 = s0) ∧ Below w.heap.size w w' := by
  obtain ⟨jN, infoNodeR, jsz⟩ := info_size Tryz.infoRN
  obtain ⟨X, rfl⟩ := hx.one
  obtain ⟨Y, rfl⟩ := hy.one
  obtain ⟨i0, hi, hz0, hz1, hz2⟩ := info_parts Tryz.infoRNode
  have hal : Below w.heap.size w (w.alloc (.cells #[.pointer X, .pointer Y] 33)) := (Below.refl _ _).alloc (Nat.le_refl _) _
  have HS0 : Hid (Stk (CellsAt 72 (w.alloc (.cells #[.pointer X, .pointer Y] 33))) (dup2 [(s0, t0)]) [.pointer Y, .pointer X]) := Lib.hid ⟨hy.below hal, hx.below hal, trivial⟩
  have HO0 := Lib.hid (World.ownsRow_lit (e := 33) (size := 1) (base := w.heap.size) w #[.pointer X, .pointer Y] 2 (Nat.le_refl _) (by unfold maxLen; omega) rfl)
  have HB0 := Lib.hid hal
  clear hx hy hal
  go_enter Tryz.func44, Tryz.ntmps44
  go_wp2
  go_loopg [5] 4000000 (fun k v wr => ∃ (ts : List (Tr × Tr)) (vs : List Value), tot2 ts ≤ k ∧ k ≤ 4000000 ∧ Hid (t0 = s0 ↔ ∀ p ∈ ts, p.1 = p.2) ∧ Hid (Stk (CellsAt 72 wr) (dup2 ts) vs) ∧ Hid (wr.ownsRow w.heap.size 33 1 v vs.length vs.reverse) ∧ Hid (Below w.heap.size w wr))
  case atStart => exact ⟨[(s0, t0)], [.pointer Y, .pointer X], by rw [tot2_cons]; simp only [tot2, totT]; simp; omega, Nat.le_refl _, Lib.hid (by simp [eq_comm]), HS0, HO0, HB0⟩
  case round =>
    obtain ⟨ts, vs, hk, hk2, HI, HS, HO, HB⟩ := hrel
    have hl := HS.out.len
    rw [dup2_len] at hl
    have htl := tot2_len ts
    cases ts with
    | nil =>
      obtain rfl : vs = [] := List.eq_nil_of_length_eq_zero (by simpa using hl)
      rcases HO.out.2 with ⟨rfl, _⟩ | ⟨g, cap, cur, rfl, _⟩
      all_goals
        clear HO
        go_wp2
        go_ret
        exact ⟨true, rfl, by rw [HI.out]; simp, HB.out⟩
    | cons ts0 ts =>
      obtain ⟨t, s⟩ := ts0
      obtain ⟨p, q, u, rfl, hp, hq, hu⟩ := HS.out.two
      rw [tot2_cons] at hk htl
      dsimp only at hk htl
      rw [List.length_cons] at hl htl
      obtain ⟨g, cap, rfl, _, hcap, hg0, hg, cell1, own1⟩ := own_top HO.out (rev_two p q u)
      obtain ⟨g2, cap2, hg2, _, hcap2, _, _, cell2, own2⟩ := own_top own1 rfl
      injection hg2 with e1 e2 e3
      injection e1 with e1
      injection e1 with e1 _ _
      subst e1; subst e3
      obtain ⟨P, rfl⟩ := hp.one
      obtain ⟨Q, rfl⟩ := hq.one
      have HU := Lib.hid hu; have HP := Lib.hid hp; have HQ := Lib.hid hq; have O2 := Lib.hid own2
      have hul : (u.reverse ++ [Value.pointer Q]).length = u.length + 1 := by simp
      rw [hul] at cell1 hcap ⊢
      rw [List.length_reverse] at cell2
      have hus : u.length ≤ 4000000 := by simp only [List.length_cons] at hl; omega
      have hz1' : (0 : Int) ≤ (u.length : Int) := by omega
      clear own1 own2 hul HS HO hp hq hu hl hcap2
      have hcap' : (u.length : Int) + 1 + 1 ≤ (cap : Int) := by omega
      generalize hun : u.length = n at *
      have HUN := Lib.hid hun
      clear hun
      have hn2 : n + 1 + 1 - 2 = n := by omega
      have hi2 : (n : Int) + 1 + 1 - 2 = (n : Int) := by omega
      cases t with
      | nil =>
        cases s with
        | nil =>
          have HI2 : Hid (t0 = s0 ↔ ∀ p ∈ ts, p.1 = p.2) := Lib.hid (by rw [HI.out]; simp)
          obtain rfl : P = none := by have h := HP.out; exact Value.pointer.inj h
          obtain rfl : Q = none := by have h := HQ.out; exact Value.pointer.inj h
          clear HP HQ
          go_wp2_with fail
          go_quiet (fail)
          go_wp2
          go_roundg (tot2 ts)
          case measure => have := tx_pos .nil; omega
          case rel => exact ⟨ts, u, Nat.le_refl _, by omega, HI2, Lib.hid (HU.out.keep (KeepT.drewN _ _ _)), Lib.hid (by have h := own_below O2.out (bdrewN (Below.refl wr.heap.size wr) nq); rw [List.length_reverse, HUN.out] at h; rw [HUN.out]; exact h), Lib.hid (bdrewN HB.out _)⟩
        | pair c d =>
          obtain rfl : P = none := by have h := HP.out; exact Value.pointer.inj h
          obtain ⟨B2, o2, ya, yb, hq1, _⟩ := HQ.out
          obtain rfl := Value.pointer.inj hq1
          clear hq1
          have hno : ¬ (t0 = s0) := by rw [HI.out]; intro h; have := h (.nil, .pair c d) (by simp); cases this
          have HNO := Lib.hid hno
          have HZ1 := Lib.hid (fun W v (h : NodeW 72 W .nil v) => rSize_any 72 W .nil v h)
          have HZ2 := Lib.hid (fun W v (h : NodeW 72 W (.pair c d) v) => rSize_any 72 W (.pair c d) v h)
          have hd : (((tx .nil).length : Nat) : Int) ≠ (((tx (.pair c d)).length : Nat) : Int) := by have h1 := tx_pair c d; have h2 := tx_pos c; have h3 : (tx .nil).length = 1 := rfl; omega
          generalize (tx .nil).length = L1 at HZ1 hd
          generalize (tx (.pair c d)).length = L2 at HZ2 hd
          have e1 : ((L1 : Int) != (L2 : Int)) = true := by rw [bne_iff_ne]; exact hd
          have hq0 : ∀ W : World, (binOp .eql 33 (.pointer none) (.pointer (some ⟨B2, o2, none⟩))).run Tryz.prog W = .ok (.bool false) W := fun W => eql_none_some W _ Tryz.underlying33
          clear hno hd hk htl
          go_wp2_with fail
          go_quiet (fail)
          go_wp2_with fail
          refine (HZ1.out _ _ (NodeW.keep (τ := 72) HP.out (KeepT.drewN _ _ _))).mono ?_
          rintro e w' ⟨rfl, rfl⟩
          go_wp2_with fail
          refine (HZ2.out _ _ (NodeW.keep (τ := 72) HQ.out (KeepT.drewN _ _ _))).mono ?_
          rintro e w' ⟨rfl, rfl⟩
          go_wp2_with fail
          go_ret
          exact ⟨false, rfl, by simp [HNO.out], bdrewN HB.out _⟩
      | pair a b =>
        cases s with
        | nil =>
          obtain rfl : Q = none := by have h := HQ.out; exact Value.pointer.inj h
          obtain ⟨B2, o2, ya, yb, hq1, _⟩ := HP.out
          obtain rfl := Value.pointer.inj hq1
          clear hq1
          have hno : ¬ (t0 = s0) := by rw [HI.out]; intro h; have := h (.pair a b, .nil) (by simp); cases this
          have HNO := Lib.hid hno
          have HZ1 := Lib.hid (fun W v (h : NodeW 72 W .nil v) => rSize_any 72 W .nil v h)
          have HZ2 := Lib.hid (fun W v (h : NodeW 72 W (.pair a b) v) => rSize_any 72 W (.pair a b) v h)
          have hd : (((tx .nil).length : Nat) : Int) ≠ (((tx (.pair a b)).length : Nat) : Int) := by have h1 := tx_pair a b; have h2 := tx_pos a; have h3 : (tx .nil).length = 1 := rfl; omega
          generalize (tx .nil).length = L1 at HZ1 hd
          generalize (tx (.pair a b)).length = L2 at HZ2 hd
          have e1 : ((L2 : Int) != (L1 : Int)) = true := by rw [bne_iff_ne]; exact fun h => hd h.symm
          have hq0 : ∀ W : World, (binOp .eql 33 (.pointer (some ⟨B2, o2, none⟩)) (.pointer none)).run Tryz.prog W = .ok (.bool false) W := fun W => eql_some_none W _ Tryz.underlying33
          clear hno hd hk htl
          go_wp2_with fail
          go_quiet (fail)
          go_wp2_with fail
          refine (HZ2.out _ _ (NodeW.keep (τ := 72) HP.out (KeepT.drewN _ _ _))).mono ?_
          rintro e w' ⟨rfl, rfl⟩
          go_wp2_with fail
          refine (HZ1.out _ _ (NodeW.keep (τ := 72) HQ.out (KeepT.drewN _ _ _))).mono ?_
          rintro e w' ⟨rfl, rfl⟩
          go_wp2_with fail
          go_ret
          exact ⟨false, rfl, by simp [HNO.out], bdrewN HB.out _⟩
        | pair c d =>
          obtain ⟨B1, o1, xa, xb, hp1, ha1, ha2, ⟨hta, ha3⟩, hna, hnb⟩ := HP.out
          obtain ⟨B2, o2, ya, yb, hq1, hb1, hb2, ⟨htb, hb3⟩, hma, hmb⟩ := HQ.out
          obtain rfl := Value.pointer.inj hp1
          obtain rfl := Value.pointer.inj hq1
          obtain ⟨XA, rfl⟩ := hna.one; obtain ⟨XB, rfl⟩ := hnb.one; obtain ⟨YA, rfl⟩ := hma.one; obtain ⟨YB, rfl⟩ := hmb.one
          have hpl := tx_pair a b
          have hpl2 := tx_pair c d
          have HPS : Hid ((⟨B1, o1, none⟩ : Addr) = ⟨B2, o2, none⟩ → Tr.pair a b = Tr.pair c d) := Lib.hid (fun e => by have h1 := HP.out; rw [e] at h1; exact NodeW.same h1 HQ.out)
          have HNA := Lib.hid hna; have HNB := Lib.hid hnb; have HMA := Lib.hid hma; have HMB := Lib.hid hmb
          have ga1 := ha1.2; have ga2 := ha2.2; have gb1 := hb1.2; have gb2 := hb2.2
          clear hp1 hq1 ha1 ha2 ha3 hb1 hb2 hb3 hna hnb hma hmb
          by_cases e : (⟨B1, o1, none⟩ : Addr) = ⟨B2, o2, none⟩
          · have hcd := HPS.out e
            have HI2 : Hid (t0 = s0 ↔ ∀ p ∈ ts, p.1 = p.2) := Lib.hid (by rw [HI.out]; simp [hcd])
            clear hcd HPS
            injection e with q1 q2 _
            subst q1; subst q2
            have hsame : ∀ W : World, (binOp .eql 33 (.pointer (some ⟨B1, o1, none⟩)) (.pointer (some ⟨B1, o1, none⟩))).run Tryz.prog W = .ok (.bool true) W := fun W => run_eql_ptr_same W _ Tryz.underlying33 infoNodeR
            clear HP HQ ga1 ga2 gb1 gb2 hpl hpl2
            go_wp2_with fail
            go_quiet (fail)
            go_wp2
            go_roundg (tot2 ts)
            case measure => have := tx_pos (.pair a b); omega
            case rel => exact ⟨ts, u, Nat.le_refl _, by omega, HI2, Lib.hid (HU.out.keep (KeepT.drewN _ _ _)), Lib.hid (by have h := own_below O2.out (bdrewN (Below.refl wr.heap.size wr) nq); rw [List.length_reverse, HUN.out] at h; rw [HUN.out]; exact h), Lib.hid (bdrewN HB.out _)⟩
          · have heq : ((⟨B1, o1, none⟩ : Addr) == ⟨B2, o2, none⟩) = false := beq_eq_false_iff_ne.2 e
            have HTA := Lib.hid hta; have HTB := Lib.hid htb
            obtain ⟨CA, _, gA⟩ := hta
            obtain ⟨CB, _, gB⟩ := htb
            have hother : ∀ q : Nat, (binOp .eql 33 (.pointer (some ⟨B1, o1, none⟩)) (.pointer (some ⟨B2, o2, none⟩))).run Tryz.prog (wr.drewN q) = .ok (.bool false) (wr.drewN q) := fun q => run_eql_ptr_other (wr.drewN q) Tryz.underlying33 infoNodeR (by rw [jsz]; decide) e gA gB
            clear e gA gB
            have HZ1 := Lib.hid (fun W v (h : NodeW 72 W (.pair a b) v) => rSize_any 72 W (.pair a b) v h)
            have HZ2 := Lib.hid (fun W v (h : NodeW 72 W (.pair c d) v) => rSize_any 72 W (.pair c d) v h)
            by_cases hsz : (tx (.pair a b)).length = (tx (.pair c d)).length
            · have HI2 : Hid (t0 = s0 ↔ ∀ p ∈ (d, b) :: (c, a) :: ts, p.1 = p.2) := Lib.hid (by
                rw [HI.out]
                simp only [List.mem_cons, forall_eq_or_imp, Tr.pair.injEq]
                constructor
                · rintro ⟨⟨rfl, rfl⟩, h⟩; exact ⟨rfl, rfl, h⟩
                · rintro ⟨rfl, rfl, h⟩; exact ⟨⟨rfl, rfl⟩, h⟩)
              rw [← hsz] at HZ2
              clear HPS
              obtain ⟨L1, hL1⟩ : ∃ L1, (tx (.pair a b)).length = L1 := ⟨_, rfl⟩
              have HL := Lib.hid hL1
              simp only [hL1] at HZ1 HZ2
              clear hL1
              have e1 : ((L1 : Int) != (L1 : Int)) = false := by simp
              go_wp2_with fail
              go_quiet (fail)
              go_wp2_with fail
              refine (HZ1.out _ _ (NodeW.keep (τ := 72) HP.out (KeepT.drewN _ _ _))).mono ?_
              rintro e w' ⟨rfl, rfl⟩
              go_wp2_with fail
              refine (HZ2.out _ _ (NodeW.keep (τ := 72) HQ.out (KeepT.drewN _ _ _))).mono ?_
              rintro e w' ⟨rfl, rfl⟩
              go_wp2_with fail
              have OWN : Hid ((wr.drewN nq).ownsRow w.heap.size 33 1 (.slice (some ⟨g, 0, none⟩) n cap) n u.reverse) := Lib.hid (by have h := own_below O2.out (bdrewN (Below.refl wr.heap.size wr) nq); rw [List.length_reverse, HUN.out] at h; exact h)
              have hbw : Below w.heap.size w (wr.drewN nq) := bdrewN HB.out nq
              have ka1 : (wr.drewN nq).cell? ⟨B1, o1, none⟩ = some (.pointer XA) := ga1
              have ka2 : (wr.drewN nq).cell? ⟨B1, o1 + 1, none⟩ = some (.pointer XB) := ga2
              have kb1 : (wr.drewN nq).cell? ⟨B2, o2, none⟩ = some (.pointer YA) := gb1
              have kb2 : (wr.drewN nq).cell? ⟨B2, o2 + 1, none⟩ = some (.pointer YB) := gb2
              have KK := KeepT.drewN 72 wr nq
              have KS := Lib.hid (HU.out.keep KK)
              have KA := Lib.hid (NodeW.keep HNA.out KK)
              have KB := Lib.hid (NodeW.keep HNB.out KK)
              have LA := Lib.hid (NodeW.keep HMA.out KK)
              have LB := Lib.hid (NodeW.keep HMB.out KK)
              have hsz2 := hbw.size
              have TA := HTA.out.keep KK; have TB := HTB.out.keep KK
              have HKC := Lib.hid (fun (w1 : World) (hk : KeepT 72 (wr.drewN nq) w1) => (⟨(World.cell?_of_block (w := wr.drewN nq) (a := ⟨B1, o1, none⟩) (hk.block B1 TA)).trans ka1, (World.cell?_of_block (w := wr.drewN nq) (a := ⟨B1, o1 + 1, none⟩) (hk.block B1 TA)).trans ka2, (World.cell?_of_block (w := wr.drewN nq) (a := ⟨B2, o2, none⟩) (hk.block B2 TB)).trans kb1, (World.cell?_of_block (w := wr.drewN nq) (a := ⟨B2, o2 + 1, none⟩) (hk.block B2 TB)).trans kb2⟩ : w1.cell? ⟨B1, o1, none⟩ = some (.pointer XA) ∧ w1.cell? ⟨B1, o1 + 1, none⟩ = some (.pointer XB) ∧ w1.cell? ⟨B2, o2, none⟩ = some (.pointer YA) ∧ w1.cell? ⟨B2, o2 + 1, none⟩ = some (.pointer YB)))
              clear O2 HB HP HQ cell1 cell2 ga1 ga2 gb1 gb2 HU HNA HNB HMA HMB KK hother heq hg TA TB HTA HTB
              generalize wr.drewN nq = W at *
              go_region_held3 (fun w' => w'.cell? ⟨B1, o1, none⟩ = some (.pointer XA) ∧ w'.cell? ⟨B1, o1 + 1, none⟩ = some (.pointer XB) ∧ w'.cell? ⟨B2, o2, none⟩ = some (.pointer YA) ∧ w'.cell? ⟨B2, o2 + 1, none⟩ = some (.pointer YB)) (first | exact ⟨ka1, ka2, kb1, kb2⟩ | go_keep | trivial)
                (first
                  | (refine step_append_lies _ (by rfl) _ _ _ (by rfl) w.heap.size 33 i0 (.pointer none) 1 8 Tryz.underlying93 hi hz0 hz1 hz2 rfl (by omega) _ _ _ (by rfl) (OWN.out.drew.alloc _) ⟨W.heap.size, 0, none⟩ 4 4 [.pointer XA, .pointer YA, .pointer XB, .pointer YB] (by rfl) (by rfl) (World.news_of_block (cs := #[.pointer XA, .pointer YA, .pointer XB, .pointer YB]) (t := 33) (fr := (0, 0)) (heap_alloc_new W.drew _)) (by simp [Value.oneCell']) (by omega) (by unfold maxLen; omega) (by omega) (by simp; omega) (W.heap.size + 1) (by simp) ?_; intro gg cap1 w1 hown' hgrow hat hlt1; have hk1 := ((KeepT.drewN 72 W 1).trans (KeepT.alloc 72 _ _)).trans (app_keep (OWN.out.drew.alloc _) hgrow (by decide)); obtain ⟨ka1, ka2, kb1, kb2⟩ := HKC.out _ hk1))
              have hb1 := app_below hbw.drew hsz2 OWN.out.drew hgrow
              have HS1 : Hid (Stk (CellsAt 72 w1) (dup2 ((d, b) :: (c, a) :: ts)) (.pointer YB :: .pointer XB :: .pointer YA :: .pointer XA :: u)) := Lib.hid ⟨NodeW.keep LB.out hk1, NodeW.keep KB.out hk1, NodeW.keep LA.out hk1, NodeW.keep KA.out hk1, KS.out.keep hk1⟩
              have HO : Hid (w1.ownsRow w.heap.size 33 1 (.slice (some ⟨gg, 0, none⟩) (n + 4) cap1) (Value.pointer YB :: .pointer XB :: .pointer YA :: .pointer XA :: u).length (Value.pointer YB :: .pointer XB :: .pointer YA :: .pointer XA :: u).reverse) := Lib.hid (by
                rw [show (Value.pointer YB :: Value.pointer XB :: Value.pointer YA :: Value.pointer XA :: u).reverse = u.reverse ++ [.pointer XA, .pointer YA, .pointer XB, .pointer YB] by simp]
                rw [show (Value.pointer YB :: Value.pointer XB :: Value.pointer YA :: Value.pointer XA :: u).length = n + 4 by simp only [List.length_cons, HUN.out]]
                exact hown')
              have hb1' := Lib.hid hb1
              clear hown' hgrow OWN hbw hk1 KS KA KB LA LB HKC ka1 ka2 kb1 kb2 hat hlt1
              go_wp2_with fail
              go_roundg (tot2 ((d, b) :: (c, a) :: ts))
              case measure => rw [tot2_cons, tot2_cons]; dsimp only; omega
              case rel => exact ⟨(d, b) :: (c, a) :: ts, _, Nat.le_refl _, by rw [tot2_cons, tot2_cons]; dsimp only; omega, HI2, HS1, HO, hb1'⟩
            · have hno : ¬ (t0 = s0) := by
                rw [HI.out]; intro h
                have this : Tr.pair a b = Tr.pair c d := h (.pair a b, .pair c d) (by simp)
                exact hsz (by rw [this])
              have HNO := Lib.hid hno
              have hd : (((tx (.pair a b)).length : Nat) : Int) ≠ (((tx (.pair c d)).length : Nat) : Int) := by omega
              clear hpl hpl2 HPS hsz hk htl hno
              generalize (tx (.pair a b)).length = L1 at HZ1 hd
              generalize (tx (.pair c d)).length = L2 at HZ2 hd
              have e1 : ((L1 : Int) != (L2 : Int)) = true := by rw [bne_iff_ne]; exact hd
              clear hd
              go_wp2_with fail
              go_quiet (fail)
              go_wp2_with fail
              refine (HZ1.out _ _ (NodeW.keep (τ := 72) HP.out (KeepT.drewN _ _ _))).mono ?_
              rintro e w' ⟨rfl, rfl⟩
              go_wp2_with fail
              refine (HZ2.out _ _ (NodeW.keep (τ := 72) HQ.out (KeepT.drewN _ _ _))).mono ?_
              rintro e w' ⟨rfl, rfl⟩
              go_wp2_with fail
              go_ret
              exact ⟨false, rfl, by simp [HNO.out], bdrewN HB.out _⟩
end Go.Proofs.YtkpfocgcnehajabGreatDoor
