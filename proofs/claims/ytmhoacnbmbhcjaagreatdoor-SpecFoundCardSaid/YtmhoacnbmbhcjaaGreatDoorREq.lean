/- The reference's Equal, of two trees that are the same. By an AI agent. -/
import Derived.Test.YtmhoacnbmbhcjaaGreatDoorUnv
import Derived.Test.YtmhoacnbmbhcjaaGreatDoorRunA
import Derived.Deep.LoopGhost
import Derived.LaidEqlPtr
import Derived.StillTailTactics
import Derived.Deep.RegionHeld3
import Derived.Deep.AppendLies
namespace Go.Proofs.YtmhoacnbmbhcjaaGreatDoor
open Go.RowKit Pl

/-- each tree twice -/
def dup : List Tr → List Tr | [] => [] | t :: ts => t :: t :: dup ts
theorem dup_len : ∀ ts : List Tr, (dup ts).length = 2 * ts.length
  | [] => rfl
  | t :: ts => by simp only [dup, List.length_cons, dup_len ts]; omega
theorem totT_cons (t : Tr) (ts : List Tr) : totT (t :: ts) = (tx t).length + totT ts := by simp [totT]
theorem totT_len : ∀ ts : List Tr, ts.length ≤ totT ts
  | [] => Nat.le_refl _
  | t :: ts => by rw [totT_cons, List.length_cons]; have := totT_len ts; have := tx_pos t; omega
theorem Tryz.infoRN : (Tryz.prog.info? 42).map (fun i => i.size) = some 3 := by kernel_rfl
theorem info_size {P : Program} {τ : TypeId} {n : Nat} (h : (P.info? τ).map (fun i => i.size) = some n) : ∃ j, P.info? τ = some j ∧ j.size = n := by
  cases e : P.info? τ with
  | none => rw [e] at h; cases h
  | some j => rw [e] at h; exact ⟨j, rfl, Option.some.inj h⟩
set_option maxHeartbeats 3200000 in
set_option maxRecDepth 100000 in
theorem rEqual_same (w : World) (t0 : Tr) (x y : Value) (hx : NodeW 42 w t0 x) (hy : NodeW 42 w t0 y) (ht : (tx t0).length ≤ 2000000) :
    Calls Tryz.prog 40 #[x, y] w fun e w' => e = .returned (.bool true) ∧ Below w.heap.size w w' := by
  obtain ⟨jN, infoNodeR, jsz⟩ := info_size Tryz.infoRN
  obtain ⟨X, rfl⟩ := hx.one
  obtain ⟨Y, rfl⟩ := hy.one
  obtain ⟨i0, hi, hz0, hz1, hz2⟩ := info_parts Tryz.infoRNode
  have hal : Below w.heap.size w (w.alloc (.cells #[.pointer X, .pointer Y] 36)) := (Below.refl _ _).alloc (Nat.le_refl _) _
  have HS0 : Hid (Stk (CellsAt 42 (w.alloc (.cells #[.pointer X, .pointer Y] 36))) (dup [t0]) [.pointer Y, .pointer X]) := Lib.hid ⟨hy.below hal, hx.below hal, trivial⟩
  have HO0 := Lib.hid (World.ownsRow_lit (e := 36) (size := 1) (base := w.heap.size) w #[.pointer X, .pointer Y] 2 (Nat.le_refl _) (by unfold maxLen; omega) rfl)
  have HB0 := Lib.hid hal
  clear hx hy hal
  go_enter Tryz.func40, Tryz.ntmps40
  go_wp2
  go_loopg [5] 2000000 (fun k v wr => ∃ (ts : List Tr) (vs : List Value), totT ts ≤ k ∧ k ≤ 2000000 ∧ Hid (Stk (CellsAt 42 wr) (dup ts) vs) ∧ Hid (wr.ownsRow w.heap.size 36 1 v vs.length vs.reverse) ∧ Hid (Below w.heap.size w wr))
  case atStart => exact ⟨[t0], [.pointer Y, .pointer X], by simpa [totT] using ht, Nat.le_refl _, HS0, HO0, HB0⟩
  case round =>
    obtain ⟨ts, vs, hk, hk2, HS, HO, HB⟩ := hrel
    have hl := HS.out.len
    rw [dup_len] at hl
    have htl := totT_len ts
    cases ts with
    | nil =>
      obtain rfl : vs = [] := List.eq_nil_of_length_eq_zero (by simpa using hl)
      rcases HO.out.2 with ⟨rfl, _⟩ | ⟨g, cap, cur, rfl, _⟩
      all_goals
        clear HO
        go_wp2
        go_ret
        exact ⟨rfl, HB.out⟩
    | cons t ts =>
      obtain ⟨p, q, u, rfl, hp, hq, hu⟩ := HS.out.two
      rw [totT_cons] at hk htl
      rw [List.length_cons] at hl htl
      obtain ⟨g, cap, rfl, _, hcap, hg0, hg, cell1, own1⟩ := own_top HO.out (rev_two p q u)
      obtain ⟨g2, cap2, hg2, _, hcap2, _, _, cell2, own2⟩ := own_top own1 rfl
      injection hg2 with e1 e2 e3
      injection e1 with e1
      injection e1 with e1 _ _
      subst e1; subst e3
      obtain ⟨P, rfl⟩ := hp.one
      obtain ⟨Q, rfl⟩ := hq.one
      have HU := Lib.hid hu; have HP := Lib.hid hp; have HQ := Lib.hid hq; have O2 := Lib.hid own2
      have hul : (u.reverse ++ [Value.pointer Q]).length = u.length + 1 := by simp
      rw [hul] at cell1 hcap ⊢
      rw [List.length_reverse] at cell2
      have hus : u.length ≤ 4000000 := by simp only [List.length_cons] at hl; omega
      have hz1' : (0 : Int) ≤ (u.length : Int) := by omega
      clear own1 own2 hul HS HO hp hq hu hl hcap2
      have hcap' : (u.length : Int) + 1 + 1 ≤ (cap : Int) := by omega
      generalize hun : u.length = n at *
      have HUN := Lib.hid hun
      clear hun
      have hn2 : n + 1 + 1 - 2 = n := by omega
      have hi2 : (n : Int) + 1 + 1 - 2 = (n : Int) := by omega
      cases t with
      | nil =>
        obtain rfl : P = none := by have h := HP.out; exact Value.pointer.inj h
        obtain rfl : Q = none := by have h := HQ.out; exact Value.pointer.inj h
        clear HP HQ
        go_wp2_with fail
        go_quiet (fail)
        go_wp2
        go_roundg (totT ts)
        case measure => have := tx_pos .nil; omega
        case rel => exact ⟨ts, u, Nat.le_refl _, by omega, Lib.hid (HU.out.keep (KeepT.drewN _ _ _)), Lib.hid (by have h := own_below O2.out (bdrewN (Below.refl wr.heap.size wr) nq); rw [List.length_reverse, HUN.out] at h; rw [HUN.out]; exact h), Lib.hid (bdrewN HB.out _)⟩
      | pair a b =>
        obtain ⟨B1, o1, xa, xb, hp1, ha1, ha2, ⟨hta, ha3⟩, hna, hnb⟩ := HP.out
        obtain ⟨B2, o2, ya, yb, hq1, hb1, hb2, ⟨htb, hb3⟩, hma, hmb⟩ := HQ.out
        obtain rfl := Value.pointer.inj hp1
        obtain rfl := Value.pointer.inj hq1
        obtain ⟨XA, rfl⟩ := hna.one; obtain ⟨XB, rfl⟩ := hnb.one; obtain ⟨YA, rfl⟩ := hma.one; obtain ⟨YB, rfl⟩ := hmb.one
        have hpl := tx_pair a b
        have HNA := Lib.hid hna; have HNB := Lib.hid hnb; have HMA := Lib.hid hma; have HMB := Lib.hid hmb
        have ga1 := ha1.2; have ga2 := ha2.2; have gb1 := hb1.2; have gb2 := hb2.2
        clear hp1 hq1 ha1 ha2 ha3 hb1 hb2 hb3 hna hnb hma hmb
        by_cases e : (⟨B1, o1, none⟩ : Addr) = ⟨B2, o2, none⟩
        · injection e with q1 q2 _
          subst q1; subst q2
          have hsame : ∀ W : World, (binOp .eql 36 (.pointer (some ⟨B1, o1, none⟩)) (.pointer (some ⟨B1, o1, none⟩))).run Tryz.prog W = .ok (.bool true) W := fun W => run_eql_ptr_same W _ Tryz.underlying36 infoNodeR
          clear HP HQ ga1 ga2 gb1 gb2 hpl
          go_wp2_with fail
          go_quiet (fail)
          go_wp2
          go_roundg (totT ts)
          case measure => have := tx_pos (.pair a b); omega
          case rel => exact ⟨ts, u, Nat.le_refl _, by omega, Lib.hid (HU.out.keep (KeepT.drewN _ _ _)), Lib.hid (by have h := own_below O2.out (bdrewN (Below.refl wr.heap.size wr) nq); rw [List.length_reverse, HUN.out] at h; rw [HUN.out]; exact h), Lib.hid (bdrewN HB.out _)⟩
        · have heq : ((⟨B1, o1, none⟩ : Addr) == ⟨B2, o2, none⟩) = false := beq_eq_false_iff_ne.2 e
          have HTA := Lib.hid hta; have HTB := Lib.hid htb
          obtain ⟨CA, _, gA⟩ := hta
          obtain ⟨CB, _, gB⟩ := htb
          have hother : ∀ q : Nat, (binOp .eql 36 (.pointer (some ⟨B1, o1, none⟩)) (.pointer (some ⟨B2, o2, none⟩))).run Tryz.prog (wr.drewN q) = .ok (.bool false) (wr.drewN q) := fun q => run_eql_ptr_other (wr.drewN q) Tryz.underlying36 infoNodeR (by rw [jsz]; decide) e gA gB
          clear e gA gB
          go_wp2_with fail
          go_quiet (fail)
          go_wp2_with fail
          refine (rSize_any _ _ (.pair a b) _ (NodeW.keep (τ := 42) HP.out (KeepT.drewN _ _ _))).mono ?_
          rintro e w' ⟨rfl, rfl⟩
          go_wp2_with fail
          refine (rSize_any _ _ (.pair a b) _ (NodeW.keep (τ := 42) HQ.out (KeepT.drewN _ _ _))).mono ?_
          rintro e w' ⟨rfl, rfl⟩
          go_wp2_with fail
          have OWN : Hid ((wr.drewN nq).ownsRow w.heap.size 36 1 (.slice (some ⟨g, 0, none⟩) n cap) n u.reverse) := Lib.hid (by have h := own_below O2.out (bdrewN (Below.refl wr.heap.size wr) nq); rw [List.length_reverse, HUN.out] at h; exact h)
          have hbw : Below w.heap.size w (wr.drewN nq) := bdrewN HB.out nq
          have ka1 : (wr.drewN nq).cell? ⟨B1, o1, none⟩ = some (.pointer XA) := ga1
          have ka2 : (wr.drewN nq).cell? ⟨B1, o1 + 1, none⟩ = some (.pointer XB) := ga2
          have kb1 : (wr.drewN nq).cell? ⟨B2, o2, none⟩ = some (.pointer YA) := gb1
          have kb2 : (wr.drewN nq).cell? ⟨B2, o2 + 1, none⟩ = some (.pointer YB) := gb2
          have KK := KeepT.drewN 42 wr nq
          have KS := Lib.hid (HU.out.keep KK)
          have KA := Lib.hid (NodeW.keep HNA.out KK)
          have KB := Lib.hid (NodeW.keep HNB.out KK)
          have LA := Lib.hid (NodeW.keep HMA.out KK)
          have LB := Lib.hid (NodeW.keep HMB.out KK)
          have hsz2 := hbw.size
          have TA := HTA.out.keep KK; have TB := HTB.out.keep KK
          have HKC := Lib.hid (fun (w1 : World) (hk : KeepT 42 (wr.drewN nq) w1) => (⟨(World.cell?_of_block (w := wr.drewN nq) (a := ⟨B1, o1, none⟩) (hk.block B1 TA)).trans ka1, (World.cell?_of_block (w := wr.drewN nq) (a := ⟨B1, o1 + 1, none⟩) (hk.block B1 TA)).trans ka2, (World.cell?_of_block (w := wr.drewN nq) (a := ⟨B2, o2, none⟩) (hk.block B2 TB)).trans kb1, (World.cell?_of_block (w := wr.drewN nq) (a := ⟨B2, o2 + 1, none⟩) (hk.block B2 TB)).trans kb2⟩ : w1.cell? ⟨B1, o1, none⟩ = some (.pointer XA) ∧ w1.cell? ⟨B1, o1 + 1, none⟩ = some (.pointer XB) ∧ w1.cell? ⟨B2, o2, none⟩ = some (.pointer YA) ∧ w1.cell? ⟨B2, o2 + 1, none⟩ = some (.pointer YB)))
          clear O2 HB HP HQ cell1 cell2 ga1 ga2 gb1 gb2 HU HNA HNB HMA HMB KK hother heq hg TA TB HTA HTB
          generalize wr.drewN nq = W at *
          go_region_held3 (fun w' => w'.cell? ⟨B1, o1, none⟩ = some (.pointer XA) ∧ w'.cell? ⟨B1, o1 + 1, none⟩ = some (.pointer XB) ∧ w'.cell? ⟨B2, o2, none⟩ = some (.pointer YA) ∧ w'.cell? ⟨B2, o2 + 1, none⟩ = some (.pointer YB)) (first | exact ⟨ka1, ka2, kb1, kb2⟩ | go_keep | trivial)
            (first
              | (refine step_append_lies _ (by rfl) _ _ _ (by rfl) w.heap.size 36 i0 (.pointer none) 1 8 Tryz.underlying91 hi hz0 hz1 hz2 rfl (by omega) _ _ _ (by rfl) (OWN.out.drew.alloc _) ⟨W.heap.size, 0, none⟩ 4 4 [.pointer XA, .pointer YA, .pointer XB, .pointer YB] (by rfl) (by rfl) (World.news_of_block (cs := #[.pointer XA, .pointer YA, .pointer XB, .pointer YB]) (t := 36) (fr := (0, 0)) (heap_alloc_new W.drew _)) (by simp [Value.oneCell']) (by omega) (by unfold maxLen; omega) (by omega) (by simp; omega) (W.heap.size + 1) (by simp) ?_; intro gg cap1 w1 hown' hgrow hat hlt1; have hk1 := ((KeepT.drewN 42 W 1).trans (KeepT.alloc 42 _ _)).trans (app_keep (OWN.out.drew.alloc _) hgrow (by decide)); obtain ⟨ka1, ka2, kb1, kb2⟩ := HKC.out _ hk1))
          have hb1 := app_below hbw.drew hsz2 OWN.out.drew hgrow
          have HS1 : Hid (Stk (CellsAt 42 w1) (dup (b :: a :: ts)) (.pointer YB :: .pointer XB :: .pointer YA :: .pointer XA :: u)) := Lib.hid ⟨NodeW.keep LB.out hk1, NodeW.keep KB.out hk1, NodeW.keep LA.out hk1, NodeW.keep KA.out hk1, KS.out.keep hk1⟩
          have HO : Hid (w1.ownsRow w.heap.size 36 1 (.slice (some ⟨gg, 0, none⟩) (n + 4) cap1) (Value.pointer YB :: .pointer XB :: .pointer YA :: .pointer XA :: u).length (Value.pointer YB :: .pointer XB :: .pointer YA :: .pointer XA :: u).reverse) := Lib.hid (by
            rw [show (Value.pointer YB :: Value.pointer XB :: Value.pointer YA :: Value.pointer XA :: u).reverse = u.reverse ++ [.pointer XA, .pointer YA, .pointer XB, .pointer YB] by simp]
            rw [show (Value.pointer YB :: Value.pointer XB :: Value.pointer YA :: Value.pointer XA :: u).length = n + 4 by simp only [List.length_cons, HUN.out]]
            exact hown')
          have hb1' := Lib.hid hb1
          clear hown' hgrow OWN hbw hk1 KS KA KB LA LB HKC ka1 ka2 kb1 kb2 hat hlt1
          go_wp2_with fail
          go_roundg (totT (b :: a :: ts))
          case measure => rw [totT_cons, totT_cons]; omega
          case rel => exact ⟨b :: a :: ts, _, Nat.le_refl _, by rw [totT_cons, totT_cons]; omega, HS1, HO, hb1'⟩
end Go.Proofs.YtmhoacnbmbhcjaaGreatDoor
