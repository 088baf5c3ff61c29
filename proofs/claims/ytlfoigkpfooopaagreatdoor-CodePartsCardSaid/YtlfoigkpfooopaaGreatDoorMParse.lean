/- The method parse: one instruction out of its string. By an AI agent. -/
import Derived.Test.YtlfoigkpfooopaaGreatDoorIndexSplit
namespace Go.Proofs.YtlfoigkpfooopaaGreatDoor
open Go.RowKit Pl

def parW (k : Nat) (ws : List (List UInt8)) : Option Ins := if ws.length = (fldsOf k).length then foldF Fld.par (fldsOf k) ws (ins0 k) else none
/-- the instruction with a string -/
def parM (s : List UInt8) : Option Ins :=
  if nmIx (Lib.cut s [32]).1 < 6 then parW (nmIx (Lib.cut s [32]).1) (Lib.splitN (Lib.cut s [32]).2.1 [32] ((fldsOf (nmIx (Lib.cut s [32]).1)).length + 1)) else none
theorem cut_le (s sep : List UInt8) : (Lib.cut s sep).1.length ≤ s.length ∧ (Lib.cut s sep).2.1.length ≤ s.length := by
  rcases cut_cases s sep with h | ⟨a, b, h, e⟩
  · rw [h]; simp
  · rw [h, e]; simp; omega
theorem split_le (s sep : List UInt8) (n : Nat) : ∀ w ∈ Lib.splitN s sep n, w.length ≤ s.length := by
  intro w hw
  have h := join_splitN s sep n
  have key : ∀ (ws : List (List UInt8)), w ∈ ws → w.length ≤ (Lib.join ws sep).length := by
    intro ws
    induction ws with
    | nil => intro h; cases h
    | cons x ws ih =>
      intro hm
      cases ws with
      | nil => rw [Lib.join_one]; simp at hm; rw [hm]; exact Nat.le_refl _
      | cons y r =>
        rw [join_two]
        simp only [List.length_append]
        rcases List.mem_cons.1 hm with rfl | hm
        · omega
        · have := ih hm; omega
  rw [← h]; exact key _ hw

set_option maxHeartbeats 6400000 in
set_option maxRecDepth 100000 in
theorem mparse (t : Nat) (s : List UInt8) (w : World) (hT : TabGood w t) (hs : s.length ≤ 4000000) (hE : Env w) :
    Calls Tryz.prog 46 #[.pointer (some ⟨t, 0, none⟩), .string (S s)] w (MPost w (parM s)) := by
  have HT := Lib.hid hT; have HE := Lib.hid hE
  have htl := hT.1
  have HC := Lib.hid (fun W hW => Cut_l s [32] W hs hW)
  have hcl := cut_le s [32]
  have HPM : Hid (parM s = if nmIx (Lib.cut s [32]).1 < 6 then parW (nmIx (Lib.cut s [32]).1) (Lib.splitN (Lib.cut s [32]).2.1 [32] ((fldsOf (nmIx (Lib.cut s [32]).1)).length + 1)) else none) := Lib.hid rfl
  have HPR : Hid (∃ r, r = parM s) := Lib.hid ⟨_, rfl⟩
  clear hT hE
  obtain ⟨nm, rest, fd, hcut⟩ : ∃ a b c, Lib.cut s [32] = (a, b, c) := ⟨_, _, _, rfl⟩
  rw [hcut] at HC HPM hcl
  have hrl : rest.length ≤ 4000000 := by have := hcl.2; simp only at this; omega
  clear hcut hcl HPR
  go_enter Tryz.func46, Tryz.ntmps46
  go_wp2_with fail
  refine (HC.out _ (HE.out.below ((Below.refl _ _).alloc (Nat.le_refl _) _))).mono ?_
  rintro e w1 ⟨rfl, h1⟩
  have r1 := Lib.hid ((boxIn w insZ 46).below h1)
  have hb1 : Below w.heap.size w w1 := ((Below.refl _ _).alloc (Nat.le_refl _) _).trans (h1.mono (by simp))
  have hs1 := hb1.size
  clear h1
  go_wp2_with fail
  have hB1 : Below w.heap.size w (w1.alloc (.cells #[.string (S nm)] 9)) := hb1.alloc hs1 _
  have cB := CellsAt.new w1 [.string (S nm)] 9
  refine (indexName t w1.heap.size nm _ (HT.out.below hB1) cB.1 (cB.2 0 _ rfl)).mono ?_
  rintro e w2 ⟨rfl, h2⟩
  have hx2 : Below w1.heap.size w1 w2 := ((Below.refl _ _).alloc (Nat.le_refl _) _).trans (h2.mono (by simp))
  have r2 := Lib.hid (r1.out.below hx2)
  have hb2 := hb1.trans (hx2.mono hs1)
  clear cB h2 hx2 hB1
  by_cases h6 : nmIx nm < 6
  · obtain ⟨k, hk⟩ : ∃ k, nmIx nm = k := ⟨_, rfl⟩
    have hn1 : nmInt nm = (k : Int) := by unfold nmInt; rw [if_pos h6, hk]
    have hd1 : Hid (parM s = parW k (Lib.splitN rest [32] ((fldsOf k).length + 1))) := Lib.hid (by rw [HPM.out, if_pos h6, hk])
    rw [hk] at h6
    rw [hn1]
    have hk6 : k < 6 := h6
    have hk7 : (k : Int) < 6 := by omega
    obtain ⟨bs, _, q1, hF⟩ := HT.out.2 k hk6
    have q1 := (hb2.cell (p := ⟨t, k * 2 + 1, none⟩) htl).trans q1
    have HF := Lib.hid hF
    have hn3 := flds_len k
    have hn1' := flds_pos k
    generalize hN : (fldsOf k).length = n at *
    have HN := Lib.hid hN
    have hs2 := hb2.size
    clear hk hF hN hn1 h6 HPM
    go_wp2_with fail
    have HSP := Lib.hid (fun W hW => SplitN_l rest [32] (n + 1) W hrl (by simp) (by omega) (by omega) hW)
    refine (HSP.out _ (HE.out.below hb2)).mono ?_
    obtain ⟨ts, hts⟩ : ∃ ts, ts = Lib.splitN rest [32] (n + 1) := ⟨_, rfl⟩
    have hd2 : Hid (parM s = parW k ts) := Lib.hid (by rw [hts]; exact hd1.out)
    have HTV : Hid (∀ x ∈ ts, x.length ≤ 281474976710656) := Lib.hid (by rw [hts]; intro x hx; have := split_le rest [32] (n + 1) x hx; omega)
    have htp : 1 ≤ ts.length := by rw [hts]; exact splitK_pos _ _ _
    have htm : ts.length ≤ 4000002 := by rw [hts]; have := splitK_len [32] (min (n + 1) (rest.length + 1) - 1) rest; unfold Lib.splitN; omega
    rw [← hts]
    rintro e w3 ⟨v3, rfl, hown, h3⟩
    have r3 := Lib.hid (r2.out.below h3)
    have hb3 := hb2.trans (h3.mono hs2)
    have E3 := Lib.hid (HE.out.below hb3)
    have hs3 := hb3.size
    obtain ⟨g2, cap2, rfl, hcap2, hg02, hgg⟩ := own_cap hown (by omega)
    clear hts h3
    by_cases hlen : ts.length = n
    · have HZ : Hid (parM s = foldF Fld.par (fldsOf k) ts (ins0 k)) := Lib.hid (by rw [hd2.out, parW, HN.out, if_pos hlen])
      have HTL := Lib.hid hlen
      have HC2 : Hid (∀ j, j < n → w3.cell? ⟨g2, j, none⟩ = some (.string (S (ts.getD j [])))) := Lib.hid (fun j hj => by
        rw [hown.cellAt j (by omega)]
        simp [strsV, List.getD, List.getElem?_eq_getElem (show j < ts.length by omega)])
      rw [hlen]
      clear hown hlen htp htm
      go_wp2
      have hin0 : InAt (w3.alloc (.cells #[.int .i64 k, .int .i64 0, .int .i64 0, .int .i64 0, .string ⟨#[]⟩] 46)) w3.heap.size (ins0 k) := boxIn w3 (ins0 k) 46
      go_loopw [50] (fun i wr => ∃ (j : Nat) (x : Ins), j ≤ n ∧ i = .int .i64 j ∧ InAt wr w3.heap.size x ∧ Below w3.heap.size w3 wr ∧ Hid (foldF Fld.par (fldsOf k) ts (ins0 k) = foldF Fld.par ((fldsOf k).drop j) (ts.drop j) x)) (fun i _ => n - (intOf i).toNat)
      case atStart => exact ⟨0, ins0 k, Nat.zero_le _, rfl, hin0, (Below.refl _ _).alloc (Nat.le_refl _) _, Lib.hid rfl⟩
      case round =>
        obtain ⟨j, x, hj, rfl, hin, hb, hfo⟩ := hrel
        have hsz := hb.size
        have r4 := Lib.hid (r3.out.below hb)
        have hb4 := hb3.trans (hb.mono hs3)
        have E4 := Lib.hid (E3.out.below hb)
        have hsz4 := hb4.size
        have hl4 := hin.lt
        by_cases hlt : j < n
        · obtain ⟨f, hfj⟩ : ∃ f, (fldsOf k)[j]? = some f := ⟨(fldsOf k)[j]'(by have := HN.out; omega), List.getElem?_eq_getElem _⟩
          obtain ⟨gt, gp, gc, gd, lb, hfit, d0, d1, d2, d3⟩ := HF.out.2 j f hfj
          have hbl := HF.out.1
          have k0 := (hb4.cell (p := ⟨bs, j * 4, none⟩) hbl).trans d0
          have k1 := (hb4.cell (p := ⟨bs, j * 4 + 1, none⟩) hbl).trans d1
          have k2 := (hb4.cell (p := ⟨bs, j * 4 + 2, none⟩) hbl).trans d2
          have k3 := (hb4.cell (p := ⟨bs, j * 4 + 3, none⟩) hbl).trans d3
          clear d0 d1 d2 d3
          obtain ⟨gt', gp', gc', gd', lb', e, hT', hP', hC', hD'⟩ := hfit
          cases e
          have eg := hP'.1
          have hjt : j < ts.length := by have := HTL.out; omega
          have htv : (ts.getD j []).length ≤ 281474976710656 := HTV.out _ (by rw [List.getD_eq_getElem?_getD, List.getElem?_eq_getElem hjt]; exact List.getElem_mem hjt)
          have hws := (hb.cell (p := ⟨g2, j, none⟩) hgg).trans (HC2.out j hlt)
          have hggr : g2 < wr.heap.size := Nat.lt_of_lt_of_le hgg hsz
          have hstep : Hid (foldF Fld.par (fldsOf k) ts (ins0 k) = (f.par (ts.getD j []) x).bind fun y => foldF Fld.par ((fldsOf k).drop (j + 1)) (ts.drop (j + 1)) y) := Lib.hid (by
            obtain ⟨hjl, hje⟩ := List.getElem?_eq_some_iff.1 hfj
            rw [hfo.out, List.drop_eq_getElem_cons hjl, List.drop_eq_getElem_cons hjt, foldF, hje, List.getD_eq_getElem?_getD, List.getElem?_eq_getElem hjt]; rfl)
          have HD : Hid (∀ W, Below wr.heap.size wr W → Calls Tryz.prog gp (#[.pointer (some ⟨w3.heap.size, 0, none⟩), .string (S (ts.getD j []))] ++ lb) W (FPost w3.heap.size W (f.par (ts.getD j []) x))) := Lib.hid (fun W hW => hP'.2 W w3.heap.size x (ts.getD j []) (hb4.trans (hW.mono (by omega))) (hin.below hW) htv (E4.out.below hW))
          have HIN := Lib.hid hin; have HB := Lib.hid hb
          generalize ts.getD j [] = tj at *
          clear hfj hT' hP' hC' hD' hfo hin hb htv
          have hj1 : (j : Int) < (n : Int) := by omega
          go_wp2_with fail
          cases hr : f.par tj x with
          | some y =>
            have HD2 : Hid (∀ W, Below wr.heap.size wr W → Calls Tryz.prog gp (#[.pointer (some ⟨w3.heap.size, 0, none⟩), .string (S tj)] ++ lb) W fun e w' => e = .returned (.bool true) ∧ InAt w' w3.heap.size y ∧ Apart w3.heap.size W w') := Lib.hid (fun W hW => by have h := HD.out W hW; rw [hr] at h; exact h)
            have HS : Hid (foldF Fld.par (fldsOf k) ts (ins0 k) = foldF Fld.par ((fldsOf k).drop (j + 1)) (ts.drop (j + 1)) y) := Lib.hid (by rw [hstep.out, hr]; rfl)
            clear HD hstep hr
            go_region_with (refine (HD2.out _ ?_).mono ?_; exact ((Below.refl _ _).alloc (Nat.le_refl _) _).drew; rintro e w5 ⟨rfl, i5, a5⟩)
            all_goals
              have hb5 := Lib.hid (((HB.out.alloc hsz (.cells #[.func (.func gt) #[] lb, .func (.func gp) #[] lb, .func (.func gc) #[] lb, .func (.func gd) #[] lb] 71)).drew).trans (a5.below (B := w3.heap.size) (Nat.le_refl _) (by simp; omega)))
              have I5 := Lib.hid i5
              clear a5 i5
              go_wp2
              go_roundw
              case rel => exact ⟨j + 1, y, by omega, by go_num, I5.out, hb5.out, HS⟩
              case measure => simp [intOf]; omega
          | none =>
            have HD2 : Hid (∀ W, Below wr.heap.size wr W → Calls Tryz.prog gp (#[.pointer (some ⟨w3.heap.size, 0, none⟩), .string (S tj)] ++ lb) W fun e w' => e = .returned (.bool false) ∧ Apart w3.heap.size W w') := Lib.hid (fun W hW => by have h := HD.out W hW; rw [hr] at h; exact h)
            have HS : Hid (parM s = none) := Lib.hid (by rw [HZ.out, hstep.out, hr]; rfl)
            clear HD hstep hr
            go_region_with (refine (HD2.out _ ?_).mono ?_; exact ((Below.refl _ _).alloc (Nat.le_refl _) _).drew; rintro e w5 ⟨rfl, a5⟩)
            all_goals
              have hb5 := ((HB.out.alloc hsz (.cells #[.func (.func gt) #[] lb, .func (.func gp) #[] lb, .func (.func gc) #[] lb, .func (.func gd) #[] lb] 71)).drew).trans (a5.below (B := w3.heap.size) (Nat.le_refl _) (by simp; omega))
              have r6 := r3.out.below hb5
              have hb6 := hb3.trans (hb5.mono hs3)
              clear a5 hb5
              have c0 := r6.c0; have c1 := r6.c1; have c2 := r6.c2; have c3 := r6.c3; have c4 := r6.c4
              have f0 := r6.fz 0; have f1 := r6.fz 1; have f2 := r6.fz 2; have f3 := r6.fz 3; have f4 := r6.fz 4
              simp only [insZ] at c0 c1 c2 c3 c4
              go_wp2
              have r5 := r6.put5 insZ
              have b5 := below5 (b := w.heap.size) (.int .i64 0) (.int .i64 0) (.int .i64 0) (.int .i64 0) (.string ⟨#[]⟩) hb6 (Nat.le_refl _)
              have d0 := r5.c0; have d1 := r5.c1; have d2 := r5.c2; have d3 := r5.c3; have d4 := r5.c4
              simp only [insZ] at d0 d1 d2 d3 d4
              refine bodyPost_ret (v := .tuple #[.agg #[.int .i64 0, .int .i64 0, .int .i64 0, .int .i64 0, .string ⟨#[]⟩], .bool false]) (by simp [results, Tryz.results46, go_sem, d0, d1, d2, d3, d4]) rfl ?_
              rw [HS.out]
              exact ⟨rfl, b5⟩
        · obtain rfl : j = n := by omega
          have HS : Hid (parM s = some x) := Lib.hid (by rw [HZ.out, hfo.out, List.drop_eq_nil_of_le (by have := HN.out; omega)]; rfl)
          have r4 := r4.out
          have a0 := hin.c0; have a1 := hin.c1; have a2 := hin.c2; have a3 := hin.c3; have a4 := hin.c4
          have c0 := r4.c0; have c1 := r4.c1; have c2 := r4.c2; have c3 := r4.c3; have c4 := r4.c4
          have f0 := r4.fz 0; have f1 := r4.fz 1; have f2 := r4.fz 2; have f3 := r4.fz 3; have f4 := r4.fz 4
          simp only [insZ] at c0 c1 c2 c3 c4
          have hne : w.heap.size ≠ w3.heap.size := by have := r3.out.lt; omega
          go_wp2
          have r5 := r4.put5 x
          have b5 := below5 (b := w.heap.size) (.int .i64 x.op) (.int .i64 x.a) (.int .i64 x.b) (.int .i64 x.c) (.string (S x.tree)) hb4 (Nat.le_refl _)
          have d0 := r5.c0; have d1 := r5.c1; have d2 := r5.c2; have d3 := r5.c3; have d4 := r5.c4
          refine bodyPost_ret (v := .tuple #[.agg #[.int .i64 x.op, .int .i64 x.a, .int .i64 x.b, .int .i64 x.c, .string (S x.tree)], .bool true]) (by simp [results, Tryz.results46, go_sem, d0, d1, d2, d3, d4]) rfl ?_
          rw [HS.out]
          exact ⟨rfl, b5⟩
    · have HZ : Hid (parM s = none) := Lib.hid (by rw [hd2.out, parW, HN.out, if_neg hlen])
      have n1 : ¬ (ts.length : Int) = (n : Int) := by omega
      have n2 : ((ts.length : Int) == (n : Int)) = false := beq_eq_false_iff_ne.2 n1
      have r3 := r3.out
      clear hown hlen
      have c0 := r3.c0; have c1 := r3.c1; have c2 := r3.c2; have c3 := r3.c3; have c4 := r3.c4
      have f0 := r3.fz 0; have f1 := r3.fz 1; have f2 := r3.fz 2; have f3 := r3.fz 3; have f4 := r3.fz 4
      simp only [insZ] at c0 c1 c2 c3 c4
      go_wp2
      have r5 := r3.put5 insZ
      have b5 := below5 (b := w.heap.size) (.int .i64 0) (.int .i64 0) (.int .i64 0) (.int .i64 0) (.string ⟨#[]⟩) hb3 (Nat.le_refl _)
      have d0 := r5.c0; have d1 := r5.c1; have d2 := r5.c2; have d3 := r5.c3; have d4 := r5.c4
      simp only [insZ] at d0 d1 d2 d3 d4
      refine bodyPost_ret (v := .tuple #[.agg #[.int .i64 0, .int .i64 0, .int .i64 0, .int .i64 0, .string ⟨#[]⟩], .bool false]) (by simp [results, Tryz.results46, go_sem, d0, d1, d2, d3, d4]) rfl ?_
      rw [HZ.out]
      exact ⟨rfl, b5⟩
  · have hn1 : nmInt nm = -1 := by unfold nmInt; rw [if_neg h6]
    have HZ : Hid (parM s = none) := Lib.hid (by rw [HPM.out, if_neg h6])
    rw [hn1]
    have r2 := r2.out
    clear hn1 h6 HPM
    have c0 := r2.c0; have c1 := r2.c1; have c2 := r2.c2; have c3 := r2.c3; have c4 := r2.c4
    have f0 := r2.fz 0; have f1 := r2.fz 1; have f2 := r2.fz 2; have f3 := r2.fz 3; have f4 := r2.fz 4
    simp only [insZ] at c0 c1 c2 c3 c4
    go_wp2
    have r5 := r2.put5 insZ
    have b5 := below5 (b := w.heap.size) (.int .i64 0) (.int .i64 0) (.int .i64 0) (.int .i64 0) (.string ⟨#[]⟩) hb2 (Nat.le_refl _)
    have d0 := r5.c0; have d1 := r5.c1; have d2 := r5.c2; have d3 := r5.c3; have d4 := r5.c4
    simp only [insZ] at d0 d1 d2 d3 d4
    refine bodyPost_ret (v := .tuple #[.agg #[.int .i64 0, .int .i64 0, .int .i64 0, .int .i64 0, .string ⟨#[]⟩], .bool false]) (by simp [results, Tryz.results46, go_sem, d0, d1, d2, d3, d4]) rfl ?_
    rw [HZ.out]
    exact ⟨rfl, b5⟩
end Go.Proofs.YtlfoigkpfooopaaGreatDoor
