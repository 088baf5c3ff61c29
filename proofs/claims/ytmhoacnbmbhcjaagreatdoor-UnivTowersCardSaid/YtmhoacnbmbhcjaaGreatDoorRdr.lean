/- The method decode: one instruction out of its code. By an AI agent. -/
import Derived.Test.YtmhoacnbmbhcjaaGreatDoorFnm
namespace Go.Proofs.YtmhoacnbmbhcjaaGreatDoor
open Go.RowKit Pl

def foldF (g : List UInt8 → Ins → Fld → Option Ins) : List Fld → List (List UInt8) → Ins → Option Ins
  | [], _, x => some x
  | f :: fs, w :: ws, x => (g w x f).bind fun y => foldF g fs ws y
  | _ :: _, [], _ => none
def ins0 (k : Nat) : Ins := ⟨k, 0, 0, 0, []⟩
/-- the instruction with a code -/
def decK (k : Nat) (b : List UInt8) : Option Ins := (unn ((fldsOf k).length - 1) b).bind fun ts => foldF Fld.dec (fldsOf k) ts (ins0 k)
def decM (s : List UInt8) : Option Ins :=
  if s = [48] then none else if alt (hd s) = true then (if val (hd s) < 6 then decK (val (hd s)).toNat (tl s) else none) else none
def MPost (w : World) (r : Option Ins) (e : Ending) (w' : World) : Prop :=
  match r with
  | some x => e = .returned (.tuple #[.agg #[.int .i64 x.op, .int .i64 x.a, .int .i64 x.b, .int .i64 x.c, .string (S x.tree)], .bool true]) ∧ Below w.heap.size w w'
  | none => e = .returned (.tuple #[.agg #[.int .i64 0, .int .i64 0, .int .i64 0, .int .i64 0, .string ⟨#[]⟩], .bool false]) ∧ Below w.heap.size w w'
theorem unnest_two (s : List UInt8) (w : World) (hv : vld s = true) :
    Calls Tryz.prog 155 #[.string (S s), .int .i64 2] w (UnPost w (unn 1 s)) := unnest_any s 1 w hv (by decide)
theorem unnest_n (s : List UInt8) (n : Nat) (w : World) (hv : vld s = true) (h1 : 1 ≤ n) (hn : n ≤ 1000) :
    Calls Tryz.prog 155 #[.string (S s), .int .i64 n] w (UnPost w (unn (n - 1) s)) := by
  have := unnest_any s (n - 1) w hv (by omega)
  rwa [show ((n - 1 : Nat) : Int) + 1 = n by omega] at this
theorem InAt.setC {w : World} {b : Nat} {x : Ins} {v : Int} (h : InAt w b x) : InAt (w.setCell ⟨b, 0, none⟩ (.int .i64 v)) b { x with op := v } :=
  ⟨by simp; exact h.lt, World.cell?_setCell_same' _ _ _ (by rw [h.c0]; rfl), cell_other (by decide) h.c1, cell_other (by decide) h.c2, cell_other (by decide) h.c3, cell_other (by decide) h.c4, fun k => by rw [World.frozen?_setCell]; exact h.fz k⟩
theorem InAt.put5 {w : World} {b : Nat} {y : Ins} (x : Ins) (h : InAt w b y) :
    InAt (((((w.setCell ⟨b, 0, none⟩ (.int .i64 x.op)).setCell ⟨b, 1, none⟩ (.int .i64 x.a)).setCell ⟨b, 2, none⟩ (.int .i64 x.b)).setCell ⟨b, 3, none⟩ (.int .i64 x.c)).setCell ⟨b, 4, none⟩ (.string (S x.tree))) b x :=
  ((((h.setC (v := x.op)).set (j := 1) (v := x.a) (.inl rfl)).set (j := 2) (v := x.b) (.inr (.inl rfl))).set (j := 3) (v := x.c) (.inr (.inr rfl))).setT (t := x.tree)
theorem below5 {B b : Nat} {w0 w : World} (v0 v1 v2 v3 v4 : Value) (h : Below B w0 w) (hb : B ≤ b) :
    Below B w0 (((((w.setCell ⟨b, 0, none⟩ v0).setCell ⟨b, 1, none⟩ v1).setCell ⟨b, 2, none⟩ v2).setCell ⟨b, 3, none⟩ v3).setCell ⟨b, 4, none⟩ v4) :=
  ((((h.setCell (p := ⟨b, 0, none⟩) hb _).setCell (p := ⟨b, 1, none⟩) hb _).setCell (p := ⟨b, 2, none⟩) hb _).setCell (p := ⟨b, 3, none⟩) hb _).setCell (p := ⟨b, 4, none⟩) hb _
theorem val_nonneg {l : List UInt8} (h : alt l = true) : 0 ≤ val l := by unfold val; rw [if_pos h]; omega
theorem flds_pos (k : Nat) : 1 ≤ (fldsOf k).length := by
  unfold fldsOf
  repeat' split
  all_goals simp
def insZ : Ins := ⟨0, 0, 0, 0, []⟩

set_option maxHeartbeats 6400000 in
set_option maxRecDepth 100000 in
theorem mdecode (t : Nat) (s : List UInt8) (w : World) (hT : TabGood w t) (hv : vld s = true) (hE : Env w) :
    Calls Tryz.prog 100 #[.pointer (some ⟨t, 0, none⟩), .string (S s)] w (MPost w (decM s)) := by
  have HT := Lib.hid hT; have HV := Lib.hid hv; have HE := Lib.hid hE
  have htl := hT.1
  have HU := Lib.hid (fun W => unnest_two s W hv)
  have HH := Lib.hid (vld_hd hv).1; have HL := Lib.hid (vld_hd hv).2
  clear hT hv hE
  by_cases h0 : s = [48]
  · have hu : Hid (unn 1 s = none) := Lib.hid (by rw [h0]; rfl)
    have hd0 : Hid (decM s = none) := Lib.hid (by unfold decM; rw [if_pos h0])
    clear h0
    go_enter Tryz.func100, Tryz.ntmps100
    go_wp2_with fail
    refine (HU.out _).mono ?_
    rw [hu.out]
    rintro e w1 ⟨rfl, h1⟩
    have r1 := (boxIn w insZ 64).below h1
    have hb1 : Below w.heap.size w w1 := ((Below.refl _ _).alloc (Nat.le_refl _) _).trans (h1.mono (by simp))
    have c0 := r1.c0; have c1 := r1.c1; have c2 := r1.c2; have c3 := r1.c3; have c4 := r1.c4
    have f0 := r1.fz 0; have f1 := r1.fz 1; have f2 := r1.fz 2; have f3 := r1.fz 3; have f4 := r1.fz 4
    simp only [insZ] at c0 c1 c2 c3 c4
    go_wp2
    have r5 := r1.put5 insZ
    have b5 := below5 (b := w.heap.size) (.int .i64 0) (.int .i64 0) (.int .i64 0) (.int .i64 0) (.string ⟨#[]⟩) hb1 (Nat.le_refl _)
    have d0 := r5.c0; have d1 := r5.c1; have d2 := r5.c2; have d3 := r5.c3; have d4 := r5.c4
    simp only [insZ] at d0 d1 d2 d3 d4
    refine bodyPost_ret (v := .tuple #[.agg #[.int .i64 0, .int .i64 0, .int .i64 0, .int .i64 0, .string ⟨#[]⟩], .bool false]) (by simp [results, Tryz.results100, go_sem, d0, d1, d2, d3, d4]) rfl ?_
    rw [hd0.out]
    exact ⟨rfl, b5⟩
  · have hu : Hid (unn 1 s = some [hd s, tl s]) := Lib.hid (by simp [unn, h0])
    have hd0 : Hid (decM s = if alt (hd s) = true then (if val (hd s) < 6 then decK (val (hd s)).toNat (tl s) else none) else none) := Lib.hid (by unfold decM; rw [if_neg h0])
    clear h0
    have hvl := val_ge (hd s)
    go_enter Tryz.func100, Tryz.ntmps100
    go_wp2_with fail
    refine (HU.out _).mono ?_
    rw [hu.out]
    rintro e w1 ⟨v, rfl, hown, h1⟩
    have r1 := Lib.hid ((boxIn w insZ 64).below h1)
    have hb1 : Below w.heap.size w w1 := ((Below.refl _ _).alloc (Nat.le_refl _) _).trans (h1.mono (by simp))
    obtain ⟨g, cap, rfl, hcap, hg0, hg⟩ := own_cap hown (by simp)
    have l0 := hown.cellAt 0 (by simp)
    have l1 := hown.cellAt 1 (by simp)
    simp only [strsV, List.map_cons, List.map_nil, List.getElem?_cons_zero, List.getElem?_cons_succ] at l0 l1
    have E1 := Lib.hid (HE.out.below hb1)
    have hs1 := hb1.size
    clear hown h1
    go_wp2_with fail
    cases ha : alt (hd s) with
    | false =>
      have HN : Hid (decM s = none) := Lib.hid (by rw [hd0.out, ha]; rfl)
      refine (decodeNumber_no (hd s) _ HH.out ha E1.out).mono ?_
      rintro e w2 ⟨rfl, h2⟩
      have r2 := r1.out.below h2
      have hb2 := hb1.trans (h2.mono hs1)
      clear ha
      have c0 := r2.c0; have c1 := r2.c1; have c2 := r2.c2; have c3 := r2.c3; have c4 := r2.c4
      have f0 := r2.fz 0; have f1 := r2.fz 1; have f2 := r2.fz 2; have f3 := r2.fz 3; have f4 := r2.fz 4
      simp only [insZ] at c0 c1 c2 c3 c4
      go_wp2
      have r5 := r2.put5 insZ
      have b5 := below5 (b := w.heap.size) (.int .i64 0) (.int .i64 0) (.int .i64 0) (.int .i64 0) (.string ⟨#[]⟩) hb2 (Nat.le_refl _)
      have d0 := r5.c0; have d1 := r5.c1; have d2 := r5.c2; have d3 := r5.c3; have d4 := r5.c4
      simp only [insZ] at d0 d1 d2 d3 d4
      refine bodyPost_ret (v := .tuple #[.agg #[.int .i64 0, .int .i64 0, .int .i64 0, .int .i64 0, .string ⟨#[]⟩], .bool false]) (by simp [results, Tryz.results100, go_sem, d0, d1, d2, d3, d4]) rfl ?_
      rw [HN.out]
      exact ⟨rfl, b5⟩
    | true =>
      refine (decodeNumber_yes (hd s) _ HH.out ha E1.out).mono ?_
      rintro e w2 ⟨rfl, h2⟩
      have r2 := Lib.hid (r1.out.below h2)
      have hb2 := hb1.trans (h2.mono hs1)
      have m1 := (h2.cell (p := ⟨g, 1, none⟩) hg).trans l1
      have hg2 : g < w2.heap.size := Nat.lt_of_lt_of_le hg h2.size
      have E2 := Lib.hid (E1.out.below h2)
      clear h2 l0 l1
      by_cases h6 : val (hd s) < 6
      · obtain ⟨k, hk⟩ : ∃ k : Nat, val (hd s) = k := ⟨(val (hd s)).toNat, by have := val_nonneg ha; omega⟩
        have hd1 : Hid (decM s = decK k (tl s)) := Lib.hid (by rw [hd0.out, if_pos ha, if_pos h6, hk, Int.toNat_natCast])
        rw [hk] at h6 hvl ⊢
        clear ha
        have hk6 : k < 6 := by omega
        obtain ⟨bs, _, q1, hF⟩ := HT.out.2 k hk6
        have q1 := (hb2.cell (p := ⟨t, k * 2 + 1, none⟩) htl).trans q1
        have HF := Lib.hid hF
        have hn3 := flds_len k
        have hn1 := flds_pos k
        generalize hN : (fldsOf k).length = n at *
        have HN := Lib.hid hN
        have hs2 := hb2.size
        clear hk hF hN hd0
        go_wp2_with fail
        refine (unnest_n (tl s) n _ HL.out hn1 (by omega)).mono ?_
        cases hun : unn (n - 1) (tl s) with
        | none =>
          have HZ : Hid (decM s = none) := Lib.hid (by rw [hd1.out, decK, HN.out, hun]; rfl)
          rintro e w3 ⟨rfl, h3⟩
          have r3 := r2.out.below h3
          have hb3 := hb2.trans (h3.mono hs2)
          clear hun
          have c0 := r3.c0; have c1 := r3.c1; have c2 := r3.c2; have c3 := r3.c3; have c4 := r3.c4
          have f0 := r3.fz 0; have f1 := r3.fz 1; have f2 := r3.fz 2; have f3 := r3.fz 3; have f4 := r3.fz 4
          simp only [insZ] at c0 c1 c2 c3 c4
          go_wp2
          have r5 := r3.put5 insZ
          have b5 := below5 (b := w.heap.size) (.int .i64 0) (.int .i64 0) (.int .i64 0) (.int .i64 0) (.string ⟨#[]⟩) hb3 (Nat.le_refl _)
          have d0 := r5.c0; have d1 := r5.c1; have d2 := r5.c2; have d3 := r5.c3; have d4 := r5.c4
          simp only [insZ] at d0 d1 d2 d3 d4
          refine bodyPost_ret (v := .tuple #[.agg #[.int .i64 0, .int .i64 0, .int .i64 0, .int .i64 0, .string ⟨#[]⟩], .bool false]) (by simp [results, Tryz.results100, go_sem, d0, d1, d2, d3, d4]) rfl ?_
          rw [HZ.out]
          exact ⟨rfl, b5⟩
        | some ts =>
          have HZ : Hid (decM s = foldF Fld.dec (fldsOf k) ts (ins0 k)) := Lib.hid (by rw [hd1.out, decK, HN.out, hun]; rfl)
          have htl2 : ts.length = n := by rw [unn_len hun]; omega
          have HTV := Lib.hid (unn_vld HL.out hun)
          have HTL := Lib.hid htl2
          rintro e w3 ⟨v3, rfl, hown, h3⟩
          have r3 := Lib.hid (r2.out.below h3)
          have hb3 := hb2.trans (h3.mono hs2)
          rw [htl2] at hown
          obtain ⟨g2, cap2, rfl, hcap2, hg02, hgg⟩ := own_cap hown (by omega)
          have HC2 : Hid (∀ j, j < n → w3.cell? ⟨g2, j, none⟩ = some (.string (S (ts.getD j [])))) := Lib.hid (fun j hj => by
            rw [hown.cellAt j (by omega)]
            simp [strsV, List.getD, List.getElem?_eq_getElem (show j < ts.length by omega)])
          have E3 := Lib.hid (E2.out.below h3)
          have hs3 := hb3.size
          clear hown h3 hun m1 htl2
          go_wp2
          have hin0 : InAt (w3.alloc (.cells #[.int .i64 k, .int .i64 0, .int .i64 0, .int .i64 0, .string ⟨#[]⟩] 64)) w3.heap.size (ins0 k) := boxIn w3 (ins0 k) 64
          go_loopw [58] (fun i wr => ∃ (j : Nat) (x : Ins), j ≤ n ∧ i = .int .i64 j ∧ InAt wr w3.heap.size x ∧ Below w3.heap.size w3 wr ∧ Hid (foldF Fld.dec (fldsOf k) ts (ins0 k) = foldF Fld.dec ((fldsOf k).drop j) (ts.drop j) x)) (fun i _ => n - (intOf i).toNat)
          case atStart => exact ⟨0, ins0 k, Nat.zero_le _, rfl, hin0, (Below.refl _ _).alloc (Nat.le_refl _) _, Lib.hid rfl⟩
          case round =>
            obtain ⟨j, x, hj, rfl, hin, hb, hfo⟩ := hrel
            have hsz := hb.size
            have r4 := Lib.hid (r3.out.below hb)
            have hb4 := hb3.trans (hb.mono hs3)
            have E4 := Lib.hid (E3.out.below hb)
            have hsz4 := hb4.size
            have hl4 := hin.lt
            by_cases hlt : j < n
            · obtain ⟨f, hfj⟩ : ∃ f, (fldsOf k)[j]? = some f := ⟨(fldsOf k)[j]'(by have := HN.out; omega), List.getElem?_eq_getElem _⟩
              obtain ⟨gt, gp, gc, gd, lb, hfit, d0, d1, d2, d3⟩ := HF.out.2 j f hfj
              have hbl := HF.out.1
              have k0 := (hb4.cell (p := ⟨bs, j * 4, none⟩) hbl).trans d0
              have k1 := (hb4.cell (p := ⟨bs, j * 4 + 1, none⟩) hbl).trans d1
              have k2 := (hb4.cell (p := ⟨bs, j * 4 + 2, none⟩) hbl).trans d2
              have k3 := (hb4.cell (p := ⟨bs, j * 4 + 3, none⟩) hbl).trans d3
              clear d0 d1 d2 d3
              obtain ⟨gt', gp', gc', gd', lb', e, hT', hP', hC', hD'⟩ := hfit
              cases e
              have eg := hD'.1
              have hjt : j < ts.length := by have := HTL.out; omega
              have htv : vld (ts.getD j []) = true := HTV.out _ (by rw [List.getD_eq_getElem?_getD, List.getElem?_eq_getElem hjt]; exact List.getElem_mem hjt)
              have hws := (hb.cell (p := ⟨g2, j, none⟩) hgg).trans (HC2.out j hlt)
              have hggr : g2 < wr.heap.size := Nat.lt_of_lt_of_le hgg hsz
              have hstep : Hid (foldF Fld.dec (fldsOf k) ts (ins0 k) = (f.dec (ts.getD j []) x).bind fun y => foldF Fld.dec ((fldsOf k).drop (j + 1)) (ts.drop (j + 1)) y) := Lib.hid (by
                obtain ⟨hjl, hje⟩ := List.getElem?_eq_some_iff.1 hfj
                rw [hfo.out, List.drop_eq_getElem_cons hjl, List.drop_eq_getElem_cons hjt, foldF, hje, List.getD_eq_getElem?_getD, List.getElem?_eq_getElem hjt]; rfl)
              have HD : Hid (∀ W, Below wr.heap.size wr W → Calls Tryz.prog gd (#[.pointer (some ⟨w3.heap.size, 0, none⟩), .string (S (ts.getD j []))] ++ lb) W (FPost w3.heap.size W (f.dec (ts.getD j []) x))) := Lib.hid (fun W hW => hD'.2 W w3.heap.size x (ts.getD j []) (hb4.trans (hW.mono (by omega))) (hin.below hW) htv (E4.out.below hW))
              have HIN := Lib.hid hin; have HB := Lib.hid hb
              generalize ts.getD j [] = tj at *
              clear hfj hT' hP' hC' hD' hfo hin hb htv
              have hj1 : (j : Int) < (n : Int) := by omega
              go_wp2_with fail
              cases hr : f.dec tj x with
              | some y =>
                have HD2 : Hid (∀ W, Below wr.heap.size wr W → Calls Tryz.prog gd (#[.pointer (some ⟨w3.heap.size, 0, none⟩), .string (S tj)] ++ lb) W fun e w' => e = .returned (.bool true) ∧ InAt w' w3.heap.size y ∧ Apart w3.heap.size W w') := Lib.hid (fun W hW => by have h := HD.out W hW; rw [hr] at h; exact h)
                have HS : Hid (foldF Fld.dec (fldsOf k) ts (ins0 k) = foldF Fld.dec ((fldsOf k).drop (j + 1)) (ts.drop (j + 1)) y) := Lib.hid (by rw [hstep.out, hr]; rfl)
                clear HD hstep hr
                go_region_with (refine (HD2.out _ ?_).mono ?_; exact ((Below.refl _ _).alloc (Nat.le_refl _) _).drew; rintro e w5 ⟨rfl, i5, a5⟩)
                all_goals
                  have hb5 := Lib.hid (((HB.out.alloc hsz (.cells #[.func (.func gt) #[] lb, .func (.func gp) #[] lb, .func (.func gc) #[] lb, .func (.func gd) #[] lb] 165)).drew).trans (a5.below (B := w3.heap.size) (Nat.le_refl _) (by simp; omega)))
                  have I5 := Lib.hid i5
                  clear a5 i5
                  go_wp2
                  go_roundw
                  case rel => exact ⟨j + 1, y, by omega, by go_num, I5.out, hb5.out, HS⟩
                  case measure => simp [intOf]; omega
              | none =>
                have HD2 : Hid (∀ W, Below wr.heap.size wr W → Calls Tryz.prog gd (#[.pointer (some ⟨w3.heap.size, 0, none⟩), .string (S tj)] ++ lb) W fun e w' => e = .returned (.bool false) ∧ Apart w3.heap.size W w') := Lib.hid (fun W hW => by have h := HD.out W hW; rw [hr] at h; exact h)
                have HS : Hid (decM s = none) := Lib.hid (by rw [HZ.out, hstep.out, hr]; rfl)
                clear HD hstep hr
                go_region_with (refine (HD2.out _ ?_).mono ?_; exact ((Below.refl _ _).alloc (Nat.le_refl _) _).drew; rintro e w5 ⟨rfl, a5⟩)
                all_goals
                  have hb5 := ((HB.out.alloc hsz (.cells #[.func (.func gt) #[] lb, .func (.func gp) #[] lb, .func (.func gc) #[] lb, .func (.func gd) #[] lb] 165)).drew).trans (a5.below (B := w3.heap.size) (Nat.le_refl _) (by simp; omega))
                  have r6 := r3.out.below hb5
                  have hb6 := hb3.trans (hb5.mono hs3)
                  clear a5 hb5
                  have c0 := r6.c0; have c1 := r6.c1; have c2 := r6.c2; have c3 := r6.c3; have c4 := r6.c4
                  have f0 := r6.fz 0; have f1 := r6.fz 1; have f2 := r6.fz 2; have f3 := r6.fz 3; have f4 := r6.fz 4
                  simp only [insZ] at c0 c1 c2 c3 c4
                  go_wp2
                  have r5 := r6.put5 insZ
                  have b5 := below5 (b := w.heap.size) (.int .i64 0) (.int .i64 0) (.int .i64 0) (.int .i64 0) (.string ⟨#[]⟩) hb6 (Nat.le_refl _)
                  have d0 := r5.c0; have d1 := r5.c1; have d2 := r5.c2; have d3 := r5.c3; have d4 := r5.c4
                  simp only [insZ] at d0 d1 d2 d3 d4
                  refine bodyPost_ret (v := .tuple #[.agg #[.int .i64 0, .int .i64 0, .int .i64 0, .int .i64 0, .string ⟨#[]⟩], .bool false]) (by simp [results, Tryz.results100, go_sem, d0, d1, d2, d3, d4]) rfl ?_
                  rw [HS.out]
                  exact ⟨rfl, b5⟩
            · obtain rfl : j = n := by omega
              have HS : Hid (decM s = some x) := Lib.hid (by rw [HZ.out, hfo.out, List.drop_eq_nil_of_le (by have := HN.out; omega)]; rfl)
              have r4 := r4.out
              have a0 := hin.c0; have a1 := hin.c1; have a2 := hin.c2; have a3 := hin.c3; have a4 := hin.c4
              have c0 := r4.c0; have c1 := r4.c1; have c2 := r4.c2; have c3 := r4.c3; have c4 := r4.c4
              have f0 := r4.fz 0; have f1 := r4.fz 1; have f2 := r4.fz 2; have f3 := r4.fz 3; have f4 := r4.fz 4
              simp only [insZ] at c0 c1 c2 c3 c4
              have hne : w.heap.size ≠ w3.heap.size := by have := r3.out.lt; omega
              go_wp2
              have r5 := r4.put5 x
              have b5 := below5 (b := w.heap.size) (.int .i64 x.op) (.int .i64 x.a) (.int .i64 x.b) (.int .i64 x.c) (.string (S x.tree)) hb4 (Nat.le_refl _)
              have d0 := r5.c0; have d1 := r5.c1; have d2 := r5.c2; have d3 := r5.c3; have d4 := r5.c4
              refine bodyPost_ret (v := .tuple #[.agg #[.int .i64 x.op, .int .i64 x.a, .int .i64 x.b, .int .i64 x.c, .string (S x.tree)], .bool true]) (by simp [results, Tryz.results100, go_sem, d0, d1, d2, d3, d4]) rfl ?_
              rw [HS.out]
              exact ⟨rfl, b5⟩
      · have HN : Hid (decM s = none) := Lib.hid (by rw [hd0.out, if_pos ha, if_neg h6])
        clear ha
        have r2 := r2.out
        have c0 := r2.c0; have c1 := r2.c1; have c2 := r2.c2; have c3 := r2.c3; have c4 := r2.c4
        have f0 := r2.fz 0; have f1 := r2.fz 1; have f2 := r2.fz 2; have f3 := r2.fz 3; have f4 := r2.fz 4
        simp only [insZ] at c0 c1 c2 c3 c4
        go_wp2
        have r5 := r2.put5 insZ
        have b5 := below5 (b := w.heap.size) (.int .i64 0) (.int .i64 0) (.int .i64 0) (.int .i64 0) (.string ⟨#[]⟩) hb2 (Nat.le_refl _)
        have d0 := r5.c0; have d1 := r5.c1; have d2 := r5.c2; have d3 := r5.c3; have d4 := r5.c4
        simp only [insZ] at d0 d1 d2 d3 d4
        refine bodyPost_ret (v := .tuple #[.agg #[.int .i64 0, .int .i64 0, .int .i64 0, .int .i64 0, .string ⟨#[]⟩], .bool false]) (by simp [results, Tryz.results100, go_sem, d0, d1, d2, d3, d4]) rfl ?_
        rw [HN.out]
        exact ⟨rfl, b5⟩
end Go.Proofs.YtmhoacnbmbhcjaaGreatDoor

namespace Go.Proofs.YtmhoacnbmbhcjaaGreatDoor
open Go.RowKit Pl

def nmIx (l : List UInt8) : Nat :=
  if nms.getD 0 [] = l then 0 else if nms.getD 1 [] = l then 1 else if nms.getD 2 [] = l then 2 else if nms.getD 3 [] = l then 3 else if nms.getD 4 [] = l then 4 else if nms.getD 5 [] = l then 5 else 6
theorem nmIx_at {l : List UInt8} {k : Nat} (h : ∀ i, i < k → nms.getD i [] ≠ l) (hk : k < 6) (he : nms.getD k [] = l) : nmIx l = k := by
  have hk6 : k = 0 ∨ k = 1 ∨ k = 2 ∨ k = 3 ∨ k = 4 ∨ k = 5 := by omega
  unfold nmIx
  rcases hk6 with rfl | rfl | rfl | rfl | rfl | rfl
  · rw [if_pos he]
  · rw [if_neg (h 0 (by omega)), if_pos he]
  · rw [if_neg (h 0 (by omega)), if_neg (h 1 (by omega)), if_pos he]
  · rw [if_neg (h 0 (by omega)), if_neg (h 1 (by omega)), if_neg (h 2 (by omega)), if_pos he]
  · rw [if_neg (h 0 (by omega)), if_neg (h 1 (by omega)), if_neg (h 2 (by omega)), if_neg (h 3 (by omega)), if_pos he]
  · rw [if_neg (h 0 (by omega)), if_neg (h 1 (by omega)), if_neg (h 2 (by omega)), if_neg (h 3 (by omega)), if_neg (h 4 (by omega)), if_pos he]
theorem nmIx_none {l : List UInt8} (h : ∀ i, i < 6 → nms.getD i [] ≠ l) : nmIx l = 6 := by
  unfold nmIx
  rw [if_neg (h 0 (by omega)), if_neg (h 1 (by omega)), if_neg (h 2 (by omega)), if_neg (h 3 (by omega)), if_neg (h 4 (by omega)), if_neg (h 5 (by omega))]
theorem nmIx_le (l : List UInt8) : nmIx l ≤ 6 := by unfold nmIx; repeat' split
                                                    all_goals omega
def nmInt (l : List UInt8) : Int := if nmIx l < 6 then (nmIx l : Int) else -1
theorem sameName (a l : List UInt8) (sl : Value) (B : Nat) (W : World) (hB : B < W.heap.size) (hc : W.cell? ⟨B, 0, none⟩ = some (.string (S l))) :
    Calls Tryz.prog 163 #[.agg #[.string (S a), sl], .pointer (some ⟨B, 0, none⟩)] W fun e w' => e = .returned (.bool (a == l)) ∧ Below W.heap.size W w' := by
  go_enter Tryz.func163, Tryz.ntmps163
  go_wp2
  go_ret
  exact ⟨rfl, (Below.refl _ _).alloc (Nat.le_refl _) _⟩

set_option maxHeartbeats 1600000 in
set_option maxRecDepth 100000 in
theorem indexName (t B : Nat) (l : List UInt8) (w : World) (hT : TabGood w t) (hB : B < w.heap.size) (hc : w.cell? ⟨B, 0, none⟩ = some (.string (S l))) :
    Calls Tryz.prog 162 #[.slice (some ⟨t, 0, none⟩) 6 6, .func (.func 163) #[] #[.pointer (some ⟨B, 0, none⟩)]] w fun e w' => e = .returned (.int .i64 (nmInt l)) ∧ Below w.heap.size w w' := by
  have HT := Lib.hid hT; have HC := Lib.hid hc
  have htl := hT.1
  clear hT hc
  go_enter Tryz.func162, Tryz.ntmps162
  go_wp2
  go_loopw [8] (fun i wr => ∃ k : Nat, k ≤ 6 ∧ i = .int .i64 k ∧ Below w.heap.size w wr ∧ Hid (∀ i, i < k → nms.getD i [] ≠ l)) (fun i _ => 6 - (intOf i).toNat)
  case atStart => exact ⟨0, by omega, rfl, Below.refl _ _, Lib.hid (fun i hi => absurd hi (Nat.not_lt_zero _))⟩
  case round =>
    obtain ⟨k, hk, rfl, hb, hn⟩ := hrel
    have hsz := hb.size
    by_cases hlt : k < 6
    · obtain ⟨bs, c0, c1, _⟩ := HT.out.2 k hlt
      have k0 := (hb.cell (p := ⟨t, k * 2, none⟩) htl).trans c0
      have k1 := (hb.cell (p := ⟨t, k * 2 + 1, none⟩) htl).trans c1
      have kB := (hb.cell (p := ⟨B, 0, none⟩) hB).trans HC.out
      have hk1 : (k : Int) < 6 := by omega
      obtain ⟨nk, hnk⟩ : ∃ nk, nms.getD k [] = nk := ⟨_, rfl⟩
      rw [hnk] at k0
      have HNK := Lib.hid hnk
      have HS := Lib.hid (fun (sl : Value) => sameName nk l sl B wr (by omega) kB)
      clear c0 c1 hnk
      by_cases he : nk = l
      · have hq : (nk == l) = true := by rw [he]; exact beq_self_eq_true l
        have HX : Hid (nmInt l = k) := Lib.hid (by unfold nmInt; rw [nmIx_at hn.out hlt (by rw [HNK.out]; exact he), if_pos hlt])
        clear he
        go_wp2_with fail
        refine (HS.out _).mono ?_
        rintro e w1 ⟨rfl, h1⟩
        have hb1 := hb.trans (h1.mono hsz)
        go_wp2
        go_ret
        rw [HX.out]
        exact ⟨rfl, hb1⟩
      · have hq : (nk == l) = false := beq_eq_false_iff_ne.2 he
        have HX : Hid (∀ i, i < k + 1 → nms.getD i [] ≠ l) := Lib.hid (fun i hi => by
          by_cases h : i = k
          · rw [h, HNK.out]; exact he
          · exact hn.out i (by omega))
        clear he
        go_wp2_with fail
        refine (HS.out _).mono ?_
        rintro e w1 ⟨rfl, h1⟩
        have hb1 := Lib.hid (hb.trans (h1.mono hsz))
        clear hb h1
        go_wp2
        go_roundw
        case rel => exact ⟨k + 1, by omega, by go_num, hb1.out, HX⟩
        case measure => simp [intOf]; omega
    · obtain rfl : k = 6 := by omega
      have HX : Hid (nmInt l = -1) := Lib.hid (by unfold nmInt; rw [nmIx_none hn.out, if_neg (by omega)])
      go_wp2
      go_ret
      rw [HX.out]
      exact ⟨rfl, hb⟩
end Go.Proofs.YtmhoacnbmbhcjaaGreatDoor

namespace Go.Proofs.YtmhoacnbmbhcjaaGreatDoor
open Go.RowKit Pl

theorem splitK_len (sep : List UInt8) : ∀ (k : Nat) (s : List UInt8), (Lib.splitK sep 0 k s).length ≤ k + 1
  | 0, _ => Nat.le_refl _
  | k + 1, s => by
    unfold Lib.splitK
    split
    · simp
    · have := splitK_len sep k (s.drop ((Lib.index s sep).toNat + sep.length))
      simp only [List.length_cons]; omega
theorem splitK_pos (sep : List UInt8) (k : Nat) (s : List UInt8) : 1 ≤ (Lib.splitK sep 0 k s).length := by
  cases k with
  | zero => simp [Lib.splitK]
  | succ k => unfold Lib.splitK; split <;> simp
theorem SplitN_l (s sep : List UInt8) (n : Nat) (w : World) (hs : s.length ≤ 4000000) (h1 : 1 ≤ sep.length) (hn : 1 ≤ n) (hn2 : n ≤ 1000000) (hE : Env w) :
    Calls Tryz.prog 114 #[.string (S s), .string (S sep), .int .i64 n] w fun e w' => ∃ v, e = .returned v ∧ w'.ownsRow w.heap.size 9 1 v (Lib.splitN s sep n).length (strsV (Lib.splitN s sep n)) ∧ Below w.heap.size w w' := by
  obtain ⟨m, hm⟩ := hE.ml
  refine (Tryz.strings_SplitN (S s) (S sep) n m w (by rw [S_size]; omega) hm (by rw [S_size]; exact h1) hn (by omega)).mono ?_
  rintro e w' ⟨rfl, rfl⟩
  have hd := Lib.splitB_data (S sep) 0 (min n ((S s).size + 1) - 1) (S s)
  have hq : Lib.splitN s sep n = (Lib.splitB (S sep) 0 (min n ((S s).size + 1) - 1) (S s)).map (·.data.toList) := by rw [hd, S_size]; rfl
  have hl : (Lib.splitN s sep n).length = (Lib.splitB (S sep) 0 (min n ((S s).size + 1) - 1) (S s)).length := by rw [hq]; simp
  have hle : (Lib.splitB (S sep) 0 (min n ((S s).size + 1) - 1) (S s)).length ≤ min n ((S s).size + 1) := by
    have := Lib.splitB_length_le (S sep) 0 (min n ((S s).size + 1) - 1) (S s)
    omega
  refine ⟨_, rfl, ⟨by rw [strsV_len, Nat.mul_one], .inr ⟨w.heap.size, _, _, by rw [hl], Nat.le_refl _, heap_alloc_new _ _, by rw [hl]; exact hle, by unfold maxLen; omega, by rw [Lib.cellsOf_size hle, Nat.mul_one], ?_⟩⟩, (Below.refl _ _).alloc (Nat.le_refl _) _⟩
  rw [Nat.mul_one, hl]
  unfold Lib.cellsOf
  rw [List.take_append_of_le_length (by simp), List.take_of_length_le (by simp), hq]
  simp only [strsV, List.map_map]
  rfl
theorem Cut_l (s sep : List UInt8) (w : World) (hs : s.length ≤ 4000000) (hE : Env w) :
    Calls Tryz.prog 161 #[.string (S s), .string (S sep)] w fun e w' => e = .returned (.tuple #[.string (S (Lib.cut s sep).1), .string (S (Lib.cut s sep).2.1), .bool (Lib.cut s sep).2.2]) ∧ Below w.heap.size w w' := by
  obtain ⟨m, hm⟩ := hE.ml
  refine (Tryz.strings_Cut (S s) (S sep) m w (by rw [S_size]; omega) hm).mono ?_
  rintro e w' ⟨rfl, n, rfl⟩
  exact ⟨rfl, below_drewN (Below.refl _ _) n⟩

/-! ### what is joined is split -/
theorem index_word {c : UInt8} {r w t : List UInt8} (h : c ∉ w) : Lib.index (w ++ (c :: r) ++ t) (c :: r) = w.length := by
  refine Lib.index_first (by simp) ?_ ?_
  · unfold Lib.occAt
    rw [List.append_assoc, List.drop_left]
    exact List.isPrefixOf_iff_prefix.2 (List.prefix_append _ _)
  · intro j hj
    unfold Lib.occAt
    have hne : c ≠ w[j] := fun e => h (by rw [e]; exact List.getElem_mem hj)
    have hq : (c == w[j]) = false := beq_eq_false_iff_ne.2 hne
    rw [List.append_assoc, List.drop_append_of_le_length (by omega), List.drop_eq_getElem_cons hj, List.cons_append, List.isPrefixOf, hq, Bool.false_and]
theorem index_alone {c : UInt8} {r w : List UInt8} (h : c ∉ w) : Lib.index w (c :: r) = -1 := by
  refine Lib.index_none fun j hj => ?_
  unfold Lib.occAt
  rcases Nat.lt_or_ge j w.length with h1 | h1
  · have hne : c ≠ w[j] := fun e => h (by rw [e]; exact List.getElem_mem h1)
    have hq : (c == w[j]) = false := beq_eq_false_iff_ne.2 hne
    rw [List.drop_eq_getElem_cons h1, List.isPrefixOf, hq, Bool.false_and]
  · rw [List.drop_eq_nil_of_le h1]; rfl
theorem join_two (x y : List UInt8) (r : List (List UInt8)) (sep : List UInt8) : Lib.join (x :: y :: r) sep = x ++ sep ++ Lib.join (y :: r) sep := by
  rw [Lib.join_cons, Lib.join_cons]; simp [Lib.joinTail]
theorem split_join {c : UInt8} {r : List UInt8} : ∀ (ws : List (List UInt8)) (k : Nat), ws ≠ [] → (∀ w ∈ ws, c ∉ w) → ws.length ≤ k + 1 → Lib.splitK (c :: r) 0 k (Lib.join ws (c :: r)) = ws
  | [], _, h, _, _ => absurd rfl h
  | [x], k, _, hc, _ => by
    rw [Lib.join_one]
    cases k with
    | zero => rfl
    | succ k => unfold Lib.splitK; rw [index_alone (hc x (by simp))]; rfl
  | x :: y :: ws, k, _, hc, hl => by
    obtain ⟨k, rfl⟩ : ∃ j, k = j + 1 := ⟨k - 1, by simp at hl; omega⟩
    rw [join_two]
    unfold Lib.splitK
    rw [index_word (hc x (by simp)), if_neg (by rw [beq_iff_eq]; omega), Int.toNat_natCast, Nat.add_zero]
    rw [show List.take x.length (x ++ c :: r ++ Lib.join (y :: ws) (c :: r)) = x by rw [List.append_assoc, List.take_left]]
    rw [show List.drop (x.length + (c :: r).length) (x ++ c :: r ++ Lib.join (y :: ws) (c :: r)) = Lib.join (y :: ws) (c :: r) by rw [← List.length_append, List.drop_left]]
    rw [split_join (y :: ws) k (by simp) (fun w hw => hc w (List.mem_cons_of_mem _ hw)) (by simp only [List.length_cons] at hl ⊢; omega)]
theorem join_split {sep : List UInt8} : ∀ (k : Nat) (s : List UInt8), Lib.join (Lib.splitK sep 0 k s) sep = s
  | 0, s => Lib.join_one s sep
  | k + 1, s => by
    unfold Lib.splitK
    split
    · exact Lib.join_one s sep
    · rename_i h
      rcases Lib.index_spec s sep with ⟨h1, _⟩ | ⟨i, h1, h2, h3, _⟩
      · exact absurd (by rw [h1]; rfl) h
      · rw [h1, Int.toNat_natCast, Nat.add_zero]
        have ih := join_split (sep := sep) k (s.drop (i + sep.length))
        cases hq : Lib.splitK sep 0 k (s.drop (i + sep.length)) with
        | nil => have := splitK_pos sep k (s.drop (i + sep.length)); rw [hq] at this; simp at this
        | cons y r =>
          rw [hq] at ih
          rw [join_two, ih]
          obtain ⟨t, ht⟩ := List.isPrefixOf_iff_prefix.1 h3
          have h4 : s.drop (i + sep.length) = t := by rw [← List.drop_drop, ← ht, List.drop_left]
          rw [h4, List.append_assoc, ht, List.take_append_drop]
theorem join_len_ge (ws : List (List UInt8)) (sep : List UInt8) (h : 1 ≤ sep.length) : ws.length ≤ (Lib.join ws sep).length + 1 := by
  induction ws with
  | nil => simp
  | cons x ws ih =>
    cases ws with
    | nil => simp
    | cons y r => rw [join_two]; simp only [List.length_cons, List.length_append] at ih ⊢; omega
/-- words without a blank, joined by blanks, are split again -/
theorem splitN_join {c : UInt8} {r : List UInt8} (ws : List (List UInt8)) (n : Nat) (h : ws ≠ []) (hc : ∀ w ∈ ws, c ∉ w) (hn : ws.length ≤ n) : Lib.splitN (Lib.join ws (c :: r)) (c :: r) n = ws := by
  unfold Lib.splitN
  have := join_len_ge ws (c :: r) (by simp)
  have h1 : 1 ≤ ws.length := by rcases ws with _ | ⟨x, ws⟩ <;> simp_all
  exact split_join ws _ h hc (by omega)
theorem join_splitN (s sep : List UInt8) (n : Nat) : Lib.join (Lib.splitN s sep n) sep = s := join_split _ s
theorem cut_hit {c : UInt8} {r w t : List UInt8} (h : c ∉ w) : Lib.cut (w ++ (c :: r) ++ t) (c :: r) = (w, t, true) := by
  unfold Lib.cut
  rw [index_word h, if_pos (by omega), Int.toNat_natCast, List.append_assoc, List.take_left, ← List.append_assoc, ← List.length_append, List.drop_left]
theorem cut_cases (s sep : List UInt8) : (Lib.cut s sep = (s, [], false)) ∨ ∃ a b, Lib.cut s sep = (a, b, true) ∧ s = a ++ sep ++ b := by
  unfold Lib.cut
  rcases Lib.index_spec s sep with ⟨h1, _⟩ | ⟨i, h1, h2, h3, _⟩
  · left; rw [h1, if_neg (by omega)]
  · right
    rw [h1, if_pos (by omega), Int.toNat_natCast]
    refine ⟨_, _, rfl, ?_⟩
    obtain ⟨t, ht⟩ := List.isPrefixOf_iff_prefix.1 h3
    have h4 : s.drop (i + sep.length) = t := by rw [← List.drop_drop, ← ht, List.drop_left]
    rw [h4, List.append_assoc, ht, List.take_append_drop]
end Go.Proofs.YtmhoacnbmbhcjaaGreatDoor

namespace Go.Proofs.YtmhoacnbmbhcjaaGreatDoor
open Go.RowKit Pl

def parW (k : Nat) (ws : List (List UInt8)) : Option Ins := if ws.length = (fldsOf k).length then foldF Fld.par (fldsOf k) ws (ins0 k) else none
/-- the instruction with a string -/
def parM (s : List UInt8) : Option Ins :=
  if nmIx (Lib.cut s [32]).1 < 6 then parW (nmIx (Lib.cut s [32]).1) (Lib.splitN (Lib.cut s [32]).2.1 [32] ((fldsOf (nmIx (Lib.cut s [32]).1)).length + 1)) else none
theorem cut_le (s sep : List UInt8) : (Lib.cut s sep).1.length ≤ s.length ∧ (Lib.cut s sep).2.1.length ≤ s.length := by
  rcases cut_cases s sep with h | ⟨a, b, h, e⟩
  · rw [h]; simp
  · rw [h, e]; simp; omega
theorem split_le (s sep : List UInt8) (n : Nat) : ∀ w ∈ Lib.splitN s sep n, w.length ≤ s.length := by
  intro w hw
  have h := join_splitN s sep n
  have key : ∀ (ws : List (List UInt8)), w ∈ ws → w.length ≤ (Lib.join ws sep).length := by
    intro ws
    induction ws with
    | nil => intro h; cases h
    | cons x ws ih =>
      intro hm
      cases ws with
      | nil => rw [Lib.join_one]; simp at hm; rw [hm]; exact Nat.le_refl _
      | cons y r =>
        rw [join_two]
        simp only [List.length_append]
        rcases List.mem_cons.1 hm with rfl | hm
        · omega
        · have := ih hm; omega
  rw [← h]; exact key _ hw

set_option maxHeartbeats 6400000 in
set_option maxRecDepth 100000 in
theorem mparse (t : Nat) (s : List UInt8) (w : World) (hT : TabGood w t) (hs : s.length ≤ 4000000) (hE : Env w) :
    Calls Tryz.prog 115 #[.pointer (some ⟨t, 0, none⟩), .string (S s)] w (MPost w (parM s)) := by
  have HT := Lib.hid hT; have HE := Lib.hid hE
  have htl := hT.1
  have HC := Lib.hid (fun W hW => Cut_l s [32] W hs hW)
  have hcl := cut_le s [32]
  have HPM : Hid (parM s = if nmIx (Lib.cut s [32]).1 < 6 then parW (nmIx (Lib.cut s [32]).1) (Lib.splitN (Lib.cut s [32]).2.1 [32] ((fldsOf (nmIx (Lib.cut s [32]).1)).length + 1)) else none) := Lib.hid rfl
  have HPR : Hid (∃ r, r = parM s) := Lib.hid ⟨_, rfl⟩
  clear hT hE
  obtain ⟨nm, rest, fd, hcut⟩ : ∃ a b c, Lib.cut s [32] = (a, b, c) := ⟨_, _, _, rfl⟩
  rw [hcut] at HC HPM hcl
  have hrl : rest.length ≤ 4000000 := by have := hcl.2; simp only at this; omega
  clear hcut hcl HPR
  go_enter Tryz.func115, Tryz.ntmps115
  go_wp2_with fail
  refine (HC.out _ (HE.out.below ((Below.refl _ _).alloc (Nat.le_refl _) _))).mono ?_
  rintro e w1 ⟨rfl, h1⟩
  have r1 := Lib.hid ((boxIn w insZ 64).below h1)
  have hb1 : Below w.heap.size w w1 := ((Below.refl _ _).alloc (Nat.le_refl _) _).trans (h1.mono (by simp))
  have hs1 := hb1.size
  clear h1
  go_wp2_with fail
  have hB1 : Below w.heap.size w (w1.alloc (.cells #[.string (S nm)] 9)) := hb1.alloc hs1 _
  have cB := RowCells.new w1 [.string (S nm)] 9
  refine (indexName t w1.heap.size nm _ (HT.out.below hB1) cB.1 (cB.2 0 _ rfl)).mono ?_
  rintro e w2 ⟨rfl, h2⟩
  have hx2 : Below w1.heap.size w1 w2 := ((Below.refl _ _).alloc (Nat.le_refl _) _).trans (h2.mono (by simp))
  have r2 := Lib.hid (r1.out.below hx2)
  have hb2 := hb1.trans (hx2.mono hs1)
  clear cB h2 hx2 hB1
  by_cases h6 : nmIx nm < 6
  · obtain ⟨k, hk⟩ : ∃ k, nmIx nm = k := ⟨_, rfl⟩
    have hn1 : nmInt nm = (k : Int) := by unfold nmInt; rw [if_pos h6, hk]
    have hd1 : Hid (parM s = parW k (Lib.splitN rest [32] ((fldsOf k).length + 1))) := Lib.hid (by rw [HPM.out, if_pos h6, hk])
    rw [hk] at h6
    rw [hn1]
    have hk6 : k < 6 := h6
    have hk7 : (k : Int) < 6 := by omega
    obtain ⟨bs, _, q1, hF⟩ := HT.out.2 k hk6
    have q1 := (hb2.cell (p := ⟨t, k * 2 + 1, none⟩) htl).trans q1
    have HF := Lib.hid hF
    have hn3 := flds_len k
    have hn1' := flds_pos k
    generalize hN : (fldsOf k).length = n at *
    have HN := Lib.hid hN
    have hs2 := hb2.size
    clear hk hF hN hn1 h6 HPM
    go_wp2_with fail
    have HSP := Lib.hid (fun W hW => SplitN_l rest [32] (n + 1) W hrl (by simp) (by omega) (by omega) hW)
    refine (HSP.out _ (HE.out.below hb2)).mono ?_
    obtain ⟨ts, hts⟩ : ∃ ts, ts = Lib.splitN rest [32] (n + 1) := ⟨_, rfl⟩
    have hd2 : Hid (parM s = parW k ts) := Lib.hid (by rw [hts]; exact hd1.out)
    have HTV : Hid (∀ x ∈ ts, x.length ≤ 281474976710656) := Lib.hid (by rw [hts]; intro x hx; have := split_le rest [32] (n + 1) x hx; omega)
    have htp : 1 ≤ ts.length := by rw [hts]; exact splitK_pos _ _ _
    have htm : ts.length ≤ 4000002 := by rw [hts]; have := splitK_len [32] (min (n + 1) (rest.length + 1) - 1) rest; unfold Lib.splitN; omega
    rw [← hts]
    rintro e w3 ⟨v3, rfl, hown, h3⟩
    have r3 := Lib.hid (r2.out.below h3)
    have hb3 := hb2.trans (h3.mono hs2)
    have E3 := Lib.hid (HE.out.below hb3)
    have hs3 := hb3.size
    obtain ⟨g2, cap2, rfl, hcap2, hg02, hgg⟩ := own_cap hown (by omega)
    clear hts h3
    by_cases hlen : ts.length = n
    · have HZ : Hid (parM s = foldF Fld.par (fldsOf k) ts (ins0 k)) := Lib.hid (by rw [hd2.out, parW, HN.out, if_pos hlen])
      have HTL := Lib.hid hlen
      have HC2 : Hid (∀ j, j < n → w3.cell? ⟨g2, j, none⟩ = some (.string (S (ts.getD j [])))) := Lib.hid (fun j hj => by
        rw [hown.cellAt j (by omega)]
        simp [strsV, List.getD, List.getElem?_eq_getElem (show j < ts.length by omega)])
      rw [hlen]
      clear hown hlen htp htm
      go_wp2
      have hin0 : InAt (w3.alloc (.cells #[.int .i64 k, .int .i64 0, .int .i64 0, .int .i64 0, .string ⟨#[]⟩] 64)) w3.heap.size (ins0 k) := boxIn w3 (ins0 k) 64
      go_loopw [50] (fun i wr => ∃ (j : Nat) (x : Ins), j ≤ n ∧ i = .int .i64 j ∧ InAt wr w3.heap.size x ∧ Below w3.heap.size w3 wr ∧ Hid (foldF Fld.par (fldsOf k) ts (ins0 k) = foldF Fld.par ((fldsOf k).drop j) (ts.drop j) x)) (fun i _ => n - (intOf i).toNat)
      case atStart => exact ⟨0, ins0 k, Nat.zero_le _, rfl, hin0, (Below.refl _ _).alloc (Nat.le_refl _) _, Lib.hid rfl⟩
      case round =>
        obtain ⟨j, x, hj, rfl, hin, hb, hfo⟩ := hrel
        have hsz := hb.size
        have r4 := Lib.hid (r3.out.below hb)
        have hb4 := hb3.trans (hb.mono hs3)
        have E4 := Lib.hid (E3.out.below hb)
        have hsz4 := hb4.size
        have hl4 := hin.lt
        by_cases hlt : j < n
        · obtain ⟨f, hfj⟩ : ∃ f, (fldsOf k)[j]? = some f := ⟨(fldsOf k)[j]'(by have := HN.out; omega), List.getElem?_eq_getElem _⟩
          obtain ⟨gt, gp, gc, gd, lb, hfit, d0, d1, d2, d3⟩ := HF.out.2 j f hfj
          have hbl := HF.out.1
          have k0 := (hb4.cell (p := ⟨bs, j * 4, none⟩) hbl).trans d0
          have k1 := (hb4.cell (p := ⟨bs, j * 4 + 1, none⟩) hbl).trans d1
          have k2 := (hb4.cell (p := ⟨bs, j * 4 + 2, none⟩) hbl).trans d2
          have k3 := (hb4.cell (p := ⟨bs, j * 4 + 3, none⟩) hbl).trans d3
          clear d0 d1 d2 d3
          obtain ⟨gt', gp', gc', gd', lb', e, hT', hP', hC', hD'⟩ := hfit
          cases e
          have eg := hP'.1
          have hjt : j < ts.length := by have := HTL.out; omega
          have htv : (ts.getD j []).length ≤ 281474976710656 := HTV.out _ (by rw [List.getD_eq_getElem?_getD, List.getElem?_eq_getElem hjt]; exact List.getElem_mem hjt)
          have hws := (hb.cell (p := ⟨g2, j, none⟩) hgg).trans (HC2.out j hlt)
          have hggr : g2 < wr.heap.size := Nat.lt_of_lt_of_le hgg hsz
          have hstep : Hid (foldF Fld.par (fldsOf k) ts (ins0 k) = (f.par (ts.getD j []) x).bind fun y => foldF Fld.par ((fldsOf k).drop (j + 1)) (ts.drop (j + 1)) y) := Lib.hid (by
            obtain ⟨hjl, hje⟩ := List.getElem?_eq_some_iff.1 hfj
            rw [hfo.out, List.drop_eq_getElem_cons hjl, List.drop_eq_getElem_cons hjt, foldF, hje, List.getD_eq_getElem?_getD, List.getElem?_eq_getElem hjt]; rfl)
          have HD : Hid (∀ W, Below wr.heap.size wr W → Calls Tryz.prog gp (#[.pointer (some ⟨w3.heap.size, 0, none⟩), .string (S (ts.getD j []))] ++ lb) W (FPost w3.heap.size W (f.par (ts.getD j []) x))) := Lib.hid (fun W hW => hP'.2 W w3.heap.size x (ts.getD j []) (hb4.trans (hW.mono (by omega))) (hin.below hW) htv (E4.out.below hW))
          have HIN := Lib.hid hin; have HB := Lib.hid hb
          generalize ts.getD j [] = tj at *
          clear hfj hT' hP' hC' hD' hfo hin hb htv
          have hj1 : (j : Int) < (n : Int) := by omega
          go_wp2_with fail
          cases hr : f.par tj x with
          | some y =>
            have HD2 : Hid (∀ W, Below wr.heap.size wr W → Calls Tryz.prog gp (#[.pointer (some ⟨w3.heap.size, 0, none⟩), .string (S tj)] ++ lb) W fun e w' => e = .returned (.bool true) ∧ InAt w' w3.heap.size y ∧ Apart w3.heap.size W w') := Lib.hid (fun W hW => by have h := HD.out W hW; rw [hr] at h; exact h)
            have HS : Hid (foldF Fld.par (fldsOf k) ts (ins0 k) = foldF Fld.par ((fldsOf k).drop (j + 1)) (ts.drop (j + 1)) y) := Lib.hid (by rw [hstep.out, hr]; rfl)
            clear HD hstep hr
            go_region_with (refine (HD2.out _ ?_).mono ?_; exact ((Below.refl _ _).alloc (Nat.le_refl _) _).drew; rintro e w5 ⟨rfl, i5, a5⟩)
            all_goals
              have hb5 := Lib.hid (((HB.out.alloc hsz (.cells #[.func (.func gt) #[] lb, .func (.func gp) #[] lb, .func (.func gc) #[] lb, .func (.func gd) #[] lb] 165)).drew).trans (a5.below (B := w3.heap.size) (Nat.le_refl _) (by simp; omega)))
              have I5 := Lib.hid i5
              clear a5 i5
              go_wp2
              go_roundw
              case rel => exact ⟨j + 1, y, by omega, by go_num, I5.out, hb5.out, HS⟩
              case measure => simp [intOf]; omega
          | none =>
            have HD2 : Hid (∀ W, Below wr.heap.size wr W → Calls Tryz.prog gp (#[.pointer (some ⟨w3.heap.size, 0, none⟩), .string (S tj)] ++ lb) W fun e w' => e = .returned (.bool false) ∧ Apart w3.heap.size W w') := Lib.hid (fun W hW => by have h := HD.out W hW; rw [hr] at h; exact h)
            have HS : Hid (parM s = none) := Lib.hid (by rw [HZ.out, hstep.out, hr]; rfl)
            clear HD hstep hr
            go_region_with (refine (HD2.out _ ?_).mono ?_; exact ((Below.refl _ _).alloc (Nat.le_refl _) _).drew; rintro e w5 ⟨rfl, a5⟩)
            all_goals
              have hb5 := ((HB.out.alloc hsz (.cells #[.func (.func gt) #[] lb, .func (.func gp) #[] lb, .func (.func gc) #[] lb, .func (.func gd) #[] lb] 165)).drew).trans (a5.below (B := w3.heap.size) (Nat.le_refl _) (by simp; omega))
              have r6 := r3.out.below hb5
              have hb6 := hb3.trans (hb5.mono hs3)
              clear a5 hb5
              have c0 := r6.c0; have c1 := r6.c1; have c2 := r6.c2; have c3 := r6.c3; have c4 := r6.c4
              have f0 := r6.fz 0; have f1 := r6.fz 1; have f2 := r6.fz 2; have f3 := r6.fz 3; have f4 := r6.fz 4
              simp only [insZ] at c0 c1 c2 c3 c4
              go_wp2
              have r5 := r6.put5 insZ
              have b5 := below5 (b := w.heap.size) (.int .i64 0) (.int .i64 0) (.int .i64 0) (.int .i64 0) (.string ⟨#[]⟩) hb6 (Nat.le_refl _)
              have d0 := r5.c0; have d1 := r5.c1; have d2 := r5.c2; have d3 := r5.c3; have d4 := r5.c4
              simp only [insZ] at d0 d1 d2 d3 d4
              refine bodyPost_ret (v := .tuple #[.agg #[.int .i64 0, .int .i64 0, .int .i64 0, .int .i64 0, .string ⟨#[]⟩], .bool false]) (by simp [results, Tryz.results115, go_sem, d0, d1, d2, d3, d4]) rfl ?_
              rw [HS.out]
              exact ⟨rfl, b5⟩
        · obtain rfl : j = n := by omega
          have HS : Hid (parM s = some x) := Lib.hid (by rw [HZ.out, hfo.out, List.drop_eq_nil_of_le (by have := HN.out; omega)]; rfl)
          have r4 := r4.out
          have a0 := hin.c0; have a1 := hin.c1; have a2 := hin.c2; have a3 := hin.c3; have a4 := hin.c4
          have c0 := r4.c0; have c1 := r4.c1; have c2 := r4.c2; have c3 := r4.c3; have c4 := r4.c4
          have f0 := r4.fz 0; have f1 := r4.fz 1; have f2 := r4.fz 2; have f3 := r4.fz 3; have f4 := r4.fz 4
          simp only [insZ] at c0 c1 c2 c3 c4
          have hne : w.heap.size ≠ w3.heap.size := by have := r3.out.lt; omega
          go_wp2
          have r5 := r4.put5 x
          have b5 := below5 (b := w.heap.size) (.int .i64 x.op) (.int .i64 x.a) (.int .i64 x.b) (.int .i64 x.c) (.string (S x.tree)) hb4 (Nat.le_refl _)
          have d0 := r5.c0; have d1 := r5.c1; have d2 := r5.c2; have d3 := r5.c3; have d4 := r5.c4
          refine bodyPost_ret (v := .tuple #[.agg #[.int .i64 x.op, .int .i64 x.a, .int .i64 x.b, .int .i64 x.c, .string (S x.tree)], .bool true]) (by simp [results, Tryz.results115, go_sem, d0, d1, d2, d3, d4]) rfl ?_
          rw [HS.out]
          exact ⟨rfl, b5⟩
    · have HZ : Hid (parM s = none) := Lib.hid (by rw [hd2.out, parW, HN.out, if_neg hlen])
      have n1 : ¬ (ts.length : Int) = (n : Int) := by omega
      have n2 : ((ts.length : Int) == (n : Int)) = false := beq_eq_false_iff_ne.2 n1
      have r3 := r3.out
      clear hown hlen
      have c0 := r3.c0; have c1 := r3.c1; have c2 := r3.c2; have c3 := r3.c3; have c4 := r3.c4
      have f0 := r3.fz 0; have f1 := r3.fz 1; have f2 := r3.fz 2; have f3 := r3.fz 3; have f4 := r3.fz 4
      simp only [insZ] at c0 c1 c2 c3 c4
      go_wp2
      have r5 := r3.put5 insZ
      have b5 := below5 (b := w.heap.size) (.int .i64 0) (.int .i64 0) (.int .i64 0) (.int .i64 0) (.string ⟨#[]⟩) hb3 (Nat.le_refl _)
      have d0 := r5.c0; have d1 := r5.c1; have d2 := r5.c2; have d3 := r5.c3; have d4 := r5.c4
      simp only [insZ] at d0 d1 d2 d3 d4
      refine bodyPost_ret (v := .tuple #[.agg #[.int .i64 0, .int .i64 0, .int .i64 0, .int .i64 0, .string ⟨#[]⟩], .bool false]) (by simp [results, Tryz.results115, go_sem, d0, d1, d2, d3, d4]) rfl ?_
      rw [HZ.out]
      exact ⟨rfl, b5⟩
  · have hn1 : nmInt nm = -1 := by unfold nmInt; rw [if_neg h6]
    have HZ : Hid (parM s = none) := Lib.hid (by rw [HPM.out, if_neg h6])
    rw [hn1]
    have r2 := r2.out
    clear hn1 h6 HPM
    have c0 := r2.c0; have c1 := r2.c1; have c2 := r2.c2; have c3 := r2.c3; have c4 := r2.c4
    have f0 := r2.fz 0; have f1 := r2.fz 1; have f2 := r2.fz 2; have f3 := r2.fz 3; have f4 := r2.fz 4
    simp only [insZ] at c0 c1 c2 c3 c4
    go_wp2
    have r5 := r2.put5 insZ
    have b5 := below5 (b := w.heap.size) (.int .i64 0) (.int .i64 0) (.int .i64 0) (.int .i64 0) (.string ⟨#[]⟩) hb2 (Nat.le_refl _)
    have d0 := r5.c0; have d1 := r5.c1; have d2 := r5.c2; have d3 := r5.c3; have d4 := r5.c4
    simp only [insZ] at d0 d1 d2 d3 d4
    refine bodyPost_ret (v := .tuple #[.agg #[.int .i64 0, .int .i64 0, .int .i64 0, .int .i64 0, .string ⟨#[]⟩], .bool false]) (by simp [results, Tryz.results115, go_sem, d0, d1, d2, d3, d4]) rfl ?_
    rw [HZ.out]
    exact ⟨rfl, b5⟩
end Go.Proofs.YtmhoacnbmbhcjaaGreatDoor
