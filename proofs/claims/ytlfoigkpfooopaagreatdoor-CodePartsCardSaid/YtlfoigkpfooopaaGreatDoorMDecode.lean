/- The method decode: one instruction out of its code. By an AI agent. -/
import Derived.Test.YtlfoigkpfooopaaGreatDoorMWrites
namespace Go.Proofs.YtlfoigkpfooopaaGreatDoor
open Go.RowKit Pl

def foldF (g : List UInt8 → Ins → Fld → Option Ins) : List Fld → List (List UInt8) → Ins → Option Ins
  | [], _, x => some x
  | f :: fs, w :: ws, x => (g w x f).bind fun y => foldF g fs ws y
  | _ :: _, [], _ => none
def ins0 (k : Nat) : Ins := ⟨k, 0, 0, 0, []⟩
/-- the instruction with a code -/
def decK (k : Nat) (b : List UInt8) : Option Ins := (unn ((fldsOf k).length - 1) b).bind fun ts => foldF Fld.dec (fldsOf k) ts (ins0 k)
def decM (s : List UInt8) : Option Ins :=
  if s = [48] then none else if alt (hd s) = true then (if val (hd s) < 6 then decK (val (hd s)).toNat (tl s) else none) else none
def MPost (w : World) (r : Option Ins) (e : Ending) (w' : World) : Prop :=
  match r with
  | some x => e = .returned (.tuple #[.agg #[.int .i64 x.op, .int .i64 x.a, .int .i64 x.b, .int .i64 x.c, .string (S x.tree)], .bool true]) ∧ Below w.heap.size w w'
  | none => e = .returned (.tuple #[.agg #[.int .i64 0, .int .i64 0, .int .i64 0, .int .i64 0, .string ⟨#[]⟩], .bool false]) ∧ Below w.heap.size w w'
theorem unnest_two (s : List UInt8) (w : World) (hv : vld s = true) :
    Calls Tryz.prog 69 #[.string (S s), .int .i64 2] w (UnPost w (unn 1 s)) := unnest_any s 1 w hv (by decide)
theorem unnest_n (s : List UInt8) (n : Nat) (w : World) (hv : vld s = true) (h1 : 1 ≤ n) (hn : n ≤ 1000) :
    Calls Tryz.prog 69 #[.string (S s), .int .i64 n] w (UnPost w (unn (n - 1) s)) := by
  have := unnest_any s (n - 1) w hv (by omega)
  rwa [show ((n - 1 : Nat) : Int) + 1 = n by omega] at this
theorem InAt.setC {w : World} {b : Nat} {x : Ins} {v : Int} (h : InAt w b x) : InAt (w.setCell ⟨b, 0, none⟩ (.int .i64 v)) b { x with op := v } :=
  ⟨by simp; exact h.lt, World.cell?_setCell_same' _ _ _ (by rw [h.c0]; rfl), cell_other (by decide) h.c1, cell_other (by decide) h.c2, cell_other (by decide) h.c3, cell_other (by decide) h.c4, fun k => by rw [World.frozen?_setCell]; exact h.fz k⟩
theorem InAt.put5 {w : World} {b : Nat} {y : Ins} (x : Ins) (h : InAt w b y) :
    InAt (((((w.setCell ⟨b, 0, none⟩ (.int .i64 x.op)).setCell ⟨b, 1, none⟩ (.int .i64 x.a)).setCell ⟨b, 2, none⟩ (.int .i64 x.b)).setCell ⟨b, 3, none⟩ (.int .i64 x.c)).setCell ⟨b, 4, none⟩ (.string (S x.tree))) b x :=
  ((((h.setC (v := x.op)).set (j := 1) (v := x.a) (.inl rfl)).set (j := 2) (v := x.b) (.inr (.inl rfl))).set (j := 3) (v := x.c) (.inr (.inr rfl))).setT (t := x.tree)
theorem below5 {B b : Nat} {w0 w : World} (v0 v1 v2 v3 v4 : Value) (h : Below B w0 w) (hb : B ≤ b) :
    Below B w0 (((((w.setCell ⟨b, 0, none⟩ v0).setCell ⟨b, 1, none⟩ v1).setCell ⟨b, 2, none⟩ v2).setCell ⟨b, 3, none⟩ v3).setCell ⟨b, 4, none⟩ v4) :=
  ((((h.setCell (p := ⟨b, 0, none⟩) hb _).setCell (p := ⟨b, 1, none⟩) hb _).setCell (p := ⟨b, 2, none⟩) hb _).setCell (p := ⟨b, 3, none⟩) hb _).setCell (p := ⟨b, 4, none⟩) hb _
theorem val_nonneg {l : List UInt8} (h : alt l = true) : 0 ≤ val l := by unfold val; rw [if_pos h]; omega
theorem flds_pos (k : Nat) : 1 ≤ (fldsOf k).length := by
  unfold fldsOf
  repeat' split
  all_goals simp
def insZ : Ins := ⟨0, 0, 0, 0, []⟩

set_option maxHeartbeats 6400000 in
set_option maxRecDepth 100000 in
theorem mdecode (t : Nat) (s : List UInt8) (w : World) (hT : TabGood w t) (hv : vld s = true) (hE : Env w) :
    Calls Tryz.prog 39 #[.pointer (some ⟨t, 0, none⟩), .string (S s)] w (MPost w (decM s)) := by
  have HT := Lib.hid hT; have HV := Lib.hid hv; have HE := Lib.hid hE
  have htl := hT.1
  have HU := Lib.hid (fun W => unnest_two s W hv)
  have HH := Lib.hid (vld_hd hv).1; have HL := Lib.hid (vld_hd hv).2
  clear hT hv hE
  by_cases h0 : s = [48]
  · have hu : Hid (unn 1 s = none) := Lib.hid (by rw [h0]; rfl)
    have hd0 : Hid (decM s = none) := Lib.hid (by unfold decM; rw [if_pos h0])
    clear h0
    go_enter Tryz.func39, Tryz.ntmps39
    go_wp2_with fail
    refine (HU.out _).mono ?_
    rw [hu.out]
    rintro e w1 ⟨rfl, h1⟩
    have r1 := (boxIn w insZ 46).below h1
    have hb1 : Below w.heap.size w w1 := ((Below.refl _ _).alloc (Nat.le_refl _) _).trans (h1.mono (by simp))
    have c0 := r1.c0; have c1 := r1.c1; have c2 := r1.c2; have c3 := r1.c3; have c4 := r1.c4
    have f0 := r1.fz 0; have f1 := r1.fz 1; have f2 := r1.fz 2; have f3 := r1.fz 3; have f4 := r1.fz 4
    simp only [insZ] at c0 c1 c2 c3 c4
    go_wp2
    have r5 := r1.put5 insZ
    have b5 := below5 (b := w.heap.size) (.int .i64 0) (.int .i64 0) (.int .i64 0) (.int .i64 0) (.string ⟨#[]⟩) hb1 (Nat.le_refl _)
    have d0 := r5.c0; have d1 := r5.c1; have d2 := r5.c2; have d3 := r5.c3; have d4 := r5.c4
    simp only [insZ] at d0 d1 d2 d3 d4
    refine bodyPost_ret (v := .tuple #[.agg #[.int .i64 0, .int .i64 0, .int .i64 0, .int .i64 0, .string ⟨#[]⟩], .bool false]) (by simp [results, Tryz.results39, go_sem, d0, d1, d2, d3, d4]) rfl ?_
    rw [hd0.out]
    exact ⟨rfl, b5⟩
  · have hu : Hid (unn 1 s = some [hd s, tl s]) := Lib.hid (by simp [unn, h0])
    have hd0 : Hid (decM s = if alt (hd s) = true then (if val (hd s) < 6 then decK (val (hd s)).toNat (tl s) else none) else none) := Lib.hid (by unfold decM; rw [if_neg h0])
    clear h0
    have hvl := val_ge (hd s)
    go_enter Tryz.func39, Tryz.ntmps39
    go_wp2_with fail
    refine (HU.out _).mono ?_
    rw [hu.out]
    rintro e w1 ⟨v, rfl, hown, h1⟩
    have r1 := Lib.hid ((boxIn w insZ 46).below h1)
    have hb1 : Below w.heap.size w w1 := ((Below.refl _ _).alloc (Nat.le_refl _) _).trans (h1.mono (by simp))
    obtain ⟨g, cap, rfl, hcap, hg0, hg⟩ := own_cap hown (by simp)
    have l0 := hown.cellAt 0 (by simp)
    have l1 := hown.cellAt 1 (by simp)
    simp only [strsV, List.map_cons, List.map_nil, List.getElem?_cons_zero, List.getElem?_cons_succ] at l0 l1
    have E1 := Lib.hid (HE.out.below hb1)
    have hs1 := hb1.size
    clear hown h1
    go_wp2_with fail
    cases ha : alt (hd s) with
    | false =>
      have HN : Hid (decM s = none) := Lib.hid (by rw [hd0.out, ha]; rfl)
      refine (decodeNumber_no (hd s) _ HH.out ha E1.out).mono ?_
      rintro e w2 ⟨rfl, h2⟩
      have r2 := r1.out.below h2
      have hb2 := hb1.trans (h2.mono hs1)
      clear ha
      have c0 := r2.c0; have c1 := r2.c1; have c2 := r2.c2; have c3 := r2.c3; have c4 := r2.c4
      have f0 := r2.fz 0; have f1 := r2.fz 1; have f2 := r2.fz 2; have f3 := r2.fz 3; have f4 := r2.fz 4
      simp only [insZ] at c0 c1 c2 c3 c4
      go_wp2
      have r5 := r2.put5 insZ
      have b5 := below5 (b := w.heap.size) (.int .i64 0) (.int .i64 0) (.int .i64 0) (.int .i64 0) (.string ⟨#[]⟩) hb2 (Nat.le_refl _)
      have d0 := r5.c0; have d1 := r5.c1; have d2 := r5.c2; have d3 := r5.c3; have d4 := r5.c4
      simp only [insZ] at d0 d1 d2 d3 d4
      refine bodyPost_ret (v := .tuple #[.agg #[.int .i64 0, .int .i64 0, .int .i64 0, .int .i64 0, .string ⟨#[]⟩], .bool false]) (by simp [results, Tryz.results39, go_sem, d0, d1, d2, d3, d4]) rfl ?_
      rw [HN.out]
      exact ⟨rfl, b5⟩
    | true =>
      refine (decodeNumber_yes (hd s) _ HH.out ha E1.out).mono ?_
      rintro e w2 ⟨rfl, h2⟩
      have r2 := Lib.hid (r1.out.below h2)
      have hb2 := hb1.trans (h2.mono hs1)
      have m1 := (h2.cell (p := ⟨g, 1, none⟩) hg).trans l1
      have hg2 : g < w2.heap.size := Nat.lt_of_lt_of_le hg h2.size
      have E2 := Lib.hid (E1.out.below h2)
      clear h2 l0 l1
      by_cases h6 : val (hd s) < 6
      · obtain ⟨k, hk⟩ : ∃ k : Nat, val (hd s) = k := ⟨(val (hd s)).toNat, by have := val_nonneg ha; omega⟩
        have hd1 : Hid (decM s = decK k (tl s)) := Lib.hid (by rw [hd0.out, if_pos ha, if_pos h6, hk, Int.toNat_natCast])
        rw [hk] at h6 hvl ⊢
        clear ha
        have hk6 : k < 6 := by omega
        obtain ⟨bs, _, q1, hF⟩ := HT.out.2 k hk6
        have q1 := (hb2.cell (p := ⟨t, k * 2 + 1, none⟩) htl).trans q1
        have HF := Lib.hid hF
        have hn3 := flds_len k
        have hn1 := flds_pos k
        generalize hN : (fldsOf k).length = n at *
        have HN := Lib.hid hN
        have hs2 := hb2.size
        clear hk hF hN hd0
        go_wp2_with fail
        refine (unnest_n (tl s) n _ HL.out hn1 (by omega)).mono ?_
        cases hun : unn (n - 1) (tl s) with
        | none =>
          have HZ : Hid (decM s = none) := Lib.hid (by rw [hd1.out, decK, HN.out, hun]; rfl)
          rintro e w3 ⟨rfl, h3⟩
          have r3 := r2.out.below h3
          have hb3 := hb2.trans (h3.mono hs2)
          clear hun
          have c0 := r3.c0; have c1 := r3.c1; have c2 := r3.c2; have c3 := r3.c3; have c4 := r3.c4
          have f0 := r3.fz 0; have f1 := r3.fz 1; have f2 := r3.fz 2; have f3 := r3.fz 3; have f4 := r3.fz 4
          simp only [insZ] at c0 c1 c2 c3 c4
          go_wp2
          have r5 := r3.put5 insZ
          have b5 := below5 (b := w.heap.size) (.int .i64 0) (.int .i64 0) (.int .i64 0) (.int .i64 0) (.string ⟨#[]⟩) hb3 (Nat.le_refl _)
          have d0 := r5.c0; have d1 := r5.c1; have d2 := r5.c2; have d3 := r5.c3; have d4 := r5.c4
          simp only [insZ] at d0 d1 d2 d3 d4
          refine bodyPost_ret (v := .tuple #[.agg #[.int .i64 0, .int .i64 0, .int .i64 0, .int .i64 0, .string ⟨#[]⟩], .bool false]) (by simp [results, Tryz.results39, go_sem, d0, d1, d2, d3, d4]) rfl ?_
          rw [HZ.out]
          exact ⟨rfl, b5⟩
        | some ts =>
          have HZ : Hid (decM s = foldF Fld.dec (fldsOf k) ts (ins0 k)) := Lib.hid (by rw [hd1.out, decK, HN.out, hun]; rfl)
          have htl2 : ts.length = n := by rw [unn_len hun]; omega
          have HTV := Lib.hid (unn_vld HL.out hun)
          have HTL := Lib.hid htl2
          rintro e w3 ⟨v3, rfl, hown, h3⟩
          have r3 := Lib.hid (r2.out.below h3)
          have hb3 := hb2.trans (h3.mono hs2)
          rw [htl2] at hown
          obtain ⟨g2, cap2, rfl, hcap2, hg02, hgg⟩ := own_cap hown (by omega)
          have HC2 : Hid (∀ j, j < n → w3.cell? ⟨g2, j, none⟩ = some (.string (S (ts.getD j [])))) := Lib.hid (fun j hj => by
            rw [hown.cellAt j (by omega)]
            simp [strsV, List.getD, List.getElem?_eq_getElem (show j < ts.length by omega)])
          have E3 := Lib.hid (E2.out.below h3)
          have hs3 := hb3.size
          clear hown h3 hun m1 htl2
          go_wp2
          have hin0 : InAt (w3.alloc (.cells #[.int .i64 k, .int .i64 0, .int .i64 0, .int .i64 0, .string ⟨#[]⟩] 46)) w3.heap.size (ins0 k) := boxIn w3 (ins0 k) 46
          go_loopw [58] (fun i wr => ∃ (j : Nat) (x : Ins), j ≤ n ∧ i = .int .i64 j ∧ InAt wr w3.heap.size x ∧ Below w3.heap.size w3 wr ∧ Hid (foldF Fld.dec (fldsOf k) ts (ins0 k) = foldF Fld.dec ((fldsOf k).drop j) (ts.drop j) x)) (fun i _ => n - (intOf i).toNat)
          case atStart => exact ⟨0, ins0 k, Nat.zero_le _, rfl, hin0, (Below.refl _ _).alloc (Nat.le_refl _) _, Lib.hid rfl⟩
          case round =>
            obtain ⟨j, x, hj, rfl, hin, hb, hfo⟩ := hrel
            have hsz := hb.size
            have r4 := Lib.hid (r3.out.below hb)
            have hb4 := hb3.trans (hb.mono hs3)
            have E4 := Lib.hid (E3.out.below hb)
            have hsz4 := hb4.size
            have hl4 := hin.lt
            by_cases hlt : j < n
            · obtain ⟨f, hfj⟩ : ∃ f, (fldsOf k)[j]? = some f := ⟨(fldsOf k)[j]'(by have := HN.out; omega), List.getElem?_eq_getElem _⟩
              obtain ⟨gt, gp, gc, gd, lb, hfit, d0, d1, d2, d3⟩ := HF.out.2 j f hfj
              have hbl := HF.out.1
              have k0 := (hb4.cell (p := ⟨bs, j * 4, none⟩) hbl).trans d0
              have k1 := (hb4.cell (p := ⟨bs, j * 4 + 1, none⟩) hbl).trans d1
              have k2 := (hb4.cell (p := ⟨bs, j * 4 + 2, none⟩) hbl).trans d2
              have k3 := (hb4.cell (p := ⟨bs, j * 4 + 3, none⟩) hbl).trans d3
              clear d0 d1 d2 d3
              obtain ⟨gt', gp', gc', gd', lb', e, hT', hP', hC', hD'⟩ := hfit
              cases e
              have eg := hD'.1
              have hjt : j < ts.length := by have := HTL.out; omega
              have htv : vld (ts.getD j []) = true := HTV.out _ (by rw [List.getD_eq_getElem?_getD, List.getElem?_eq_getElem hjt]; exact List.getElem_mem hjt)
              have hws := (hb.cell (p := ⟨g2, j, none⟩) hgg).trans (HC2.out j hlt)
              have hggr : g2 < wr.heap.size := Nat.lt_of_lt_of_le hgg hsz
              have hstep : Hid (foldF Fld.dec (fldsOf k) ts (ins0 k) = (f.dec (ts.getD j []) x).bind fun y => foldF Fld.dec ((fldsOf k).drop (j + 1)) (ts.drop (j + 1)) y) := Lib.hid (by
                obtain ⟨hjl, hje⟩ := List.getElem?_eq_some_iff.1 hfj
                rw [hfo.out, List.drop_eq_getElem_cons hjl, List.drop_eq_getElem_cons hjt, foldF, hje, List.getD_eq_getElem?_getD, List.getElem?_eq_getElem hjt]; rfl)
              have HD : Hid (∀ W, Below wr.heap.size wr W → Calls Tryz.prog gd (#[.pointer (some ⟨w3.heap.size, 0, none⟩), .string (S (ts.getD j []))] ++ lb) W (FPost w3.heap.size W (f.dec (ts.getD j []) x))) := Lib.hid (fun W hW => hD'.2 W w3.heap.size x (ts.getD j []) (hb4.trans (hW.mono (by omega))) (hin.below hW) htv (E4.out.below hW))
              have HIN := Lib.hid hin; have HB := Lib.hid hb
              generalize ts.getD j [] = tj at *
              clear hfj hT' hP' hC' hD' hfo hin hb htv
              have hj1 : (j : Int) < (n : Int) := by omega
              go_wp2_with fail
              cases hr : f.dec tj x with
              | some y =>
                have HD2 : Hid (∀ W, Below wr.heap.size wr W → Calls Tryz.prog gd (#[.pointer (some ⟨w3.heap.size, 0, none⟩), .string (S tj)] ++ lb) W fun e w' => e = .returned (.bool true) ∧ InAt w' w3.heap.size y ∧ Apart w3.heap.size W w') := Lib.hid (fun W hW => by have h := HD.out W hW; rw [hr] at h; exact h)
                have HS : Hid (foldF Fld.dec (fldsOf k) ts (ins0 k) = foldF Fld.dec ((fldsOf k).drop (j + 1)) (ts.drop (j + 1)) y) := Lib.hid (by rw [hstep.out, hr]; rfl)
                clear HD hstep hr
                go_region_with (refine (HD2.out _ ?_).mono ?_; exact ((Below.refl _ _).alloc (Nat.le_refl _) _).drew; rintro e w5 ⟨rfl, i5, a5⟩)
                all_goals
                  have hb5 := Lib.hid (((HB.out.alloc hsz (.cells #[.func (.func gt) #[] lb, .func (.func gp) #[] lb, .func (.func gc) #[] lb, .func (.func gd) #[] lb] 71)).drew).trans (a5.below (B := w3.heap.size) (Nat.le_refl _) (by simp; omega)))
                  have I5 := Lib.hid i5
                  clear a5 i5
                  go_wp2
                  go_roundw
                  case rel => exact ⟨j + 1, y, by omega, by go_num, I5.out, hb5.out, HS⟩
                  case measure => simp [intOf]; omega
              | none =>
                have HD2 : Hid (∀ W, Below wr.heap.size wr W → Calls Tryz.prog gd (#[.pointer (some ⟨w3.heap.size, 0, none⟩), .string (S tj)] ++ lb) W fun e w' => e = .returned (.bool false) ∧ Apart w3.heap.size W w') := Lib.hid (fun W hW => by have h := HD.out W hW; rw [hr] at h; exact h)
                have HS : Hid (decM s = none) := Lib.hid (by rw [HZ.out, hstep.out, hr]; rfl)
                clear HD hstep hr
                go_region_with (refine (HD2.out _ ?_).mono ?_; exact ((Below.refl _ _).alloc (Nat.le_refl _) _).drew; rintro e w5 ⟨rfl, a5⟩)
                all_goals
                  have hb5 := ((HB.out.alloc hsz (.cells #[.func (.func gt) #[] lb, .func (.func gp) #[] lb, .func (.func gc) #[] lb, .func (.func gd) #[] lb] 71)).drew).trans (a5.below (B := w3.heap.size) (Nat.le_refl _) (by simp; omega))
                  have r6 := r3.out.below hb5
                  have hb6 := hb3.trans (hb5.mono hs3)
                  clear a5 hb5
                  have c0 := r6.c0; have c1 := r6.c1; have c2 := r6.c2; have c3 := r6.c3; have c4 := r6.c4
                  have f0 := r6.fz 0; have f1 := r6.fz 1; have f2 := r6.fz 2; have f3 := r6.fz 3; have f4 := r6.fz 4
                  simp only [insZ] at c0 c1 c2 c3 c4
                  go_wp2
                  have r5 := r6.put5 insZ
                  have b5 := below5 (b := w.heap.size) (.int .i64 0) (.int .i64 0) (.int .i64 0) (.int .i64 0) (.string ⟨#[]⟩) hb6 (Nat.le_refl _)
                  have d0 := r5.c0; have d1 := r5.c1; have d2 := r5.c2; have d3 := r5.c3; have d4 := r5.c4
                  simp only [insZ] at d0 d1 d2 d3 d4
                  refine bodyPost_ret (v := .tuple #[.agg #[.int .i64 0, .int .i64 0, .int .i64 0, .int .i64 0, .string ⟨#[]⟩], .bool false]) (by simp [results, Tryz.results39, go_sem, d0, d1, d2, d3, d4]) rfl ?_
                  rw [HS.out]
                  exact ⟨rfl, b5⟩
            · obtain rfl : j = n := by omega
              have HS : Hid (decM s = some x) := Lib.hid (by rw [HZ.out, hfo.out, List.drop_eq_nil_of_le (by have := HN.out; omega)]; rfl)
              have r4 := r4.out
              have a0 := hin.c0; have a1 := hin.c1; have a2 := hin.c2; have a3 := hin.c3; have a4 := hin.c4
              have c0 := r4.c0; have c1 := r4.c1; have c2 := r4.c2; have c3 := r4.c3; have c4 := r4.c4
              have f0 := r4.fz 0; have f1 := r4.fz 1; have f2 := r4.fz 2; have f3 := r4.fz 3; have f4 := r4.fz 4
              simp only [insZ] at c0 c1 c2 c3 c4
              have hne : w.heap.size ≠ w3.heap.size := by have := r3.out.lt; omega
              go_wp2
              have r5 := r4.put5 x
              have b5 := below5 (b := w.heap.size) (.int .i64 x.op) (.int .i64 x.a) (.int .i64 x.b) (.int .i64 x.c) (.string (S x.tree)) hb4 (Nat.le_refl _)
              have d0 := r5.c0; have d1 := r5.c1; have d2 := r5.c2; have d3 := r5.c3; have d4 := r5.c4
              refine bodyPost_ret (v := .tuple #[.agg #[.int .i64 x.op, .int .i64 x.a, .int .i64 x.b, .int .i64 x.c, .string (S x.tree)], .bool true]) (by simp [results, Tryz.results39, go_sem, d0, d1, d2, d3, d4]) rfl ?_
              rw [HS.out]
              exact ⟨rfl, b5⟩
      · have HN : Hid (decM s = none) := Lib.hid (by rw [hd0.out, if_pos ha, if_neg h6])
        clear ha
        have r2 := r2.out
        have c0 := r2.c0; have c1 := r2.c1; have c2 := r2.c2; have c3 := r2.c3; have c4 := r2.c4
        have f0 := r2.fz 0; have f1 := r2.fz 1; have f2 := r2.fz 2; have f3 := r2.fz 3; have f4 := r2.fz 4
        simp only [insZ] at c0 c1 c2 c3 c4
        go_wp2
        have r5 := r2.put5 insZ
        have b5 := below5 (b := w.heap.size) (.int .i64 0) (.int .i64 0) (.int .i64 0) (.int .i64 0) (.string ⟨#[]⟩) hb2 (Nat.le_refl _)
        have d0 := r5.c0; have d1 := r5.c1; have d2 := r5.c2; have d3 := r5.c3; have d4 := r5.c4
        simp only [insZ] at d0 d1 d2 d3 d4
        refine bodyPost_ret (v := .tuple #[.agg #[.int .i64 0, .int .i64 0, .int .i64 0, .int .i64 0, .string ⟨#[]⟩], .bool false]) (by simp [results, Tryz.results39, go_sem, d0, d1, d2, d3, d4]) rfl ?_
        rw [HN.out]
        exact ⟨rfl, b5⟩
end Go.Proofs.YtlfoigkpfooopaaGreatDoor
