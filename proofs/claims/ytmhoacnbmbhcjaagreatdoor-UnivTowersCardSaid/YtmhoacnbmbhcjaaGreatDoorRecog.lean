/- Package know: what a program is put behind. By an AI agent. -/
import Derived.Test.YtmhoacnbmbhcjaaGreatDoorWr
import Derived.Test.YtmhoacnbmbhcjaaGreatDoorCodeMath
namespace Go.Proofs.YtmhoacnbmbhcjaaGreatDoor
open Go.RowKit Pl

def sec2 : List UInt8 := [49, 49, 48, 49, 48, 48, 49, 48, 49, 49, 48, 48, 48]
def sec3 : List UInt8 := [49, 48, 49, 49, 48, 48, 48]
def recA : List Ins := [headI 2 0, tailI 3 0, setI 4 [49, 48, 48], consI 4 4 2, consI 4 1 4, setI 5 sec3, consI 5 5 2, setI 6 sec2, consI 5 6 5, consI 5 4 5, consI 0 5 3]
/-- the instructions ahead of a program that is to know its code -/
def recL : List Ins := recA ++ clearL 2 5
def rL (q : List Ins) : List Ins := recL ++ q
/-- the code of these and the program -/
def yL (q : List Ins) : List UInt8 := enc (codes (rL q))
/-- the program that knows -/
def knowL (q : List Ins) : List Ins := specL (rL q) (yL q)
theorem recL_len : recL.length = 16 := rfl
theorem rL_len (q : List Ins) : (rL q).length = 16 + q.length := by unfold rL; rw [List.length_append, recL_len]
theorem knowL_len (q : List Ins) : (knowL q).length = 19 + q.length := by unfold knowL; rw [spec_len, rL_len]; omega
theorem recL_allR : AllR recL := by
  have h : ((List.range 16).all fun k => match recL[k]? with | some x => right x (k : Int) (16 : Int) | none => true) = true := by kernel_rfl
  intro k x hx
  have hk : k < 16 := by have := (List.getElem?_eq_some_iff.1 hx).1; exact this
  have h2 := List.all_eq_true.1 h k (List.mem_range.2 hk)
  rw [hx] at h2
  exact h2
theorem allR_r {q : List Ins} (hq : AllR q) : AllR (rL q) := rights_all.1 (rights_app.2 ⟨rights_of recL_allR _ _, rights_of hq _ _⟩)
theorem rL_tree {q : List Ins} {n : Nat} (h4 : 13 ≤ n) (hq : ∀ x ∈ q, x.tree.length ≤ n) : ∀ x ∈ rL q, x.tree.length ≤ n := by
  have h : (recL.all fun x => decide (x.tree.length ≤ 13)) = true := by kernel_rfl
  intro x hx
  rcases List.mem_append.1 hx with hx | hx
  · have := of_decide_eq_true (List.all_eq_true.1 h x hx); omega
  · exact hq x hx
/-- the program is valid, and so is its code -/
def CodedP (ps : List Ins) : Prop := FitsP ps ∧ (enc (codes ps)).length ≤ 2000000
def KnowsP (q : List Ins) : Prop := CodedP (rL q) ∧ CodedP (knowL q)
theorem code_vld {ps : List Ins} (h : PValid ps) (hl : (enc (codes ps)).length ≤ 2000000) : vld (enc (codes ps)) = true := vld_enc (codes_vld h hl) hl
theorem yl_vld {q : List Ins} (h1 : PValid (rL q)) (h2 : (yL q).length ≤ 2000000) : vld (yL q) = true := code_vld h1 h2
open Classical in
/-- the error that Know is to return -/
noncomputable def knowDue (q : List Ins) : Int := if PValid q then (if KnowsP q then 0 else 3) else 1
/-- what is returned with an error, and without -/
def resL (d : Int) (cs : List Ins) : List Ins := if d = 0 then cs else []
def ROwn (w : World) (d : Int) (cs : List Ins) (e : Ending) (w' : World) : Prop :=
  Below w.heap.size w w' ∧ ∃ v, e = .returned (.tuple #[v, .int .i64 d]) ∧ OwnP w' w.heap.size v (resL d cs)
theorem knowDue_form {q : List Ins} (h : ¬ PValid q) : knowDue q = 1 := if_neg h
theorem knowDue_ok {q : List Ins} (h : PValid q) (h2 : KnowsP q) : knowDue q = 0 := by unfold knowDue; rw [if_pos h, if_pos h2]
theorem knowDue_size {q : List Ins} (h : PValid q) (h2 : ¬ KnowsP q) : knowDue q = 3 := by unfold knowDue; rw [if_pos h, if_neg h2]
theorem rown_no {w w' : World} {d : Int} {cs : List Ins} (hd : d ≠ 0) (hb : Below w.heap.size w w') : ROwn w d cs (.returned (.tuple #[.slice none 0 0, .int .i64 d])) w' := by
  refine ⟨hb, _, rfl, ?_⟩
  unfold resL
  rw [if_neg hd]
  exact own_nilP _ _
theorem rown_yes {w w' : World} {v : Value} {cs : List Ins} (hb : Below w.heap.size w w') (ho : OwnP w' w.heap.size v cs) : ROwn w 0 cs (.returned (.tuple #[v, .int .i64 0])) w' := ⟨hb, v, rfl, ho⟩
set_option maxHeartbeats 1600000 in
set_option maxRecDepth 100000 in
theorem recog_any (w : World) :
    Calls Tryz.prog 61 #[] w fun e w' => ∃ v, e = .returned v ∧ w'.ownsRow (w.heap.size + 1) 64 5 v 16 (progV recL) ∧ Below w.heap.size w w' := by
  have HW0 := Lib.hid (wr_new w)
  generalize hX : w.heap.size = X at *
  have HB0 : Hid (Below X w (w.alloc (.cells #[.slice none 0 0] 77))) := Lib.hid (by rw [← hX]; exact alloc_belowW _ _)
  have HX := Lib.hid hX
  clear hX
  go_enter Tryz.func61, Tryz.ntmps61
  go_wp2_with fail
  rw [HX.out]
  refine (whead_any _ X (X + 1) (.slice none 0 0) [] 2 0 HW0.out (by simp)).mono ?_
  rintro e w1 ⟨rfl, v1, hw1, hf1⟩
  have HW1 : Hid (WrAt w1 X (X + 1) v1 [headI 2 0]) := Lib.hid hw1
  have HB1 := Lib.hid (HB0.out.trans (hf1.below (Nat.le_refl _) (fun g hg => by cases hg) (by simp [HX.out])))
  clear hw1 hf1
  go_wp2_with fail
  refine (wtail_any _ X (X + 1) v1 [headI 2 0] 3 0 HW1.out (by simp)).mono ?_
  rintro e w2 ⟨rfl, v2, hw2, hf2⟩
  have HW2 : Hid (WrAt w2 X (X + 1) v2 [headI 2 0, tailI 3 0]) := Lib.hid hw2
  have HB2 := Lib.hid (HB1.out.trans (hf2.below (Nat.le_refl _) (fun g hg => by have := (HW1.out.own.lt g hg).1; omega) (by have := HB1.out.size; rw [HX.out] at this; exact this)))
  clear hw2 hf2
  go_wp2_with fail
  refine (wset_any _ X (X + 1) v2 [headI 2 0, tailI 3 0] 4 [49, 48, 48] HW2.out (by simp) (by decide)).mono ?_
  rintro e w3 ⟨rfl, v3, hw3, hf3⟩
  have HW3 : Hid (WrAt w3 X (X + 1) v3 [headI 2 0, tailI 3 0, setI 4 [49, 48, 48]]) := Lib.hid hw3
  have HB3 := Lib.hid (HB2.out.trans (hf3.below (Nat.le_refl _) (fun g hg => by have := (HW2.out.own.lt g hg).1; omega) (by have := HB2.out.size; rw [HX.out] at this; exact this)))
  clear hw3 hf3
  go_wp2_with fail
  refine (wcons_any _ X (X + 1) v3 [headI 2 0, tailI 3 0, setI 4 [49, 48, 48]] 4 4 2 HW3.out (by simp)).mono ?_
  rintro e w4 ⟨rfl, v4, hw4, hf4⟩
  have HW4 : Hid (WrAt w4 X (X + 1) v4 [headI 2 0, tailI 3 0, setI 4 [49, 48, 48], consI 4 4 2]) := Lib.hid hw4
  have HB4 := Lib.hid (HB3.out.trans (hf4.below (Nat.le_refl _) (fun g hg => by have := (HW3.out.own.lt g hg).1; omega) (by have := HB3.out.size; rw [HX.out] at this; exact this)))
  clear hw4 hf4
  go_wp2_with fail
  refine (wcons_any _ X (X + 1) v4 [headI 2 0, tailI 3 0, setI 4 [49, 48, 48], consI 4 4 2] 4 1 4 HW4.out (by simp)).mono ?_
  rintro e w5 ⟨rfl, v5, hw5, hf5⟩
  have HW5 : Hid (WrAt w5 X (X + 1) v5 [headI 2 0, tailI 3 0, setI 4 [49, 48, 48], consI 4 4 2, consI 4 1 4]) := Lib.hid hw5
  have HB5 := Lib.hid (HB4.out.trans (hf5.below (Nat.le_refl _) (fun g hg => by have := (HW4.out.own.lt g hg).1; omega) (by have := HB4.out.size; rw [HX.out] at this; exact this)))
  clear hw5 hf5
  go_wp2_with fail
  refine (wset_any _ X (X + 1) v5 [headI 2 0, tailI 3 0, setI 4 [49, 48, 48], consI 4 4 2, consI 4 1 4] 5 sec3 HW5.out (by simp) (by decide)).mono ?_
  rintro e w6 ⟨rfl, v6, hw6, hf6⟩
  have HW6 : Hid (WrAt w6 X (X + 1) v6 [headI 2 0, tailI 3 0, setI 4 [49, 48, 48], consI 4 4 2, consI 4 1 4, setI 5 sec3]) := Lib.hid hw6
  have HB6 := Lib.hid (HB5.out.trans (hf6.below (Nat.le_refl _) (fun g hg => by have := (HW5.out.own.lt g hg).1; omega) (by have := HB5.out.size; rw [HX.out] at this; exact this)))
  clear hw6 hf6
  go_wp2_with fail
  refine (wcons_any _ X (X + 1) v6 [headI 2 0, tailI 3 0, setI 4 [49, 48, 48], consI 4 4 2, consI 4 1 4, setI 5 sec3] 5 5 2 HW6.out (by simp)).mono ?_
  rintro e w7 ⟨rfl, v7, hw7, hf7⟩
  have HW7 : Hid (WrAt w7 X (X + 1) v7 [headI 2 0, tailI 3 0, setI 4 [49, 48, 48], consI 4 4 2, consI 4 1 4, setI 5 sec3, consI 5 5 2]) := Lib.hid hw7
  have HB7 := Lib.hid (HB6.out.trans (hf7.below (Nat.le_refl _) (fun g hg => by have := (HW6.out.own.lt g hg).1; omega) (by have := HB6.out.size; rw [HX.out] at this; exact this)))
  clear hw7 hf7
  go_wp2_with fail
  refine (wset_any _ X (X + 1) v7 [headI 2 0, tailI 3 0, setI 4 [49, 48, 48], consI 4 4 2, consI 4 1 4, setI 5 sec3, consI 5 5 2] 6 sec2 HW7.out (by simp) (by decide)).mono ?_
  rintro e w8 ⟨rfl, v8, hw8, hf8⟩
  have HW8 : Hid (WrAt w8 X (X + 1) v8 [headI 2 0, tailI 3 0, setI 4 [49, 48, 48], consI 4 4 2, consI 4 1 4, setI 5 sec3, consI 5 5 2, setI 6 sec2]) := Lib.hid hw8
  have HB8 := Lib.hid (HB7.out.trans (hf8.below (Nat.le_refl _) (fun g hg => by have := (HW7.out.own.lt g hg).1; omega) (by have := HB7.out.size; rw [HX.out] at this; exact this)))
  clear hw8 hf8
  go_wp2_with fail
  refine (wcons_any _ X (X + 1) v8 [headI 2 0, tailI 3 0, setI 4 [49, 48, 48], consI 4 4 2, consI 4 1 4, setI 5 sec3, consI 5 5 2, setI 6 sec2] 5 6 5 HW8.out (by simp)).mono ?_
  rintro e w9 ⟨rfl, v9, hw9, hf9⟩
  have HW9 : Hid (WrAt w9 X (X + 1) v9 [headI 2 0, tailI 3 0, setI 4 [49, 48, 48], consI 4 4 2, consI 4 1 4, setI 5 sec3, consI 5 5 2, setI 6 sec2, consI 5 6 5]) := Lib.hid hw9
  have HB9 := Lib.hid (HB8.out.trans (hf9.below (Nat.le_refl _) (fun g hg => by have := (HW8.out.own.lt g hg).1; omega) (by have := HB8.out.size; rw [HX.out] at this; exact this)))
  clear hw9 hf9
  go_wp2_with fail
  refine (wcons_any _ X (X + 1) v9 [headI 2 0, tailI 3 0, setI 4 [49, 48, 48], consI 4 4 2, consI 4 1 4, setI 5 sec3, consI 5 5 2, setI 6 sec2, consI 5 6 5] 5 4 5 HW9.out (by simp)).mono ?_
  rintro e w10 ⟨rfl, v10, hw10, hf10⟩
  have HW10 : Hid (WrAt w10 X (X + 1) v10 [headI 2 0, tailI 3 0, setI 4 [49, 48, 48], consI 4 4 2, consI 4 1 4, setI 5 sec3, consI 5 5 2, setI 6 sec2, consI 5 6 5, consI 5 4 5]) := Lib.hid hw10
  have HB10 := Lib.hid (HB9.out.trans (hf10.below (Nat.le_refl _) (fun g hg => by have := (HW9.out.own.lt g hg).1; omega) (by have := HB9.out.size; rw [HX.out] at this; exact this)))
  clear hw10 hf10
  go_wp2_with fail
  refine (wcons_any _ X (X + 1) v10 [headI 2 0, tailI 3 0, setI 4 [49, 48, 48], consI 4 4 2, consI 4 1 4, setI 5 sec3, consI 5 5 2, setI 6 sec2, consI 5 6 5, consI 5 4 5] 0 5 3 HW10.out (by simp)).mono ?_
  rintro e w11 ⟨rfl, v11, hw11, hf11⟩
  have HW11 : Hid (WrAt w11 X (X + 1) v11 [headI 2 0, tailI 3 0, setI 4 [49, 48, 48], consI 4 4 2, consI 4 1 4, setI 5 sec3, consI 5 5 2, setI 6 sec2, consI 5 6 5, consI 5 4 5, consI 0 5 3]) := Lib.hid hw11
  have HB11 := Lib.hid (HB10.out.trans (hf11.below (Nat.le_refl _) (fun g hg => by have := (HW10.out.own.lt g hg).1; omega) (by have := HB10.out.size; rw [HX.out] at this; exact this)))
  clear hw11 hf11
  go_wp2_with fail
  refine (Clear_any 2 5 6 (by decide) (by decide) (by decide) (by decide) _).mono ?_
  rintro e w12 ⟨v12, rfl, ho12, h12⟩
  have HW12 := Lib.hid (HW11.out.below h12)
  have HB12 := Lib.hid (HB11.out.trans (h12.mono (by have := HB11.out.size; rw [HX.out] at this; exact this)))
  have HO12 := Lib.hid ho12
  have HS11 := Lib.hid HW11.out.le
  have HL11 := Lib.hid (fun g hg => HW11.out.own.lt g hg)
  clear ho12 h12
  go_wp2_with fail
  refine (add_arg _ X (X + 1) v11 v12 recA (clearL 2 5) HW12.out HO12.out.arg (fun b _ hb => ?_) (by decide) (by decide)).mono ?_
  · have h9 := (HO12.out.lt b hb).1
    have h8 := HS11.out
    refine ⟨by omega, fun e => ?_⟩
    have := (HL11.out b e).2; omega
  rintro e w13 ⟨rfl, v13, hw13, hf13⟩
  have HB13 := Lib.hid (HB12.out.trans (hf13.below (Nat.le_refl _) (fun g hg => by have := (HW12.out.own.lt g hg).1; omega) (by have := HB12.out.size; rw [HX.out] at this; exact this)))
  have c13 : w13.cell? ⟨X, 0, none⟩ = some v13 := Lib.cell_of_heap hw13.mem 0
  have HO13 : Hid (w13.ownsRow (X + 1) 64 5 v13 16 (progV recL)) := Lib.hid hw13.own
  clear hw13 hf13
  go_wp2_with fail
  go_ret
  exact ⟨_, rfl, HO13.out, HB13.out⟩
end Go.Proofs.YtmhoacnbmbhcjaaGreatDoor
