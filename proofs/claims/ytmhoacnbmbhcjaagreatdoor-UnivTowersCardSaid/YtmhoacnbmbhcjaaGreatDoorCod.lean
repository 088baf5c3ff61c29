/- The reference's pair, CodeOf. By an AI agent. -/
import Derived.Test.YtmhoacnbmbhcjaaGreatDoorPrg
import Derived.Test.YtmhoacnbmbhcjaaGreatDoorLsts
import Derived.Deep.RegionLaw
import Derived.Deep.DrawnRows
namespace Go.Proofs.YtmhoacnbmbhcjaaGreatDoor
open Go.RowKit Pl

def pr (a b : List UInt8) : List UInt8 := 49 :: (a ++ b)
theorem pr_len (a b : List UInt8) : (pr a b).length = 1 + a.length + b.length := by simp [pr]; omega
set_option maxHeartbeats 400000 in
set_option maxRecDepth 100000 in
theorem pair_any (a b : List UInt8) (w : World) (hl : a.length + b.length ≤ 281474976710656) :
    Calls Tryz.prog 142 #[.string (S a), .string (S b)] w fun e w' => e = .returned (.string (S (pr a b))) ∧ w = w' := by
  have h : S (pr a b) = ⟨#[49]⟩ ++ S a ++ S b := by
    symm; refine S_inj ?_
    simp [pr]
  have H := Lib.hid h; clear h
  go_enter Tryz.func142, Tryz.ntmps142
  go_wp2
  go_ret
  exact ⟨ret_str H.out.symm, rfl⟩

theorem boxed {w w1 : World} {v0 v1 v2 v3 v4 : Value} {ty : TypeId} {fr : Nat × Nat} (h : Below (w.alloc (.cells #[v0, v1, v2, v3, v4] ty fr)).heap.size (w.alloc (.cells #[v0, v1, v2, v3, v4] ty fr)) w1) :
    w1.cell? ⟨w.heap.size, 0, none⟩ = some v0 ∧ w1.cell? ⟨w.heap.size, 1, none⟩ = some v1 ∧ w1.cell? ⟨w.heap.size, 2, none⟩ = some v2 ∧ w1.cell? ⟨w.heap.size, 3, none⟩ = some v3 ∧ w1.cell? ⟨w.heap.size, 4, none⟩ = some v4 := by
  have e : ∀ o, w1.cell? ⟨w.heap.size, o, none⟩ = (w.alloc (.cells #[v0, v1, v2, v3, v4] ty fr)).cell? ⟨w.heap.size, o, none⟩ := fun o => h.cell (p := ⟨w.heap.size, o, none⟩) (by simp)
  rw [e, e, e, e, e]
  simp only [World.cell?, heap_alloc_new]
  exact ⟨rfl, rfl, rfl, rfl, rfl⟩

theorem keep2 {W w1 : World} {B : Nat} {u v : Value} (h : Below W.heap.size W w1) (hB : B < W.heap.size) (hc : W.cell? ⟨B, 2, none⟩ = some u ∧ W.cell? ⟨B, 3, none⟩ = some v) :
    w1.cell? ⟨B, 2, none⟩ = some u ∧ w1.cell? ⟨B, 3, none⟩ = some v := ⟨by rw [h.cell (p := ⟨B, 2, none⟩) hB]; exact hc.1, by rw [h.cell (p := ⟨B, 3, none⟩) hB]; exact hc.2⟩

/-- the second part of an instruction's code -/
def body (x : Ins) : List UInt8 :=
  if x.op = 0 then pr (num x.a.toNat) x.tree
  else if x.op = 2 then pr (num x.a.toNat) (pr (num x.b.toNat) (num x.c.toNat))
  else if x.op = 5 then (if x.b < 0 then pr (num x.a.toNat) (pr [49, 48, 48] (num (-x.b).toNat)) else pr (num x.a.toNat) (pr [48] (num x.b.toNat)))
  else pr (num x.a.toNat) (num x.b.toNat)
def codeOf (x : Ins) : List UInt8 := pr (num x.op.toNat) (body x)

set_option maxHeartbeats 1600000 in
set_option maxRecDepth 100000 in
theorem CodeOf_set (a : Nat) (b c : Int) (t : List UInt8) (w : World) (ha : a ≤ 999999) (hl : t.length ≤ 2000000) :
    Calls Tryz.prog 91 #[.agg #[.int .i64 0, .int .i64 a, .int .i64 b, .int .i64 c, .string (S t)]] w fun e w' => e = .returned (.string (S (pr (num 0) (pr (num a) t)))) ∧ Below w.heap.size w w' := by
  have hz := num_len a; have hz0 := num_len 0
  have HP := Lib.hid (fun W => pair_any (num a) t W (by omega))
  have HQ := Lib.hid (fun W => pair_any (num 0) (pr (num a) t) W (by rw [pr_len]; omega))
  have HA := Lib.hid (fun W => rNumber_yes a W ha)
  clear hz hz0 ha hl
  have H0 : Hid (∀ W : World, Calls Tryz.prog 92 #[.int .i64 0] W fun e w' => e = .returned (.string (S (num 0))) ∧ Below W.heap.size W w') := Lib.hid (fun W => rNumber_yes 0 W (by omega))
  go_enter Tryz.func91, Tryz.ntmps91
  go_wp2_with fail
  refine (HA.out _).mono ?_
  rintro e w1 ⟨rfl, h1⟩
  obtain ⟨c0, c1, c2, c3, c4⟩ := boxed h1
  go_wp2_with fail
  refine (HP.out _).mono ?_
  rintro e w2 ⟨rfl, rfl⟩
  go_wp2_with fail
  refine (H0.out _).mono ?_
  rintro e w3 ⟨rfl, h3⟩
  go_wp2_with fail
  refine (HQ.out _).mono ?_
  rintro e w4 ⟨rfl, rfl⟩
  go_wp2_with fail
  go_ret
  exact ⟨rfl, bstep (bstep ((Below.refl _ _).alloc (Nat.le_refl _) _) h1) h3⟩
set_option maxHeartbeats 1600000 in
set_option maxRecDepth 100000 in
theorem CodeOf_move (a b : Nat) (c : Int) (t : List UInt8) (w : World) (ha : a ≤ 999999) (hb : b ≤ 999999) :
    Calls Tryz.prog 91 #[.agg #[.int .i64 1, .int .i64 a, .int .i64 b, .int .i64 c, .string (S t)]] w fun e w' => e = .returned (.string (S (pr (num 1) (pr (num a) (num b))))) ∧ Below w.heap.size w w' := by
  have hz := num_len a; have hz0 := num_len 1; have hzb := num_len b
  have HP := Lib.hid (fun W => pair_any (num a) (num b) W (by omega))
  have HQ := Lib.hid (fun W => pair_any (num 1) (pr (num a) (num b)) W (by rw [pr_len]; omega))
  have HA := Lib.hid (fun W => rNumber_yes a W ha)
  have HB := Lib.hid (fun W => rNumber_yes b W hb)
  clear hz hz0 hzb ha hb
  have H0 : Hid (∀ W : World, Calls Tryz.prog 92 #[.int .i64 1] W fun e w' => e = .returned (.string (S (num 1))) ∧ Below W.heap.size W w') := Lib.hid (fun W => rNumber_yes 1 W (by omega))
  go_enter Tryz.func91, Tryz.ntmps91
  go_wp2_with fail
  refine (HA.out _).mono ?_
  rintro e w1 ⟨rfl, h1⟩
  have hs1 := h1.size
  obtain ⟨c0, c1, c2, c3, c4⟩ := boxed h1
  go_wp2_with fail
  refine (HB.out _).mono ?_
  rintro e w2 ⟨rfl, h2⟩
  have h12 := h1.trans (h2.mono hs1)
  clear c0 c1 c2 c3 c4
  obtain ⟨c0, c1, c2, c3, c4⟩ := boxed h12
  go_wp2_with fail
  refine (HP.out _).mono ?_
  rintro e w2 ⟨rfl, rfl⟩
  go_wp2_with fail
  refine (H0.out _).mono ?_
  rintro e w3 ⟨rfl, h3⟩
  go_wp2_with fail
  refine (HQ.out _).mono ?_
  rintro e w4 ⟨rfl, rfl⟩
  go_wp2_with fail
  go_ret
  exact ⟨rfl, bstep (bstep (bstep ((Below.refl _ _).alloc (Nat.le_refl _) _) h1) h2) h3⟩
set_option maxHeartbeats 1600000 in
set_option maxRecDepth 100000 in
theorem CodeOf_head (a b : Nat) (c : Int) (t : List UInt8) (w : World) (ha : a ≤ 999999) (hb : b ≤ 999999) :
    Calls Tryz.prog 91 #[.agg #[.int .i64 3, .int .i64 a, .int .i64 b, .int .i64 c, .string (S t)]] w fun e w' => e = .returned (.string (S (pr (num 3) (pr (num a) (num b))))) ∧ Below w.heap.size w w' := by
  have hz := num_len a; have hz0 := num_len 3; have hzb := num_len b
  have HP := Lib.hid (fun W => pair_any (num a) (num b) W (by omega))
  have HQ := Lib.hid (fun W => pair_any (num 3) (pr (num a) (num b)) W (by rw [pr_len]; omega))
  have HA := Lib.hid (fun W => rNumber_yes a W ha)
  have HB := Lib.hid (fun W => rNumber_yes b W hb)
  clear hz hz0 hzb ha hb
  have H0 : Hid (∀ W : World, Calls Tryz.prog 92 #[.int .i64 3] W fun e w' => e = .returned (.string (S (num 3))) ∧ Below W.heap.size W w') := Lib.hid (fun W => rNumber_yes 3 W (by omega))
  go_enter Tryz.func91, Tryz.ntmps91
  go_wp2_with fail
  refine (HA.out _).mono ?_
  rintro e w1 ⟨rfl, h1⟩
  have hs1 := h1.size
  obtain ⟨c0, c1, c2, c3, c4⟩ := boxed h1
  go_wp2_with fail
  refine (HB.out _).mono ?_
  rintro e w2 ⟨rfl, h2⟩
  have h12 := h1.trans (h2.mono hs1)
  clear c0 c1 c2 c3 c4
  obtain ⟨c0, c1, c2, c3, c4⟩ := boxed h12
  go_wp2_with fail
  refine (HP.out _).mono ?_
  rintro e w2 ⟨rfl, rfl⟩
  go_wp2_with fail
  refine (H0.out _).mono ?_
  rintro e w3 ⟨rfl, h3⟩
  go_wp2_with fail
  refine (HQ.out _).mono ?_
  rintro e w4 ⟨rfl, rfl⟩
  go_wp2_with fail
  go_ret
  exact ⟨rfl, bstep (bstep (bstep ((Below.refl _ _).alloc (Nat.le_refl _) _) h1) h2) h3⟩
set_option maxHeartbeats 1600000 in
set_option maxRecDepth 100000 in
theorem CodeOf_tail (a b : Nat) (c : Int) (t : List UInt8) (w : World) (ha : a ≤ 999999) (hb : b ≤ 999999) :
    Calls Tryz.prog 91 #[.agg #[.int .i64 4, .int .i64 a, .int .i64 b, .int .i64 c, .string (S t)]] w fun e w' => e = .returned (.string (S (pr (num 4) (pr (num a) (num b))))) ∧ Below w.heap.size w w' := by
  have hz := num_len a; have hz0 := num_len 4; have hzb := num_len b
  have HP := Lib.hid (fun W => pair_any (num a) (num b) W (by omega))
  have HQ := Lib.hid (fun W => pair_any (num 4) (pr (num a) (num b)) W (by rw [pr_len]; omega))
  have HA := Lib.hid (fun W => rNumber_yes a W ha)
  have HB := Lib.hid (fun W => rNumber_yes b W hb)
  clear hz hz0 hzb ha hb
  have H0 : Hid (∀ W : World, Calls Tryz.prog 92 #[.int .i64 4] W fun e w' => e = .returned (.string (S (num 4))) ∧ Below W.heap.size W w') := Lib.hid (fun W => rNumber_yes 4 W (by omega))
  go_enter Tryz.func91, Tryz.ntmps91
  go_wp2_with fail
  refine (HA.out _).mono ?_
  rintro e w1 ⟨rfl, h1⟩
  have hs1 := h1.size
  obtain ⟨c0, c1, c2, c3, c4⟩ := boxed h1
  go_wp2_with fail
  refine (HB.out _).mono ?_
  rintro e w2 ⟨rfl, h2⟩
  have h12 := h1.trans (h2.mono hs1)
  clear c0 c1 c2 c3 c4
  obtain ⟨c0, c1, c2, c3, c4⟩ := boxed h12
  go_wp2_with fail
  refine (HP.out _).mono ?_
  rintro e w2 ⟨rfl, rfl⟩
  go_wp2_with fail
  refine (H0.out _).mono ?_
  rintro e w3 ⟨rfl, h3⟩
  go_wp2_with fail
  refine (HQ.out _).mono ?_
  rintro e w4 ⟨rfl, rfl⟩
  go_wp2_with fail
  go_ret
  exact ⟨rfl, bstep (bstep (bstep ((Below.refl _ _).alloc (Nat.le_refl _) _) h1) h2) h3⟩
set_option maxHeartbeats 3200000 in
set_option maxRecDepth 100000 in
theorem CodeOf_cons (a b c : Nat) (t : List UInt8) (w : World) (ha : a ≤ 999999) (hb : b ≤ 999999) (hc : c ≤ 999999) :
    Calls Tryz.prog 91 #[.agg #[.int .i64 2, .int .i64 a, .int .i64 b, .int .i64 c, .string (S t)]] w fun e w' => e = .returned (.string (S (pr (num 2) (pr (num a) (pr (num b) (num c)))))) ∧ Below w.heap.size w w' := by
  have hz := num_len a; have hz0 := num_len 2; have hzb := num_len b; have hzc := num_len c
  have HP := Lib.hid (fun W => pair_any (num b) (num c) W (by omega))
  have HR := Lib.hid (fun W => pair_any (num a) (pr (num b) (num c)) W (by rw [pr_len]; omega))
  have HQ := Lib.hid (fun W => pair_any (num 2) (pr (num a) (pr (num b) (num c))) W (by rw [pr_len, pr_len]; omega))
  have HA := Lib.hid (fun W => rNumber_yes a W ha)
  have HB := Lib.hid (fun W => rNumber_yes b W hb)
  have HC := Lib.hid (fun W => rNumber_yes c W hc)
  clear hz hz0 hzb hzc ha hb hc
  have H0 : Hid (∀ W : World, Calls Tryz.prog 92 #[.int .i64 2] W fun e w' => e = .returned (.string (S (num 2))) ∧ Below W.heap.size W w') := Lib.hid (fun W => rNumber_yes 2 W (by omega))
  go_enter Tryz.func91, Tryz.ntmps91
  go_wp2_with fail
  refine (HA.out _).mono ?_
  rintro e w1 ⟨rfl, h1⟩
  have hs1 := h1.size
  obtain ⟨c0, c1, c2, c3, c4⟩ := boxed h1
  have hlt1 : w.heap.size < w1.heap.size := by have := h1.size; simp at this; omega
  go_wp2_with fail
  go_region_held3 (fun w' => w'.cell? ⟨w.heap.size, 2, none⟩ = some (.int .i64 (b : Int)) ∧ w'.cell? ⟨w.heap.size, 3, none⟩ = some (.int .i64 (c : Int)))
    (first
      | go_keep
      | exact keep2 h2 (by exact hlt1) (by assumption)
      | exact keep2 h3 (by exact Nat.lt_of_lt_of_le hlt1 h2.size) (by assumption)
      | assumption)
    (first
      | (go_at_call 92; (with_reducible refine (HB.out _).mono ?_); rintro e w2 ⟨rfl, h2⟩)
      | (go_at_call 92; (with_reducible refine (HC.out _).mono ?_); rintro e w3 ⟨rfl, h3⟩)
      | (go_at_call 142; (with_reducible refine (HP.out _).mono ?_); rintro e w4 ⟨rfl, rfl⟩)
      | (go_at_call 142; (with_reducible refine (HR.out _).mono ?_); rintro e w5 ⟨rfl, rfl⟩))
  have h2' : Below w1.heap.size w1 w2 := ((Below.refl _ w1).drew).trans h2
  have h23 := bstep h2' h3
  have h13 := h1.trans (h23.mono hs1)
  have c0' := (boxed h13).1
  clear c0 c1 c2 c3 c4
  go_wp2_with fail
  refine (H0.out _).mono ?_
  rintro e w6 ⟨rfl, h6⟩
  go_wp2_with fail
  refine (HQ.out _).mono ?_
  rintro e w7 ⟨rfl, rfl⟩
  go_wp2_with fail
  go_ret
  exact ⟨rfl, bstep (bstep (bstep ((Below.refl _ _).alloc (Nat.le_refl _) _) h1) h23) h6⟩
set_option maxHeartbeats 1600000 in
set_option maxRecDepth 100000 in
theorem CodeOf_fore (a b : Nat) (c : Int) (t : List UInt8) (w : World) (ha : a ≤ 999999) (hb : b ≤ 999999) :
    Calls Tryz.prog 91 #[.agg #[.int .i64 5, .int .i64 a, .int .i64 b, .int .i64 c, .string (S t)]] w fun e w' => e = .returned (.string (S (pr (num 5) (pr (num a) (pr [48] (num b)))))) ∧ Below w.heap.size w w' := by
  have hz := num_len a; have hz0 := num_len 5; have hzb := num_len b
  have HP := Lib.hid (fun W => pair_any [48] (num b) W (by simp; omega))
  have HR := Lib.hid (fun W => pair_any (num a) (pr [48] (num b)) W (by rw [pr_len]; simp; omega))
  have HQ := Lib.hid (fun W => pair_any (num 5) (pr (num a) (pr [48] (num b))) W (by rw [pr_len, pr_len]; simp; omega))
  have HA := Lib.hid (fun W => rNumber_yes a W ha)
  have HB := Lib.hid (fun W => rNumber_yes b W hb)
  have H0 : Hid (∀ W : World, Calls Tryz.prog 92 #[.int .i64 5] W fun e w' => e = .returned (.string (S (num 5))) ∧ Below W.heap.size W w') := Lib.hid (fun W => rNumber_yes 5 W (by omega))
  clear hz hz0 hzb ha
  have hmax : max (b : Int) 0 = (b : Int) := by omega
  have hneg : (decide ((b : Int) < 0)) = false := by rw [decide_eq_false_iff_not]; omega
  have hnn : (0 : Int) ≤ (b : Int) := by omega
  go_enter Tryz.func91, Tryz.ntmps91
  go_wp2_with fail
  refine (HA.out _).mono ?_
  rintro e w1 ⟨rfl, h1⟩
  have hs1 := h1.size
  obtain ⟨c0, c1, c2, c3, c4⟩ := boxed h1
  go_wp2_with fail
  (try rw [hmax])
  refine (HB.out _).mono ?_
  rintro e w2 ⟨rfl, h2⟩
  have h12 := h1.trans (h2.mono hs1)
  clear c0 c1 c2 c3 c4
  obtain ⟨c0, c1, c2, c3, c4⟩ := boxed h12
  go_wp2_with fail
  refine (HP.out _).mono ?_
  rintro e w2 ⟨rfl, rfl⟩
  go_wp2_with fail
  refine (HR.out _).mono ?_
  rintro e w2 ⟨rfl, rfl⟩
  go_wp2_with fail
  refine (H0.out _).mono ?_
  rintro e w3 ⟨rfl, h3⟩
  go_wp2_with fail
  refine (HQ.out _).mono ?_
  rintro e w4 ⟨rfl, rfl⟩
  go_wp2_with fail
  go_ret
  exact ⟨rfl, bstep (bstep (bstep ((Below.refl _ _).alloc (Nat.le_refl _) _) h1) h2) h3⟩
set_option maxHeartbeats 1600000 in
set_option maxRecDepth 100000 in
theorem CodeOf_back (a b : Nat) (c : Int) (t : List UInt8) (w : World) (ha : a ≤ 999999) (hb : b ≤ 999999) (hb0 : 0 < b) :
    Calls Tryz.prog 91 #[.agg #[.int .i64 5, .int .i64 a, .int .i64 (-(b : Int)), .int .i64 c, .string (S t)]] w fun e w' => e = .returned (.string (S (pr (num 5) (pr (num a) (pr [49, 48, 48] (num b)))))) ∧ Below w.heap.size w w' := by
  have hz := num_len a; have hz0 := num_len 5; have hzb := num_len b
  have HO := Lib.hid (fun W => pair_any [48] (num 0) W (by simp [num_len]))
  have HO2 := Lib.hid (fun W => pair_any (num a) (pr [48] (num 0)) W (by rw [pr_len, num_len 0]; simp; omega))
  have HP := Lib.hid (fun W => pair_any [49, 48, 48] (num b) W (by simp; omega))
  have HR := Lib.hid (fun W => pair_any (num a) (pr [49, 48, 48] (num b)) W (by rw [pr_len]; simp; omega))
  have HQ := Lib.hid (fun W => pair_any (num 5) (pr (num a) (pr [49, 48, 48] (num b))) W (by rw [pr_len, pr_len]; simp; omega))
  have HA := Lib.hid (fun W => rNumber_yes a W ha)
  have HB := Lib.hid (fun W => rNumber_yes b W hb)
  have HZ : Hid (∀ W : World, Calls Tryz.prog 92 #[.int .i64 0] W fun e w' => e = .returned (.string (S (num 0))) ∧ Below W.heap.size W w') := Lib.hid (fun W => rNumber_yes 0 W (by omega))
  have H0 : Hid (∀ W : World, Calls Tryz.prog 92 #[.int .i64 5] W fun e w' => e = .returned (.string (S (num 5))) ∧ Below W.heap.size W w') := Lib.hid (fun W => rNumber_yes 5 W (by omega))
  clear hz hz0 hzb ha
  have hmax : max (-(b : Int)) 0 = 0 := by omega
  have hneg : -(b : Int) < 0 := by omega
  have hdn : - -(b : Int) = (b : Int) := by omega
  go_enter Tryz.func91, Tryz.ntmps91
  go_wp2_with fail
  refine (HA.out _).mono ?_
  rintro e w1 ⟨rfl, h1⟩
  have hs1 := h1.size
  obtain ⟨c0, c1, c2, c3, c4⟩ := boxed h1
  go_wp2_with fail
  (try rw [hmax])
  refine (HZ.out _).mono ?_
  rintro e w2 ⟨rfl, h2⟩
  have h12 := h1.trans (h2.mono hs1)
  have hs2 := h12.size
  clear c0 c1 c2 c3 c4
  obtain ⟨c0, c1, c2, c3, c4⟩ := boxed h12
  go_wp2_with fail
  refine (HO.out _).mono ?_
  rintro e w2 ⟨rfl, rfl⟩
  go_wp2_with fail
  refine (HO2.out _).mono ?_
  rintro e w2 ⟨rfl, rfl⟩
  go_wp2_with fail
  (try rw [hdn])
  refine (HB.out _).mono ?_
  rintro e w3 ⟨rfl, h3⟩
  have h13 := h12.trans (h3.mono hs2)
  clear c0 c1 c2 c3 c4
  obtain ⟨c0, c1, c2, c3, c4⟩ := boxed h13
  go_wp2_with fail
  refine (HP.out _).mono ?_
  rintro e w4 ⟨rfl, rfl⟩
  go_wp2_with fail
  refine (HR.out _).mono ?_
  rintro e w4 ⟨rfl, rfl⟩
  go_wp2_with fail
  refine (H0.out _).mono ?_
  rintro e w5 ⟨rfl, h5⟩
  go_wp2_with fail
  refine (HQ.out _).mono ?_
  rintro e w6 ⟨rfl, rfl⟩
  go_wp2_with fail
  go_ret
  exact ⟨rfl, bstep (bstep (bstep (bstep ((Below.refl _ _).alloc (Nat.le_refl _) _) h1) h2) h3) h5⟩
end Go.Proofs.YtmhoacnbmbhcjaaGreatDoor

namespace Go.Proofs.YtmhoacnbmbhcjaaGreatDoor.Pl

/-- the first n elements of a list, and what is behind them -/
def firsts : Nat → List UInt8 → List (List UInt8)
  | 0, _ => []
  | n + 1, l => if l = [48] then [] else hd l :: firsts n (tl l)
def after : Nat → List UInt8 → List UInt8
  | 0, l => l
  | n + 1, l => if l = [48] then l else after n (tl l)
theorem firsts_nil (n : Nat) : firsts n [48] = [] := by cases n <;> simp [firsts]
theorem after_nil (n : Nat) : after n [48] = [48] := by cases n <;> simp [after]
theorem firsts_one {l : List UInt8} (h : l ≠ [48]) : firsts 1 l = [hd l] := by simp [firsts, h]
theorem after_one {l : List UInt8} (h : l ≠ [48]) : after 1 l = tl l := by simp [after, h]
theorem firsts_add (a : Nat) : ∀ (b : Nat) (l : List UInt8), firsts (a + b) l = firsts a l ++ firsts b (after a l) := by
  induction a with
  | zero => intro b l; rw [Nat.zero_add]; rfl
  | succ a ih =>
    intro b l
    rw [show a + 1 + b = (a + b) + 1 from by omega]
    by_cases h : l = [48]
    · subst h; rw [firsts_nil, firsts_nil, after_nil, firsts_nil]; rfl
    · simp only [firsts, after, if_neg h, ih b (tl l), List.cons_append]
theorem after_add (a : Nat) : ∀ (b : Nat) (l : List UInt8), after (a + b) l = after b (after a l) := by
  induction a with
  | zero => intro b l; rw [Nat.zero_add]; rfl
  | succ a ih =>
    intro b l
    rw [show a + 1 + b = (a + b) + 1 from by omega]
    by_cases h : l = [48]
    · subst h; rw [after_nil, after_nil, after_nil]
    · simp only [after, if_neg h, ih b (tl l)]
theorem vld_after (n : Nat) : ∀ {l : List UInt8}, vld l = true → vld (after n l) = true := by
  induction n with
  | zero => intro l h; exact h
  | succ n ih =>
    intro l h
    by_cases h0 : l = [48]
    · subst h0; rw [after_nil]; exact h
    · simp only [after, if_neg h0]; exact ih (vld_hd h).2
theorem firsts_valid (n : Nat) : ∀ {l : List UInt8}, vld l = true → ∀ x, x ∈ firsts n l → vld x = true := by
  induction n with
  | zero => intro l _ x hx; simp [firsts] at hx
  | succ n ih =>
    intro l h x hx
    by_cases h0 : l = [48]
    · subst h0; rw [firsts_nil] at hx; simp at hx
    · simp only [firsts, if_neg h0] at hx
      rcases List.mem_cons.1 hx with rfl | hx
      · exact (vld_hd h).1
      · exact ih (vld_hd h).2 x hx
theorem vld_pos {l : List UInt8} (h : vld l = true) : 1 ≤ l.length := fs_ge (vld_iff.1 h).2
theorem len_pair {l : List UInt8} (h : vld l = true) (hn : l ≠ [48]) : l.length = 1 + (hd l).length + (tl l).length ∧ 1 ≤ (hd l).length ∧ 1 ≤ (tl l).length := by
  obtain ⟨h1, h2, h3⟩ := cons_hd_tl h hn
  have := congrArg List.length h1
  simp only [List.length_cons, List.length_append] at this
  exact ⟨by omega, vld_pos h2, vld_pos h3⟩
theorem one_is {l : List UInt8} (h : vld l = true) (hl : l.length ≤ 1) : l = [48] := by
  by_cases hn : l = [48]
  · exact hn
  · have := len_pair h hn; omega
theorem enc_firsts (n : Nat) : ∀ {l : List UInt8}, vld l = true → l.length ≤ 2 * n + 1 → enc (firsts n l) = l ∧ after n l = [48] := by
  induction n with
  | zero => intro l h hl; rw [one_is h (by omega)]; exact ⟨rfl, rfl⟩
  | succ n ih =>
    intro l h hl
    by_cases h0 : l = [48]
    · subst h0; rw [firsts_nil, after_nil]; exact ⟨rfl, rfl⟩
    · have hp := len_pair h h0
      obtain ⟨h1, h2⟩ := ih (vld_hd h).2 (by omega)
      simp only [firsts, after, if_neg h0, enc, h1, h2]
      exact ⟨(cons_hd_tl h h0).1, trivial⟩
theorem firsts_more {n : Nat} (k : Nat) {l : List UInt8} (h : vld l = true) (hl : l.length ≤ 2 * n + 1) : firsts (n + k) l = firsts n l := by
  rw [firsts_add, (enc_firsts n h hl).2, firsts_nil, List.append_nil]

/-- the elements of a tree -/
def itemsOf (l : List UInt8) : List (List UInt8) := firsts (l.length / 2) l
theorem items_enc {l : List UInt8} (h : vld l = true) : enc (itemsOf l) = l := (enc_firsts (l.length / 2) h (by omega)).1
theorem items_valid {l : List UInt8} (h : vld l = true) : ∀ x, x ∈ itemsOf l → vld x = true := firsts_valid _ h
theorem items_nil : itemsOf [48] = [] := rfl
theorem items_cons {l : List UInt8} (h : vld l = true) (hn : l ≠ [48]) : itemsOf l = hd l :: itemsOf (tl l) := by
  have hp := len_pair h hn
  have ht := (vld_hd h).2
  unfold itemsOf
  obtain ⟨n, hn2⟩ : ∃ n, l.length / 2 = n + 1 := ⟨l.length / 2 - 1, by omega⟩
  rw [hn2]
  simp only [firsts, if_neg hn]
  have h1 : firsts n (tl l) = firsts ((tl l).length / 2) (tl l) := by
    have := firsts_more (n := (tl l).length / 2) (n - (tl l).length / 2) ht (by omega)
    rwa [show (tl l).length / 2 + (n - (tl l).length / 2) = n from by omega] at this
  rw [h1]
theorem items_len (n : Nat) : ∀ {l : List UInt8}, (firsts n l).length ≤ n := by
  induction n with
  | zero => intro l; simp [firsts]
  | succ n ih =>
    intro l
    by_cases h : l = [48]
    · subst h; rw [firsts_nil]; simp
    · simp only [firsts, if_neg h, List.length_cons]; have := ih (l := tl l); omega
theorem items_of_enc : ∀ {ls : List (List UInt8)}, (∀ l, l ∈ ls → vld l = true) → (enc ls).length ≤ 2000000 → itemsOf (enc ls) = ls
  | [], _, _ => rfl
  | l :: r, h, hz => by
    have h1 := h l (by simp)
    have h2 : ∀ x, x ∈ r → vld x = true := fun x hx => h x (by simp [hx])
    have hz2 : (enc r).length ≤ 2000000 := by simp only [enc, List.length_cons, List.length_append] at hz; omega
    have hv := vld_enc h hz
    have hp := hd_cons (a := l) (b := enc r) h1
    have hn : enc (l :: r) ≠ [48] := by simp [enc]
    rw [items_cons hv hn]
    show hd (49 :: (l ++ enc r)) :: itemsOf (tl (49 :: (l ++ enc r))) = _
    rw [hp.1, hp.2, items_of_enc h2 hz2]
end Go.Proofs.YtmhoacnbmbhcjaaGreatDoor.Pl

namespace Go.Proofs.YtmhoacnbmbhcjaaGreatDoor
open Go.RowKit Pl

theorem strsV_snoc (a : List (List UInt8)) (x : List UInt8) : strsV (a ++ [x]) = strsV a ++ [.string (S x)] := by simp [strsV]
theorem strsV_app (a b : List (List UInt8)) : strsV (a ++ b) = strsV a ++ strsV b := by simp [strsV]

/-! the reference -/
theorem byte_at {s : ByteArray} {pos : Nat} (hp : pos < s.size) (hv : vld (s.data.toList.drop pos) = true) :
    (s.data.toList.drop pos = [48] ∧ s[pos] = 48) ∨ (s.data.toList.drop pos ≠ [48] ∧ s[pos] = 49) := by
  have hl : pos < s.data.toList.length := by rw [len_eq]; exact hp
  have hd : s.data.toList.drop pos = s[pos] :: s.data.toList.drop (pos + 1) := drop_cons hl
  by_cases h0 : s.data.toList.drop pos = [48]
  · rw [h0] at hd; exact Or.inl ⟨h0, by injection hd with h1 _; exact h1.symm⟩
  · obtain ⟨e, _, h2, _⟩ := vld_pair hv h0
    rw [hd] at h2
    injection h2 with h3 _
    exact Or.inr ⟨h0, h3⟩

set_option maxHeartbeats 1600000 in
set_option maxRecDepth 100000 in
theorem rItems_yes (s : ByteArray) (w : World) (hv : vld s.data.toList = true) :
    Calls Tryz.prog 82 #[.string s] w fun e w' => ∃ v, e = .returned v ∧ w'.ownsRow w.heap.size 9 1 v (itemsOf s.data.toList).length (strsV (itemsOf s.data.toList)) ∧ Below w.heap.size w w' := by
  obtain ⟨i0, hi, hz0, hz1, hz2⟩ := info_parts Tryz.infoStr
  have hs := vld_size hv
  have hv0 : vld (s.data.toList.drop 0) = true := by rw [List.drop_zero]; exact hv
  have HV := Lib.hid hv0; clear hv0
  go_enter Tryz.func82, Tryz.ntmps82
  go_wp2
  go_loopw [3, 4] (fun v i wr => ∃ (k : Nat) (acc : List (List UInt8)), k < s.size ∧ i = .int .i64 k ∧ Hid (vld (s.data.toList.drop k) = true) ∧ acc.length ≤ k ∧ Hid (acc ++ itemsOf (s.data.toList.drop k) = itemsOf s.data.toList) ∧ wr.ownsRow w.heap.size 9 1 v acc.length (strsV acc) ∧ Below w.heap.size w wr) (fun _ i _ => s.size - (intOf i).toNat)
  case atStart => exact ⟨0, [], by have := vld_pos hv; rw [len_eq] at this; omega, rfl, HV, by simp, Lib.hid (by rw [List.drop_zero]; rfl), World.ownsRow_nil _ _ _ _, Below.refl _ _⟩
  case round =>
    obtain ⟨k, acc, hk, rfl, hvk, hak, hacc, hown, hbw⟩ := hrel
    have hsz := hbw.size
    rcases byte_at hk hvk.out with ⟨hd0, hb0⟩ | ⟨hd0, hb1⟩
    · have ho : wr.ownsRow w.heap.size 9 1 u3 (itemsOf s.data.toList).length (strsV (itemsOf s.data.toList)) := by
        have := hacc.out
        rw [hd0, items_nil, List.append_nil] at this
        rw [← this]; exact hown
      have HO := Lib.hid ho
      clear ho hown hd0
      go_wp2
      go_ret
      exact ⟨_, rfl, HO.out, hbw⟩
    · obtain ⟨e, g1, _, _, _, g5, g6⟩ := vld_pair hvk.out hd0
      rw [List.length_drop, len_eq] at g5
      have hR : (s.data.toList.drop k).drop 1 = s.data.toList.drop (k + 1) := by rw [List.drop_drop]
      have hE : endAt s.data.toList (k + 1) = (k : Int) + 1 + (e : Int) := by unfold endAt; rw [← hR, g1]; simp
      have hc := fun W : World => End_any s (k + 1) W (by omega) (by omega)
      rw [hE] at hc
      have hc2 : ∀ W : World, Calls Tryz.prog 78 #[.string s, .int .i64 ((k : Int) + 1)] W fun x w' => x = .returned (.int .i64 ((k : Int) + 1 + (e : Int))) ∧ W = w' := hc
      have hH : S (hd (s.data.toList.drop k)) = s.extract (k + 1) (k + 1 + e) := by
        symm
        refine S_inj ?_
        rw [ex_list]
        unfold hd
        rw [if_neg hd0, sz_some g1, hR, List.drop_take]
        rw [show k + 1 + e - (k + 1) = e from by omega]
        simp
      have hT : tl (s.data.toList.drop k) = s.data.toList.drop (k + 1 + e) := by
        unfold tl
        rw [if_neg hd0, sz_some g1, hR, List.drop_drop]
        simp
      have hv2 := (vld_hd hvk.out).2
      have hit := items_cons hvk.out hd0
      rw [hT] at hv2 hit
      have ho : ∀ (w1 : World) (v : Value), w1.ownsRow w.heap.size 9 1 v (acc.length + 1) (strsV acc ++ [.string (s.extract (k + 1) (k + 1 + e))]) → w1.ownsRow w.heap.size 9 1 v (acc ++ [hd (s.data.toList.drop k)]).length (strsV (acc ++ [hd (s.data.toList.drop k)])) := by
        intro w1 v h
        rw [strsV_snoc, hH, List.length_append]
        exact h
      have ha2 := hacc.out
      rw [hit] at ha2
      have HA := Lib.hid ha2
      have HC := Lib.hid hc2; have HO := Lib.hid ho; have HV2 := Lib.hid hv2
      clear hc hc2 hE hR hH hT hv2 hit ho ha2 hd0 g1
      generalize hd (s.data.toList.drop k) = x at *
      have b1 : (k : Int) + 1 + (e : Int) ≤ (s.size : Int) := by omega
      have b0 : (0 : Int) ≤ (k : Int) + 1 := by omega
      have b2 : (k : Int) + 1 ≤ (k : Int) + 1 + (e : Int) := by omega
      have b3 : ((k : Int) + 1).toNat = k + 1 := by omega
      have b4 : ((k : Int) + 1 + (e : Int)).toNat = k + 1 + e := by omega
      go_wp2_with (first
        | (go_at_call 78; refine (HC.out _).mono ?_; rintro x1 w1 ⟨rfl, rfl⟩)
        | (at_builtin; refine wpList_append_own _ rfl _ _ 100 rfl w.heap.size 9 i0 (.string ⟨#[]⟩) 1 16 Tryz.underlying100 hi hz0 hz1 hz2 rfl (by decide) _ _ _ rfl (hown.alloc _) ⟨wr.heap.size, 0, none⟩ 1 1 [.string (s.extract (k + 1) (k + 1 + e))] rfl rfl ?c1 ?c2 ?c3 ?c4 ?c5 ?_))
      case c1 =>
        intro t u ht
        match t, ht with
        | 0, ht => simp at ht; subst ht; simp [Addr.add]
      case c2 => intro u hu; simp at hu; subst hu; rfl
      case c3 => unfold maxLen; omega
      case c4 => omega
      case c5 => simp; omega
      intro v' w1 hown' hgrow _
      have hb1' := app_below hbw hsz hown hgrow
      have HO2 := Lib.hid (HO.out _ _ hown')
      clear hown' hgrow hown hbw
      go_wp2
      go_roundw
      case rel => exact ⟨k + 1 + e, acc ++ [x], by omega, by go_num, HV2, by simp; omega, Lib.hid (by rw [List.append_assoc]; exact HA.out), HO2.out, hb1'⟩
      case measure => simp [intOf]; omega

theorem own_keep {w w1 : World} {base n : Nat} {e : TypeId} {size : Nat} {v : Value} {xs : List Value} (h : w.ownsRow base e size v n xs) (hb : Below w.heap.size w w1) : w1.ownsRow base e size v n xs :=
  h.kept (row := none) ⟨hb.os, hb.tape, hb.output, hb.size, fun k hk _ => hb.block k hk⟩ (by cases v.ownBlock <;> simp)

theorem far_cell {w w3 : World} {B : Nat} {v : Value} {ob : Option Nat} {o : Obj} (hg : (w.alloc o).grownBy w3 ob) (hB : B < w.heap.size) (hne : some B ≠ ob) (h1 : w.cell? ⟨B, 0, none⟩ = some v) : w3.cell? ⟨B, 0, none⟩ = some v := by
  rw [hg.cell_far _ (by simp; omega) hne, World.cell?_alloc_past _ _ _ hB]; exact h1
theorem far_frozen {w w3 : World} {B : Nat} {b : Bool} {ob : Option Nat} {o : Obj} (hg : (w.alloc o).grownBy w3 ob) (hB : B < w.heap.size) (hne : some B ≠ ob) (h1 : w.frozen? ⟨B, 0, none⟩ = b) : w3.frozen? ⟨B, 0, none⟩ = b := by
  rw [hg.frozen_far _ (by simp; omega) hne, World.frozen?_of_block (w := w) (Below.heap_alloc w o B hB)]; exact h1

/-! the function inside Items: what it captured lies in the blocks B (the list) and B + 1 (the function itself) -/
def CSt (B : Nat) (w : World) (acc : List (List UInt8)) : Prop :=
  ∃ v, w.cell? ⟨B, 0, none⟩ = some v ∧ w.frozen? ⟨B, 0, none⟩ = false ∧ w.ownsRow (B + 2) 9 1 v acc.length (strsV acc) ∧
    w.cell? ⟨B + 1, 0, none⟩ = some (.func (.func 153) #[] #[.pointer (some ⟨B, 0, none⟩), .pointer (some ⟨B + 1, 0, none⟩)]) ∧ B + 2 ≤ w.heap.size

theorem collect_close {B : Nat} {w w1 w2 w3 : World} {v : Value} {acc : List (List UInt8)} {x : List UInt8} {g cap : Nat} {o : Obj}
    (c3 : w.ownsRow (B + 2) 9 1 v acc.length (strsV acc))
    (c4 : w.cell? ⟨B + 1, 0, none⟩ = some (.func (.func 153) #[] #[.pointer (some ⟨B, 0, none⟩), .pointer (some ⟨B + 1, 0, none⟩)])) (c5 : B + 2 ≤ w.heap.size)
    (hb1 : Below w.heap.size w w1) (hb2 : Below w1.heap.size w1 w2) (hg : (w2.alloc o).grownBy w3 v.ownBlock)
    (e1 : w3.cell? ⟨B, 0, none⟩ = some v) (e2 : w3.frozen? ⟨B, 0, none⟩ = false)
    (hown : w3.ownsRow (B + 2) 9 1 (.slice (some ⟨g, 0, none⟩) (acc.length + 1) cap) (acc.length + 1) (strsV acc ++ [.string (S x)])) :
    CSt B (w3.setCell ⟨B, 0, none⟩ (.slice (some ⟨g, 0, none⟩) (acc.length + 1) cap)) (acc ++ [x]) ∧ Below B w (w3.setCell ⟨B, 0, none⟩ (.slice (some ⟨g, 0, none⟩) (acc.length + 1) cap)) := by
  have s1 := hb1.size
  have s2 := hb2.size
  have s3 := hg.size
  simp only [World.alloc, Array.size_push] at s3
  have hr : ∀ k, v.ownBlock = some k → B + 2 ≤ k := fun k h => (c3.lt k h).1
  have hne : some (B + 1) ≠ v.ownBlock := fun h => by have := hr _ h.symm; omega
  have f4 : w3.cell? ⟨B + 1, 0, none⟩ = some (.func (.func 153) #[] #[.pointer (some ⟨B, 0, none⟩), .pointer (some ⟨B + 1, 0, none⟩)]) := by
    rw [hg.cell_far ⟨B + 1, 0, none⟩ (by simp; omega) hne, World.cell?_alloc_past _ _ _ (by show B + 1 < _; omega), hb2.cell (p := ⟨B + 1, 0, none⟩) (by show B + 1 < _; omega), hb1.cell (p := ⟨B + 1, 0, none⟩) (by show B + 1 < _; omega)]
    exact c4
  have hb3 : Below B w w3 := (((hb1.mono (by omega)).trans (hb2.mono (by omega))).alloc (by omega) o).grown hg (by simp; omega) (fun k h => by have := hr k h; omega)
  refine ⟨⟨_, World.cell?_setCell_same _ _ _ e1, ?_, ?_, ?_, ?_⟩, hb3.setCell (Nat.le_refl _) _⟩
  · rw [World.frozen?_setCell]; exact e2
  · rw [strsV_snoc, List.length_append]
    exact ownsRow_setCell_below hown (by simp) _
  · rw [World.cell?_setCell_other _ _ _ _ (by simp)]; exact f4
  · simp; omega

set_option maxHeartbeats 1600000 in
set_option maxRecDepth 100000 in
theorem collect_end (B most : Nat) (acc : List (List UInt8)) (w : World) (hc : CSt B w acc) :
    Calls Tryz.prog 153 #[.string (S [48]), .int .i64 most, .pointer (some ⟨B, 0, none⟩), .pointer (some ⟨B + 1, 0, none⟩)] w fun e w' => e = .returned (.string (S (after most [48]))) ∧ CSt B w' (acc ++ firsts most [48]) ∧ Below B w w' := by
  rw [after_nil, firsts_nil, List.append_nil]
  have HC := Lib.hid hc; clear hc
  go_enter Tryz.func153, Tryz.ntmps153
  go_wp2_with fail
  go_ret
  exact ⟨rfl, HC.out, Below.refl _ _⟩

set_option maxHeartbeats 3200000 in
set_option maxRecDepth 100000 in
theorem collect_one (B : Nat) (rest : List UInt8) (acc : List (List UInt8)) (w : World) (hv : vld rest = true) (h0 : rest ≠ [48]) (ha : acc.length + 1 ≤ 2000000) (hc : CSt B w acc) :
    Calls Tryz.prog 153 #[.string (S rest), .int .i64 1, .pointer (some ⟨B, 0, none⟩), .pointer (some ⟨B + 1, 0, none⟩)] w fun e w' => e = .returned (.string (S (after 1 rest))) ∧ CSt B w' (acc ++ firsts 1 rest) ∧ Below B w w' := by
  obtain ⟨i0, hi, hz0, hz1, hz2⟩ := info_parts Tryz.infoStr
  rw [after_one h0, firsts_one h0]
  have hp : ∀ W : World, Calls Tryz.prog 154 #[.string (S rest)] W fun x w' => x = .returned (.tuple #[.string (S (hd rest)), .string (S (tl rest))]) ∧ Below W.heap.size W w' := fun W => parts_any (S rest) W hv
  have hl := (hd_le hv).1
  have hne : (rest == [48]) = false := beq_eq_false_iff_ne.2 h0
  obtain ⟨v, c1, c2, c3, c4, c5⟩ := hc
  have HP := Lib.hid hp; clear hp hv h0
  generalize hd rest = x at *
  generalize tl rest = y at *
  go_enter Tryz.func153, Tryz.ntmps153
  go_wp2_with fail
  refine (HP.out _).mono ?_
  rintro e w1 ⟨rfl, hb1⟩
  have hB : B < w.heap.size := by omega
  have d1 : w1.cell? ⟨B, 0, none⟩ = some v := by rw [hb1.cell (p := ⟨B, 0, none⟩) hB]; exact c1
  have d2 : w1.frozen? ⟨B, 0, none⟩ = false := by rw [hb1.frozen (p := ⟨B, 0, none⟩) hB]; exact c2
  have own1 := own_keep c3 hb1
  have hne : ∀ g, v.ownBlock = some g → some B ≠ some g := fun g h e => by have := (c3.lt g h).1; have := Option.some.inj e; omega
  have hB1 : B < w1.heap.size := Nat.lt_of_lt_of_le hB hb1.size
  have hcl : Calls Tryz.prog 123 #[.string (S x)] w1.drew fun e w' => e = .returned (.string (S x)) ∧ Below w1.heap.size w1 w' ∧ w'.cell? ⟨B, 0, none⟩ = some v ∧ w'.frozen? ⟨B, 0, none⟩ = false ∧ w'.ownsRow (B + 2) 9 1 v acc.length (strsV acc) ∧ B + 2 ≤ w'.heap.size := by
    refine (Clone_any (S x) w1.drew (by rw [S_size]; omega)).mono fun e w' ⟨h1, h2⟩ => ?_
    have h3 : Below w1.heap.size w1 w' := ((Below.refl _ w1).drew).trans h2
    exact ⟨h1, h3, (h3.cell (p := ⟨B, 0, none⟩) hB1).trans d1, (h3.frozen (p := ⟨B, 0, none⟩) hB1).trans d2, own_keep own1 h3, Nat.le_trans (Nat.le_trans c5 hb1.size) h3.size⟩
  have HCL := Lib.hid hcl; have HNE := Lib.hid hne
  have HC3 := Lib.hid c3; have HC4 := Lib.hid c4; have HC5 := Lib.hid c5
  clear hcl hne c1 c2 c3 c4 c5 own1
  go_wp2_with fail
  go_region_law (first
    | (go_simp; go_at_call 123; refine HCL.out.mono ?_; rintro e w2 ⟨rfl, hb2, k1, k2, k3, k4⟩; have k6 : (w2.alloc (.cells #[.string (S x)] 9)).cell? ⟨B, 0, none⟩ = some v := ((World.cell?_alloc_past _ _ _ (by exact Nat.lt_of_lt_of_le (Nat.lt_succ_of_lt (Nat.lt_succ_self B)) k4)).trans k1))
    | (refine step_append_lies _ (by rfl) _ _ _ (by rfl) (B + 2) 9 i0 _ 1 16 Tryz.underlying100 hi hz0 hz1 hz2 rfl (by omega) v acc.length (strsV acc) (by rfl) (k3.alloc _) ⟨w2.heap.size, 0, none⟩ 1 1 [.string (S x)] (by rfl) (by rfl) (World.news_of_block (cs := #[.string (S x)]) (t := 9) (fr := (0, 0)) (heap_alloc_new w2 _)) (by simp [Value.oneCell']) (by omega) (by unfold maxLen; omega) (by omega) (by simp; omega) (w2.heap.size + 1) (by simp) ?_; intro g cap w3 hown3 hgrow3 hat hlt; have e1 := far_cell hgrow3 (by omega) (fun h => HNE.out _ h.symm rfl) k1; have e2 := far_frozen hgrow3 (by omega) (fun h => HNE.out _ h.symm rfl) k2))
  all_goals
    have hfin := collect_close HC3.out HC4.out HC5.out hb1 hb2 hgrow3 e1 e2 hown3
    have HF := Lib.hid hfin
    clear hfin hgrow3 e1 e2 hown3 k1 k2 k3 k6 hat hlt
    go_wp2
    go_ret
    exact ⟨rfl, HF.out⟩

theorem CSt.drew {B : Nat} {w : World} {acc : List (List UInt8)} (h : CSt B w acc) : CSt B w.drew acc := h
set_option maxHeartbeats 3200000 in
set_option maxRecDepth 100000 in
theorem collect_any (B n : Nat) : ∀ (most : Nat) (rest : List UInt8) (acc : List (List UInt8)) (w : World), most ≤ n → 1 ≤ most → vld rest = true → acc.length + most ≤ 2000000 → CSt B w acc →
    Calls Tryz.prog 153 #[.string (S rest), .int .i64 most, .pointer (some ⟨B, 0, none⟩), .pointer (some ⟨B + 1, 0, none⟩)] w fun e w' => e = .returned (.string (S (after most rest))) ∧ CSt B w' (acc ++ firsts most rest) ∧ Below B w w' := by
  induction n with
  | zero => intro most rest acc w h1 h2; omega
  | succ n ih =>
    intro most rest acc w h1 h2 hv ha hc
    by_cases h0 : rest = [48]
    · subst h0; exact collect_end B most acc w hc
    · by_cases hm : most = 1
      · subst hm; exact collect_one B rest acc w hv h0 ha hc
      · have hne : (rest == [48]) = false := beq_eq_false_iff_ne.2 h0
        have hlen := items_len (most / 2) (l := rest)
        have hcellOf : ∀ (W : World) (ac : List (List UInt8)), CSt B W ac → W.cell? ⟨B + 1, 0, none⟩ = some (.func (.func 153) #[] #[.pointer (some ⟨B, 0, none⟩), .pointer (some ⟨B + 1, 0, none⟩)]) := fun W ac h => by obtain ⟨_, _, _, _, h, _⟩ := h; exact h
        have hd1 : (most : Int) - (most : Int) / 2 = ((most - most / 2 : Nat) : Int) := by omega
        have hd2 : (most : Int) / 2 = ((most / 2 : Nat) : Int) := by omega
        have hI1 : Calls Tryz.prog 153 #[.string (S rest), .int .i64 ((most : Int) / 2), .pointer (some ⟨B, 0, none⟩), .pointer (some ⟨B + 1, 0, none⟩)] w.drew fun e w' => e = .returned (.string (S (after (most / 2) rest))) ∧ CSt B w' (acc ++ firsts (most / 2) rest) ∧ Below B w w' ∧ w'.cell? ⟨B + 1, 0, none⟩ = some (.func (.func 153) #[] #[.pointer (some ⟨B, 0, none⟩), .pointer (some ⟨B + 1, 0, none⟩)]) := by
          rw [hd2]
          exact (ih (most / 2) rest acc w.drew (by omega) (by omega) hv (by omega) hc).mono fun e w' ⟨g1, g2, g3⟩ => ⟨g1, g2, ((Below.refl _ w).drew).trans g3, hcellOf _ _ g2⟩
        have hI2 : ∀ W : World, CSt B W (acc ++ firsts (most / 2) rest) → Calls Tryz.prog 153 #[.string (S (after (most / 2) rest)), .int .i64 ((most : Int) - (most : Int) / 2), .pointer (some ⟨B, 0, none⟩), .pointer (some ⟨B + 1, 0, none⟩)] W fun e w' => e = .returned (.string (S (after most rest))) ∧ CSt B w' (acc ++ firsts most rest) ∧ Below B W w' ∧ w'.cell? ⟨B + 1, 0, none⟩ = some (.func (.func 153) #[] #[.pointer (some ⟨B, 0, none⟩), .pointer (some ⟨B + 1, 0, none⟩)]) := by
          intro W h
          rw [hd1]
          have := ih (most - most / 2) (after (most / 2) rest) (acc ++ firsts (most / 2) rest) W (by omega) (by omega) (vld_after _ hv) (by rw [List.length_append]; omega) h
          rw [← after_add, List.append_assoc, ← firsts_add, show most / 2 + (most - most / 2) = most from by omega] at this
          exact this.mono fun e w' ⟨g1, g2, g3⟩ => ⟨g1, g2, g3, hcellOf _ _ g2⟩
        have hcell := hcellOf _ _ hc
        have hm1 : ((most : Int) == 1) = false := beq_eq_false_iff_ne.2 (by omega)
        have b0 : most ≤ 2000000 := by omega
        have hw : IntKind.i64.wrap ((most : Int) - (most : Int) / 2) = (most : Int) - (most : Int) / 2 := IntWalk.i64_in _ (by omega)
        generalize after (most / 2) rest = mid at *
        generalize firsts (most / 2) rest = fm at *
        have H1 := Lib.hid hI1; have H2 := Lib.hid hI2
        clear ih hI1 hI2 hv ha hc h0 hm hlen hd1 hd2 hcellOf h1
        go_enter Tryz.func153, Tryz.ntmps153
        go_wp2_with fail
        go_region_held3 (fun w' => w'.cell? ⟨B + 1, 0, none⟩ = some (.func (.func 153) #[] #[.pointer (some ⟨B, 0, none⟩), .pointer (some ⟨B + 1, 0, none⟩)])) (first | assumption | go_keep)
          (first
            | (go_at_call 153; (with_reducible refine H1.out.mono ?_); rintro e w2 ⟨rfl, hs2, hb2, hk2⟩)
            | (go_at_call 153; refine (H2.out _ hs2).mono ?_; rintro e w3 ⟨rfl, hs3, hb3, hk3⟩))
        go_wp2
        go_ret
        exact ⟨rfl, hs3, hb2.trans hb3⟩

end Go.Proofs.YtmhoacnbmbhcjaaGreatDoor

namespace Go.Proofs.YtmhoacnbmbhcjaaGreatDoor
open Go.RowKit Pl

theorem right_cases {x : Ins} {i n : Int} (h : right x i n = true) : reg x.a = true ∧
    ((x.op = 0 ∧ x.b = 0 ∧ x.c = 0 ∧ vld x.tree = true) ∨ ((x.op = 1 ∨ x.op = 3 ∨ x.op = 4) ∧ reg x.b = true ∧ x.c = 0 ∧ x.tree = []) ∨
     (x.op = 2 ∧ reg x.b = true ∧ reg x.c = true ∧ x.tree = []) ∨ (x.op = 5 ∧ x.c = 0 ∧ x.tree = [] ∧ -i ≤ x.b ∧ x.b ≤ n - i)) := by
  obtain ⟨op, a, b, c, t⟩ := x
  by_cases h0 : op = 0
  · subst h0; simp_all [right]
  by_cases h2 : op = 2
  · subst h2; simp_all [right]
  by_cases h1 : op = 1
  · subst h1; simp_all [right]
  by_cases h3 : op = 3
  · subst h3; simp_all [right]
  by_cases h4 : op = 4
  · subst h4; simp_all [right]
  by_cases h5 : op = 5
  · subst h5; simp_all [right]
  · simp [right, h0, h1, h2, h3, h4, h5] at h
theorem reg_nat {n : Int} (h : reg n = true) : ∃ k : Nat, n = (k : Int) ∧ k < 32 := by
  obtain ⟨h1, h2⟩ := reg_true h
  exact ⟨n.toNat, by omega, by omega⟩

theorem CodeOf_any (x : Ins) (i n : Int) (w : World) (hr : right x i n = true) (hi0 : 0 ≤ i) (hi1 : i ≤ 4000) (hn1 : n ≤ 4000) :
    Calls Tryz.prog 91 #[x.agg] w fun e w' => e = .returned (.string (S (codeOf x))) ∧ Below w.heap.size w w' := by
  obtain ⟨ha, hc⟩ := right_cases hr
  obtain ⟨a, hra, hla⟩ := reg_nat ha
  obtain ⟨op, a0, b, c, t⟩ := x
  simp only at hra hc; subst hra
  rcases hc with ⟨rfl, rfl, rfl, hv⟩ | ⟨ho, hb, rfl, rfl⟩ | ⟨rfl, hb, hc, rfl⟩ | ⟨rfl, rfl, rfl, hb1, hb2⟩
  · exact CodeOf_set a 0 0 t w (by omega) (vld_iff.1 hv).1
  · obtain ⟨b, rfl, hlb⟩ := reg_nat hb
    rcases ho with rfl | rfl | rfl
    · exact CodeOf_move a b 0 [] w (by omega) (by omega)
    · exact CodeOf_head a b 0 [] w (by omega) (by omega)
    · exact CodeOf_tail a b 0 [] w (by omega) (by omega)
  · obtain ⟨b, rfl, hlb⟩ := reg_nat hb
    obtain ⟨c, rfl, hlc⟩ := reg_nat hc
    exact CodeOf_cons a b c [] w (by omega) (by omega) (by omega)
  · by_cases h : b < 0
    · obtain ⟨k, hk⟩ : ∃ k : Nat, b = -(k : Int) := ⟨(-b).toNat, by omega⟩
      subst hk
      have := CodeOf_back a k 0 [] w (by omega) (by omega) (by omega)
      have hk0 : 0 < k := by omega
      simpa [codeOf, body, hk0, Ins.agg] using this
    · obtain ⟨k, hk⟩ : ∃ k : Nat, b = (k : Int) := ⟨b.toNat, by omega⟩
      subst hk
      have := CodeOf_fore a k 0 [] w (by omega) (by omega)
      simpa [codeOf, body, h, Ins.agg] using this
theorem CO_step (x : Ins) (k n : Nat) (hk : k ≤ 4000) (hn : n ≤ 4000) (hv : right x k n = true) (W : World) :
    Calls Tryz.prog 91 #[.agg #[.int .i64 x.op, .int .i64 x.a, .int .i64 x.b, .int .i64 x.c, .string (S x.tree)]] W fun e w' => e = .returned (.string (S (codeOf x))) ∧ Below W.heap.size W w' :=
  CodeOf_any x k n W hv (by omega) (by omega) (by omega)

theorem num_le {n k : Nat} (h : n ≤ k) : (num n).length ≤ 2 * k + 1 := by rw [num_len]; omega
theorem codeOf_len {x : Ins} {i n : Int} (h : right x i n = true) (hi0 : 0 ≤ i) (hi : i ≤ 4000) (hn : n ≤ 4000) : (codeOf x).length ≤ 9000 + x.tree.length := by
  obtain ⟨ha, hc⟩ := right_cases h
  have h1 := num_le (n := x.a.toNat) (k := 32) (by have := (reg_true ha).2; omega)
  unfold codeOf body
  rcases hc with ⟨ho, _⟩ | ⟨ho, hb, _⟩ | ⟨ho, hb, hc, _⟩ | ⟨ho, _, _, hb1, hb2⟩
  · have h2 := num_le (n := x.op.toNat) (k := 6) (by omega)
    rw [if_pos ho]; simp only [pr_len]; omega
  · have h2 := num_le (n := x.op.toNat) (k := 6) (by omega)
    have h3 := num_le (n := x.b.toNat) (k := 32) (by have := (reg_true hb).2; omega)
    rw [if_neg (by omega), if_neg (by omega), if_neg (by omega)]; simp only [pr_len]; omega
  · have h2 := num_le (n := x.op.toNat) (k := 6) (by omega)
    have h3 := num_le (n := x.b.toNat) (k := 32) (by have := (reg_true hb).2; omega)
    have h4 := num_le (n := x.c.toNat) (k := 32) (by have := (reg_true hc).2; omega)
    rw [if_neg (by omega), if_pos ho]; simp only [pr_len]; omega
  · have h2 := num_le (n := x.op.toNat) (k := 6) (by omega)
    have h3 := num_le (n := (-x.b).toNat) (k := 4000) (by omega)
    have h4 := num_le (n := x.b.toNat) (k := 4000) (by omega)
    rw [if_neg (by omega), if_neg (by omega), if_pos ho]
    split <;> simp only [pr_len, List.length_cons, List.length_nil] <;> omega
theorem enc_map_len {f : Ins → List UInt8} : ∀ {ps : List Ins}, (∀ x ∈ ps, (f x).length ≤ 9000 + x.tree.length) → (enc (ps.map f)).length ≤ 1 + ps.length * 9001 + trees ps := by
  intro ps
  induction ps with
  | nil => intro _; simp [enc]
  | cons x ps ih =>
    intro h
    have h1 := h x (by simp)
    have h2 := ih (fun y hy => h y (by simp [hy]))
    have h3 : trees (x :: ps) = x.tree.length + trees ps := by simp [trees]
    rw [List.map_cons, h3]
    simp only [enc, List.length_cons, List.length_append]
    omega
theorem AllR.mem {ps : List Ins} (h : AllR ps) (hm : ps.length ≤ 4000) : ∀ x ∈ ps, (codeOf x).length ≤ 9000 + x.tree.length := by
  intro x hx
  obtain ⟨k, hk, rfl⟩ := List.mem_iff_getElem.1 hx
  exact codeOf_len (h k _ (List.getElem?_eq_getElem hk)) (by omega) (by omega) (by omega)
def codes (ps : List Ins) : List (List UInt8) := ps.map codeOf
theorem codes_len (ps : List Ins) : (codes ps).length = ps.length := by simp [codes]
theorem codes_take {ps : List Ins} {k : Nat} {x : Ins} (h : ps[k]? = some x) : codes (ps.take (k + 1)) = codes (ps.take k) ++ [codeOf x] := by
  obtain ⟨hk, rfl⟩ := List.getElem?_eq_some_iff.1 h
  unfold codes
  rw [List.take_succ_eq_append_getElem hk, List.map_append]; rfl

set_option maxHeartbeats 1600000 in
set_option maxRecDepth 100000 in
theorem Code_some (w : World) (b off cap : Nat) (ps : List Ins) (hc : ProgAt w b off ps) (hp : 0 < ps.length) (hm : ps.length ≤ 4000) (hr : AllR ps) (ht : trees ps ≤ 2000000) :
    Calls Tryz.prog 86 #[.slice (some ⟨b, off, none⟩) ps.length cap] w fun e w' => e = .returned (.string (S (enc (codes ps)))) ∧ Below w.heap.size w w' := by
  obtain ⟨i0, hi, hz0, hz1, hz2⟩ := info_parts Tryz.infoStr
  have HR : Hid (∀ (k : Nat) (x : Ins), ps[k]? = some x → right x k ps.length = true) := Lib.hid hr
  have hsz : (enc (codes ps)).length ≤ 100000000 := by
    have := enc_map_len (hr.mem hm)
    show (enc (ps.map codeOf)).length ≤ _
    omega
  have HS := Lib.hid hsz
  have HCL := Lib.hid (codes_len ps)
  generalize hnn : ps.length = n at *
  have HN := Lib.hid hnn; have HC := Lib.hid hc
  clear hc ht hr hnn hsz
  go_enter Tryz.func86, Tryz.ntmps86
  go_wp2
  go_loopw [3, 4] (fun v i wr => ∃ k : Nat, k ≤ n ∧ i = .int .i64 k ∧ wr.ownsRow w.heap.size 9 1 v k (strsV (codes (ps.take k))) ∧ Below w.heap.size w wr) (fun _ i _ => n - (intOf i).toNat)
  case atStart => exact ⟨0, Nat.zero_le _, rfl, World.ownsRow_nil _ _ _ _, Below.refl _ _⟩
  case round =>
    obtain ⟨k, hk, rfl, hown, hb⟩ := hrel
    have hsz := hb.size
    by_cases hlt : k < n
    · obtain ⟨x, hx⟩ := get_at (ps := ps) (k := k) (by rw [HN.out]; exact hlt)
      obtain ⟨c0, c1, c2, c3, c4⟩ := (HC.out.below hb).2 k x hx
      have HQ := Lib.hid (CO_step x k n (by omega) hm (HR.out k x hx))
      have HT := Lib.hid (codes_take hx)
      clear hx
      go_wp2_with fail
      refine (HQ.out _).mono ?_
      rintro e w2 ⟨rfl, hb2⟩
      have hown2 := own_keep hown hb2
      have hb3 := hb.trans (hb2.mono hsz)
      have hsz3 := hb3.size
      clear hown
      go_wp2_with (at_builtin; refine wpList_append_own _ rfl _ _ 100 rfl w.heap.size 9 i0 (.string ⟨#[]⟩) 1 16 Tryz.underlying100 hi hz0 hz1 hz2 rfl (by decide) _ _ _ rfl (hown2.alloc _) ⟨w2.heap.size, 0, none⟩ 1 1 [.string (S (codeOf x))] rfl rfl ?c1 ?c2 ?c3 ?c4 ?c5 ?_)
      case c1 =>
        intro t u ht
        match t, ht with
        | 0, ht => simp at ht; subst ht; simp [Addr.add]
      case c2 => intro u hu; simp at hu; subst hu; rfl
      case c3 => unfold maxLen; omega
      case c4 => omega
      case c5 => simp; omega
      intro v' w3 hown' hgrow _
      have hb4 := app_below hb3 hsz3 hown2 hgrow
      have ho : w3.ownsRow w.heap.size 9 1 v' (k + 1) (strsV (codes (ps.take (k + 1)))) := by
        rw [HT.out, strsV_snoc]; exact hown'
      have HO := Lib.hid ho
      clear ho hown' hgrow hown2 hb hb3
      go_wp2
      go_roundw
      case rel => exact ⟨k + 1, by omega, by go_num, HO.out, hb4⟩
      case measure => simp [intOf]; omega
    · have ho : wr.ownsRow w.heap.size 9 1 u3 k (strsV (codes ps)) := by
        have := hown
        rw [List.take_of_length_le (by have := HN.out; omega)] at this
        exact this
      obtain ⟨g, cap', rfl, hgn, hg0, hst⟩ := own_strs ho (by omega)
      have HL := Lib.hid (rList_big wr g 0 cap' (codes ps) hst (by rw [HCL.out]; omega) HS.out)
      clear hown ho hst
      go_wp2_with fail
      refine HL.out.mono ?_
      rintro e w2 ⟨rfl, h2⟩
      go_wp2_with fail
      go_ret
      exact ⟨rfl, hb.trans (h2.mono hsz)⟩
set_option maxHeartbeats 800000 in
set_option maxRecDepth 100000 in
theorem Code_none (w : World) (a : Option Addr) (cap : Nat) :
    Calls Tryz.prog 86 #[.slice a 0 cap] w fun e w' => e = .returned (.string (S [48])) ∧ Below w.heap.size w w' := by
  go_enter Tryz.func86, Tryz.ntmps86
  go_wp2
  go_loop [3, 4] (fun v i => v = .slice none 0 0 ∧ i = .int .i64 0) (fun _ _ => 0)
  case atStart => exact ⟨rfl, rfl⟩
  case round =>
    obtain ⟨rfl, rfl⟩ := hrel
    go_wp2_with fail
    refine (rList_none _ _ _).mono ?_
    rintro e w2 ⟨rfl, h2⟩
    go_wp2_with fail
    go_ret
    exact ⟨rfl, h2⟩
theorem Code_arg (w : World) (v : Value) (ps : List Ins) (h : ArgP w v ps) (hv : PValid ps) :
    Calls Tryz.prog 86 #[v] w fun e w' => e = .returned (.string (S (enc (codes ps)))) ∧ Below w.heap.size w w' := by
  rcases h with ⟨rfl, h⟩ | ⟨h0, b, off, cap, rfl, hc⟩
  · obtain ⟨a, cap, rfl⟩ := empty_arg h
    exact Code_none w a cap
  · exact Code_some w b off cap ps hc h0 hv.1 hv.2.2 hv.2.1
end Go.Proofs.YtmhoacnbmbhcjaaGreatDoor

namespace Go.Proofs.YtmhoacnbmbhcjaaGreatDoor
open Go.RowKit Pl

def rstep (n : Int) (x : Ins) : Int := if x.op = 5 then max n (x.a + 1) else max (max (max n (x.a + 1)) (x.b + 1)) (x.c + 1)
def regsTo (ps : List Ins) (k : Nat) : Int := (ps.take k).foldl rstep 1
def regs (ps : List Ins) : Int := ps.foldl rstep 1
theorem max_if (a b : Int) : (if a < b then b else a) = max a b := by split <;> omega
theorem regsTo_succ {ps : List Ins} {k : Nat} {x : Ins} (h : ps[k]? = some x) : regsTo ps (k + 1) = rstep (regsTo ps k) x := by
  obtain ⟨hk, rfl⟩ := List.getElem?_eq_some_iff.1 h
  unfold regsTo
  rw [List.take_succ_eq_append_getElem hk, List.foldl_append]; rfl
theorem regsTo_all {ps : List Ins} {k : Nat} (h : ps.length ≤ k) : regsTo ps k = regs ps := by unfold regsTo regs; rw [List.take_of_length_le h]
theorem right_small {x : Ins} {i n : Int} (h : right x i n = true) (hi0 : 0 ≤ i) (hi : i ≤ 4000) (hn : n ≤ 4000) : (0 ≤ x.a ∧ x.a < 32) ∧ (-4000 ≤ x.b ∧ x.b ≤ 4000) ∧ (0 ≤ x.c ∧ x.c < 32) ∧ (x.op ≠ 5 → 0 ≤ x.b ∧ x.b < 32) := by
  obtain ⟨ha, hc⟩ := right_cases h
  have h1 := reg_true ha
  rcases hc with ⟨ho, hb, hc, _⟩ | ⟨ho, hb, hc, _⟩ | ⟨ho, hb, hc, _⟩ | ⟨ho, hc, _, hb1, hb2⟩
  · omega
  · have h2 := reg_true hb; omega
  · have h2 := reg_true hb; have h3 := reg_true hc; omega
  · omega

set_option maxHeartbeats 1600000 in
set_option maxRecDepth 100000 in
theorem Regs_some (w : World) (b off cap : Nat) (ps : List Ins) (hc : ProgAt w b off ps) (hm : ps.length ≤ 4000) (hr : AllR ps) :
    Calls Tryz.prog 33 #[.slice (some ⟨b, off, none⟩) ps.length cap] w fun e w' => e = .returned (.int .i64 (regs ps)) ∧ Below w.heap.size w w' := by
  have HR : Hid (∀ (k : Nat) (x : Ins), ps[k]? = some x → right x k ps.length = true) := Lib.hid hr
  generalize hnn : ps.length = n at *
  have HN := Lib.hid hnn; have HC := Lib.hid hc
  clear hc hr hnn
  go_enter Tryz.func33, Tryz.ntmps33
  go_wp2
  go_loopw [3, 4] (fun v i wr => ∃ k : Nat, k ≤ n ∧ i = .int .i64 k ∧ (∃ r : Int, v = .int .i64 r ∧ -100000 ≤ r ∧ r ≤ 100000 ∧ Hid (r = regsTo ps k)) ∧ ∃ q, wr = w.drewN q) (fun _ i _ => n - (intOf i).toNat)
  case atStart => exact ⟨0, Nat.zero_le _, rfl, ⟨1, rfl, by omega, by omega, Lib.hid rfl⟩, 0, rfl⟩
  case round =>
    obtain ⟨k, hk, rfl, ⟨r, rfl, hr0, hr1, hrr⟩, q, rfl⟩ := hrel
    by_cases hlt : k < n
    · obtain ⟨x, hx⟩ := get_at (ps := ps) (k := k) (by rw [HN.out]; exact hlt)
      obtain ⟨c0, c1, c2, c3, c4⟩ := HC.out.2 k x hx
      obtain ⟨⟨a0, a1⟩, ⟨b0, b1⟩, ⟨d0, d1⟩, _⟩ := right_small (HR.out k x hx) (by omega) (by omega) (by omega)
      have HT := Lib.hid (regsTo_succ hx)
      clear hx c4
      by_cases h5 : x.op = 5
      · have h6 : (x.op != 5) = false := by rw [h5]; rfl
        have HX : Hid (max r (x.a + 1) = regsTo ps (k + 1)) := Lib.hid (by rw [HT.out, ← hrr.out]; unfold rstep; rw [if_pos h5])
        rw [h5] at c0
        clear h6 h5
        go_wp2
        go_roundw
        case rel => exact ⟨k + 1, by omega, by go_num, ⟨_, rfl, by omega, by omega, HX⟩, _, rfl⟩
        case measure => simp [intOf]; omega
      · have h6 : (x.op != 5) = true := by rw [bne_iff_ne]; exact h5
        have HX : Hid (max (max (max r (x.a + 1)) (x.b + 1)) (x.c + 1) = regsTo ps (k + 1)) := Lib.hid (by rw [HT.out, ← hrr.out]; unfold rstep; rw [if_neg h5])
        clear h5
        go_wp2
        go_quiet (fail)
        go_wp2
        go_roundw
        case rel => exact ⟨k + 1, by omega, by go_num, ⟨_, rfl, by rw [max_if, max_if]; omega, by rw [max_if, max_if]; omega, Lib.hid (by rw [max_if, max_if]; exact HX.out)⟩, _, rfl⟩
        case measure => simp [intOf]; omega
    · have HT := Lib.hid (regsTo_all (ps := ps) (k := k) (by rw [HN.out]; omega))
      have HU := Lib.hid (hrr.out.trans HT.out)
      go_wp2
      go_ret
      exact ⟨ret_int HU.out, bdrewN (Below.refl _ _) _⟩
set_option maxHeartbeats 800000 in
set_option maxRecDepth 100000 in
theorem Regs_none (w : World) (a : Option Addr) (cap : Nat) :
    Calls Tryz.prog 33 #[.slice a 0 cap] w fun e w' => e = .returned (.int .i64 1) ∧ Below w.heap.size w w' := by
  go_enter Tryz.func33, Tryz.ntmps33
  go_wp2
  go_loop [3, 4] (fun v i => v = .int .i64 1 ∧ i = .int .i64 0) (fun _ _ => 0)
  case atStart => exact ⟨rfl, rfl⟩
  case round =>
    obtain ⟨rfl, rfl⟩ := hrel
    go_wp2
    go_ret
    exact ⟨rfl, Below.refl _ _⟩
theorem Regs_arg (w : World) (v : Value) (ps : List Ins) (h : ArgP w v ps) (hv : PValid ps) :
    Calls Tryz.prog 33 #[v] w fun e w' => e = .returned (.int .i64 (regs ps)) ∧ Below w.heap.size w w' := by
  rcases h with ⟨rfl, h⟩ | ⟨h0, b, off, cap, rfl, hc⟩
  · obtain ⟨a, cap, rfl⟩ := empty_arg h
    exact Regs_none w a cap
  · exact Regs_some w b off cap ps hc hv.1 hv.2.2
end Go.Proofs.YtmhoacnbmbhcjaaGreatDoor
