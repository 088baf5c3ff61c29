/- The reference's pair, CodeOf. By an AI agent. -/
import Derived.Test.YtlfoigkpfooopaaGreatDoorTwin
namespace Go.Proofs.YtlfoigkpfooopaaGreatDoor
open Go.RowKit Pl

def pr (a b : List UInt8) : List UInt8 := 49 :: (a ++ b)
theorem pr_len (a b : List UInt8) : (pr a b).length = 1 + a.length + b.length := by simp [pr]; omega
set_option maxHeartbeats 400000 in
set_option maxRecDepth 100000 in
theorem pair_any (a b : List UInt8) (w : World) (hl : a.length + b.length ≤ 281474976710656) :
    Calls Tryz.prog 53 #[.string (S a), .string (S b)] w fun e w' => e = .returned (.string (S (pr a b))) ∧ w = w' := by
  have h : S (pr a b) = ⟨#[49]⟩ ++ S a ++ S b := by
    symm; refine S_inj ?_
    simp [pr]
  have H := Lib.hid h; clear h
  go_enter Tryz.func53, Tryz.ntmps53
  go_wp2
  go_ret
  exact ⟨ret_str H.out.symm, rfl⟩

theorem boxed {w w1 : World} {v0 v1 v2 v3 v4 : Value} {ty : TypeId} {fr : Nat × Nat} (h : Below (w.alloc (.cells #[v0, v1, v2, v3, v4] ty fr)).heap.size (w.alloc (.cells #[v0, v1, v2, v3, v4] ty fr)) w1) :
    w1.cell? ⟨w.heap.size, 0, none⟩ = some v0 ∧ w1.cell? ⟨w.heap.size, 1, none⟩ = some v1 ∧ w1.cell? ⟨w.heap.size, 2, none⟩ = some v2 ∧ w1.cell? ⟨w.heap.size, 3, none⟩ = some v3 ∧ w1.cell? ⟨w.heap.size, 4, none⟩ = some v4 := by
  have e : ∀ o, w1.cell? ⟨w.heap.size, o, none⟩ = (w.alloc (.cells #[v0, v1, v2, v3, v4] ty fr)).cell? ⟨w.heap.size, o, none⟩ := fun o => h.cell (p := ⟨w.heap.size, o, none⟩) (by simp)
  rw [e, e, e, e, e]
  simp only [World.cell?, heap_alloc_new]
  exact ⟨rfl, rfl, rfl, rfl, rfl⟩

theorem keep2 {W w1 : World} {B : Nat} {u v : Value} (h : Below W.heap.size W w1) (hB : B < W.heap.size) (hc : W.cell? ⟨B, 2, none⟩ = some u ∧ W.cell? ⟨B, 3, none⟩ = some v) :
    w1.cell? ⟨B, 2, none⟩ = some u ∧ w1.cell? ⟨B, 3, none⟩ = some v := ⟨by rw [h.cell (p := ⟨B, 2, none⟩) hB]; exact hc.1, by rw [h.cell (p := ⟨B, 3, none⟩) hB]; exact hc.2⟩

/-- the second part of an instruction's code -/
def body (x : Ins) : List UInt8 :=
  if x.op = 0 then pr (num x.a.toNat) x.tree
  else if x.op = 2 then pr (num x.a.toNat) (pr (num x.b.toNat) (num x.c.toNat))
  else if x.op = 5 then (if x.b < 0 then pr (num x.a.toNat) (pr [49, 48, 48] (num (-x.b).toNat)) else pr (num x.a.toNat) (pr [48] (num x.b.toNat)))
  else pr (num x.a.toNat) (num x.b.toNat)
def codeOf (x : Ins) : List UInt8 := pr (num x.op.toNat) (body x)

set_option maxHeartbeats 1600000 in
set_option maxRecDepth 100000 in
theorem CodeOf_set (a : Nat) (b c : Int) (t : List UInt8) (w : World) (ha : a ≤ 999999) (hl : t.length ≤ 2000000) :
    Calls Tryz.prog 27 #[.agg #[.int .i64 0, .int .i64 a, .int .i64 b, .int .i64 c, .string (S t)]] w fun e w' => e = .returned (.string (S (pr (num 0) (pr (num a) t)))) ∧ Below w.heap.size w w' := by
  have hz := num_len a; have hz0 := num_len 0
  have HP := Lib.hid (fun W => pair_any (num a) t W (by omega))
  have HQ := Lib.hid (fun W => pair_any (num 0) (pr (num a) t) W (by rw [pr_len]; omega))
  have HA := Lib.hid (fun W => rNumber_yes a W ha)
  clear hz hz0 ha hl
  have H0 : Hid (∀ W : World, Calls Tryz.prog 52 #[.int .i64 0] W fun e w' => e = .returned (.string (S (num 0))) ∧ Below W.heap.size W w') := Lib.hid (fun W => rNumber_yes 0 W (by omega))
  go_enter Tryz.func27, Tryz.ntmps27
  go_wp2_with fail
  refine (HA.out _).mono ?_
  rintro e w1 ⟨rfl, h1⟩
  obtain ⟨c0, c1, c2, c3, c4⟩ := boxed h1
  go_wp2_with fail
  refine (HP.out _).mono ?_
  rintro e w2 ⟨rfl, rfl⟩
  go_wp2_with fail
  refine (H0.out _).mono ?_
  rintro e w3 ⟨rfl, h3⟩
  go_wp2_with fail
  refine (HQ.out _).mono ?_
  rintro e w4 ⟨rfl, rfl⟩
  go_wp2_with fail
  go_ret
  exact ⟨rfl, bstep (bstep ((Below.refl _ _).alloc (Nat.le_refl _) _) h1) h3⟩
set_option maxHeartbeats 1600000 in
set_option maxRecDepth 100000 in
theorem CodeOf_move (a b : Nat) (c : Int) (t : List UInt8) (w : World) (ha : a ≤ 999999) (hb : b ≤ 999999) :
    Calls Tryz.prog 27 #[.agg #[.int .i64 1, .int .i64 a, .int .i64 b, .int .i64 c, .string (S t)]] w fun e w' => e = .returned (.string (S (pr (num 1) (pr (num a) (num b))))) ∧ Below w.heap.size w w' := by
  have hz := num_len a; have hz0 := num_len 1; have hzb := num_len b
  have HP := Lib.hid (fun W => pair_any (num a) (num b) W (by omega))
  have HQ := Lib.hid (fun W => pair_any (num 1) (pr (num a) (num b)) W (by rw [pr_len]; omega))
  have HA := Lib.hid (fun W => rNumber_yes a W ha)
  have HB := Lib.hid (fun W => rNumber_yes b W hb)
  clear hz hz0 hzb ha hb
  have H0 : Hid (∀ W : World, Calls Tryz.prog 52 #[.int .i64 1] W fun e w' => e = .returned (.string (S (num 1))) ∧ Below W.heap.size W w') := Lib.hid (fun W => rNumber_yes 1 W (by omega))
  go_enter Tryz.func27, Tryz.ntmps27
  go_wp2_with fail
  refine (HA.out _).mono ?_
  rintro e w1 ⟨rfl, h1⟩
  have hs1 := h1.size
  obtain ⟨c0, c1, c2, c3, c4⟩ := boxed h1
  go_wp2_with fail
  refine (HB.out _).mono ?_
  rintro e w2 ⟨rfl, h2⟩
  have h12 := h1.trans (h2.mono hs1)
  clear c0 c1 c2 c3 c4
  obtain ⟨c0, c1, c2, c3, c4⟩ := boxed h12
  go_wp2_with fail
  refine (HP.out _).mono ?_
  rintro e w2 ⟨rfl, rfl⟩
  go_wp2_with fail
  refine (H0.out _).mono ?_
  rintro e w3 ⟨rfl, h3⟩
  go_wp2_with fail
  refine (HQ.out _).mono ?_
  rintro e w4 ⟨rfl, rfl⟩
  go_wp2_with fail
  go_ret
  exact ⟨rfl, bstep (bstep (bstep ((Below.refl _ _).alloc (Nat.le_refl _) _) h1) h2) h3⟩
set_option maxHeartbeats 1600000 in
set_option maxRecDepth 100000 in
theorem CodeOf_head (a b : Nat) (c : Int) (t : List UInt8) (w : World) (ha : a ≤ 999999) (hb : b ≤ 999999) :
    Calls Tryz.prog 27 #[.agg #[.int .i64 3, .int .i64 a, .int .i64 b, .int .i64 c, .string (S t)]] w fun e w' => e = .returned (.string (S (pr (num 3) (pr (num a) (num b))))) ∧ Below w.heap.size w w' := by
  have hz := num_len a; have hz0 := num_len 3; have hzb := num_len b
  have HP := Lib.hid (fun W => pair_any (num a) (num b) W (by omega))
  have HQ := Lib.hid (fun W => pair_any (num 3) (pr (num a) (num b)) W (by rw [pr_len]; omega))
  have HA := Lib.hid (fun W => rNumber_yes a W ha)
  have HB := Lib.hid (fun W => rNumber_yes b W hb)
  clear hz hz0 hzb ha hb
  have H0 : Hid (∀ W : World, Calls Tryz.prog 52 #[.int .i64 3] W fun e w' => e = .returned (.string (S (num 3))) ∧ Below W.heap.size W w') := Lib.hid (fun W => rNumber_yes 3 W (by omega))
  go_enter Tryz.func27, Tryz.ntmps27
  go_wp2_with fail
  refine (HA.out _).mono ?_
  rintro e w1 ⟨rfl, h1⟩
  have hs1 := h1.size
  obtain ⟨c0, c1, c2, c3, c4⟩ := boxed h1
  go_wp2_with fail
  refine (HB.out _).mono ?_
  rintro e w2 ⟨rfl, h2⟩
  have h12 := h1.trans (h2.mono hs1)
  clear c0 c1 c2 c3 c4
  obtain ⟨c0, c1, c2, c3, c4⟩ := boxed h12
  go_wp2_with fail
  refine (HP.out _).mono ?_
  rintro e w2 ⟨rfl, rfl⟩
  go_wp2_with fail
  refine (H0.out _).mono ?_
  rintro e w3 ⟨rfl, h3⟩
  go_wp2_with fail
  refine (HQ.out _).mono ?_
  rintro e w4 ⟨rfl, rfl⟩
  go_wp2_with fail
  go_ret
  exact ⟨rfl, bstep (bstep (bstep ((Below.refl _ _).alloc (Nat.le_refl _) _) h1) h2) h3⟩
set_option maxHeartbeats 1600000 in
set_option maxRecDepth 100000 in
theorem CodeOf_tail (a b : Nat) (c : Int) (t : List UInt8) (w : World) (ha : a ≤ 999999) (hb : b ≤ 999999) :
    Calls Tryz.prog 27 #[.agg #[.int .i64 4, .int .i64 a, .int .i64 b, .int .i64 c, .string (S t)]] w fun e w' => e = .returned (.string (S (pr (num 4) (pr (num a) (num b))))) ∧ Below w.heap.size w w' := by
  have hz := num_len a; have hz0 := num_len 4; have hzb := num_len b
  have HP := Lib.hid (fun W => pair_any (num a) (num b) W (by omega))
  have HQ := Lib.hid (fun W => pair_any (num 4) (pr (num a) (num b)) W (by rw [pr_len]; omega))
  have HA := Lib.hid (fun W => rNumber_yes a W ha)
  have HB := Lib.hid (fun W => rNumber_yes b W hb)
  clear hz hz0 hzb ha hb
  have H0 : Hid (∀ W : World, Calls Tryz.prog 52 #[.int .i64 4] W fun e w' => e = .returned (.string (S (num 4))) ∧ Below W.heap.size W w') := Lib.hid (fun W => rNumber_yes 4 W (by omega))
  go_enter Tryz.func27, Tryz.ntmps27
  go_wp2_with fail
  refine (HA.out _).mono ?_
  rintro e w1 ⟨rfl, h1⟩
  have hs1 := h1.size
  obtain ⟨c0, c1, c2, c3, c4⟩ := boxed h1
  go_wp2_with fail
  refine (HB.out _).mono ?_
  rintro e w2 ⟨rfl, h2⟩
  have h12 := h1.trans (h2.mono hs1)
  clear c0 c1 c2 c3 c4
  obtain ⟨c0, c1, c2, c3, c4⟩ := boxed h12
  go_wp2_with fail
  refine (HP.out _).mono ?_
  rintro e w2 ⟨rfl, rfl⟩
  go_wp2_with fail
  refine (H0.out _).mono ?_
  rintro e w3 ⟨rfl, h3⟩
  go_wp2_with fail
  refine (HQ.out _).mono ?_
  rintro e w4 ⟨rfl, rfl⟩
  go_wp2_with fail
  go_ret
  exact ⟨rfl, bstep (bstep (bstep ((Below.refl _ _).alloc (Nat.le_refl _) _) h1) h2) h3⟩
set_option maxHeartbeats 3200000 in
set_option maxRecDepth 100000 in
theorem CodeOf_cons (a b c : Nat) (t : List UInt8) (w : World) (ha : a ≤ 999999) (hb : b ≤ 999999) (hc : c ≤ 999999) :
    Calls Tryz.prog 27 #[.agg #[.int .i64 2, .int .i64 a, .int .i64 b, .int .i64 c, .string (S t)]] w fun e w' => e = .returned (.string (S (pr (num 2) (pr (num a) (pr (num b) (num c)))))) ∧ Below w.heap.size w w' := by
  have hz := num_len a; have hz0 := num_len 2; have hzb := num_len b; have hzc := num_len c
  have HP := Lib.hid (fun W => pair_any (num b) (num c) W (by omega))
  have HR := Lib.hid (fun W => pair_any (num a) (pr (num b) (num c)) W (by rw [pr_len]; omega))
  have HQ := Lib.hid (fun W => pair_any (num 2) (pr (num a) (pr (num b) (num c))) W (by rw [pr_len, pr_len]; omega))
  have HA := Lib.hid (fun W => rNumber_yes a W ha)
  have HB := Lib.hid (fun W => rNumber_yes b W hb)
  have HC := Lib.hid (fun W => rNumber_yes c W hc)
  clear hz hz0 hzb hzc ha hb hc
  have H0 : Hid (∀ W : World, Calls Tryz.prog 52 #[.int .i64 2] W fun e w' => e = .returned (.string (S (num 2))) ∧ Below W.heap.size W w') := Lib.hid (fun W => rNumber_yes 2 W (by omega))
  go_enter Tryz.func27, Tryz.ntmps27
  go_wp2_with fail
  refine (HA.out _).mono ?_
  rintro e w1 ⟨rfl, h1⟩
  have hs1 := h1.size
  obtain ⟨c0, c1, c2, c3, c4⟩ := boxed h1
  have hlt1 : w.heap.size < w1.heap.size := by have := h1.size; simp at this; omega
  go_wp2_with fail
  go_region_held3 (fun w' => w'.cell? ⟨w.heap.size, 2, none⟩ = some (.int .i64 (b : Int)) ∧ w'.cell? ⟨w.heap.size, 3, none⟩ = some (.int .i64 (c : Int)))
    (first
      | go_keep
      | exact keep2 h2 (by exact hlt1) (by assumption)
      | exact keep2 h3 (by exact Nat.lt_of_lt_of_le hlt1 h2.size) (by assumption)
      | assumption)
    (first
      | (go_at_call 52; (with_reducible refine (HB.out _).mono ?_); rintro e w2 ⟨rfl, h2⟩)
      | (go_at_call 52; (with_reducible refine (HC.out _).mono ?_); rintro e w3 ⟨rfl, h3⟩)
      | (go_at_call 53; (with_reducible refine (HP.out _).mono ?_); rintro e w4 ⟨rfl, rfl⟩)
      | (go_at_call 53; (with_reducible refine (HR.out _).mono ?_); rintro e w5 ⟨rfl, rfl⟩))
  have h2' : Below w1.heap.size w1 w2 := ((Below.refl _ w1).drew).trans h2
  have h23 := bstep h2' h3
  have h13 := h1.trans (h23.mono hs1)
  have c0' := (boxed h13).1
  clear c0 c1 c2 c3 c4
  go_wp2_with fail
  refine (H0.out _).mono ?_
  rintro e w6 ⟨rfl, h6⟩
  go_wp2_with fail
  refine (HQ.out _).mono ?_
  rintro e w7 ⟨rfl, rfl⟩
  go_wp2_with fail
  go_ret
  exact ⟨rfl, bstep (bstep (bstep ((Below.refl _ _).alloc (Nat.le_refl _) _) h1) h23) h6⟩
set_option maxHeartbeats 1600000 in
set_option maxRecDepth 100000 in
theorem CodeOf_fore (a b : Nat) (c : Int) (t : List UInt8) (w : World) (ha : a ≤ 999999) (hb : b ≤ 999999) :
    Calls Tryz.prog 27 #[.agg #[.int .i64 5, .int .i64 a, .int .i64 b, .int .i64 c, .string (S t)]] w fun e w' => e = .returned (.string (S (pr (num 5) (pr (num a) (pr [48] (num b)))))) ∧ Below w.heap.size w w' := by
  have hz := num_len a; have hz0 := num_len 5; have hzb := num_len b
  have HP := Lib.hid (fun W => pair_any [48] (num b) W (by simp; omega))
  have HR := Lib.hid (fun W => pair_any (num a) (pr [48] (num b)) W (by rw [pr_len]; simp; omega))
  have HQ := Lib.hid (fun W => pair_any (num 5) (pr (num a) (pr [48] (num b))) W (by rw [pr_len, pr_len]; simp; omega))
  have HA := Lib.hid (fun W => rNumber_yes a W ha)
  have HB := Lib.hid (fun W => rNumber_yes b W hb)
  have H0 : Hid (∀ W : World, Calls Tryz.prog 52 #[.int .i64 5] W fun e w' => e = .returned (.string (S (num 5))) ∧ Below W.heap.size W w') := Lib.hid (fun W => rNumber_yes 5 W (by omega))
  clear hz hz0 hzb ha
  have hmax : max (b : Int) 0 = (b : Int) := by omega
  have hneg : (decide ((b : Int) < 0)) = false := by rw [decide_eq_false_iff_not]; omega
  have hnn : (0 : Int) ≤ (b : Int) := by omega
  go_enter Tryz.func27, Tryz.ntmps27
  go_wp2_with fail
  refine (HA.out _).mono ?_
  rintro e w1 ⟨rfl, h1⟩
  have hs1 := h1.size
  obtain ⟨c0, c1, c2, c3, c4⟩ := boxed h1
  go_wp2_with fail
  (try rw [hmax])
  refine (HB.out _).mono ?_
  rintro e w2 ⟨rfl, h2⟩
  have h12 := h1.trans (h2.mono hs1)
  clear c0 c1 c2 c3 c4
  obtain ⟨c0, c1, c2, c3, c4⟩ := boxed h12
  go_wp2_with fail
  refine (HP.out _).mono ?_
  rintro e w2 ⟨rfl, rfl⟩
  go_wp2_with fail
  refine (HR.out _).mono ?_
  rintro e w2 ⟨rfl, rfl⟩
  go_wp2_with fail
  refine (H0.out _).mono ?_
  rintro e w3 ⟨rfl, h3⟩
  go_wp2_with fail
  refine (HQ.out _).mono ?_
  rintro e w4 ⟨rfl, rfl⟩
  go_wp2_with fail
  go_ret
  exact ⟨rfl, bstep (bstep (bstep ((Below.refl _ _).alloc (Nat.le_refl _) _) h1) h2) h3⟩
set_option maxHeartbeats 1600000 in
set_option maxRecDepth 100000 in
theorem CodeOf_back (a b : Nat) (c : Int) (t : List UInt8) (w : World) (ha : a ≤ 999999) (hb : b ≤ 999999) (hb0 : 0 < b) :
    Calls Tryz.prog 27 #[.agg #[.int .i64 5, .int .i64 a, .int .i64 (-(b : Int)), .int .i64 c, .string (S t)]] w fun e w' => e = .returned (.string (S (pr (num 5) (pr (num a) (pr [49, 48, 48] (num b)))))) ∧ Below w.heap.size w w' := by
  have hz := num_len a; have hz0 := num_len 5; have hzb := num_len b
  have HO := Lib.hid (fun W => pair_any [48] (num 0) W (by simp [num_len]))
  have HO2 := Lib.hid (fun W => pair_any (num a) (pr [48] (num 0)) W (by rw [pr_len, num_len 0]; simp; omega))
  have HP := Lib.hid (fun W => pair_any [49, 48, 48] (num b) W (by simp; omega))
  have HR := Lib.hid (fun W => pair_any (num a) (pr [49, 48, 48] (num b)) W (by rw [pr_len]; simp; omega))
  have HQ := Lib.hid (fun W => pair_any (num 5) (pr (num a) (pr [49, 48, 48] (num b))) W (by rw [pr_len, pr_len]; simp; omega))
  have HA := Lib.hid (fun W => rNumber_yes a W ha)
  have HB := Lib.hid (fun W => rNumber_yes b W hb)
  have HZ : Hid (∀ W : World, Calls Tryz.prog 52 #[.int .i64 0] W fun e w' => e = .returned (.string (S (num 0))) ∧ Below W.heap.size W w') := Lib.hid (fun W => rNumber_yes 0 W (by omega))
  have H0 : Hid (∀ W : World, Calls Tryz.prog 52 #[.int .i64 5] W fun e w' => e = .returned (.string (S (num 5))) ∧ Below W.heap.size W w') := Lib.hid (fun W => rNumber_yes 5 W (by omega))
  clear hz hz0 hzb ha
  have hmax : max (-(b : Int)) 0 = 0 := by omega
  have hneg : -(b : Int) < 0 := by omega
  have hdn : - -(b : Int) = (b : Int) := by omega
  go_enter Tryz.func27, Tryz.ntmps27
  go_wp2_with fail
  refine (HA.out _).mono ?_
  rintro e w1 ⟨rfl, h1⟩
  have hs1 := h1.size
  obtain ⟨c0, c1, c2, c3, c4⟩ := boxed h1
  go_wp2_with fail
  (try rw [hmax])
  refine (HZ.out _).mono ?_
  rintro e w2 ⟨rfl, h2⟩
  have h12 := h1.trans (h2.mono hs1)
  have hs2 := h12.size
  clear c0 c1 c2 c3 c4
  obtain ⟨c0, c1, c2, c3, c4⟩ := boxed h12
  go_wp2_with fail
  refine (HO.out _).mono ?_
  rintro e w2 ⟨rfl, rfl⟩
  go_wp2_with fail
  refine (HO2.out _).mono ?_
  rintro e w2 ⟨rfl, rfl⟩
  go_wp2_with fail
  (try rw [hdn])
  refine (HB.out _).mono ?_
  rintro e w3 ⟨rfl, h3⟩
  have h13 := h12.trans (h3.mono hs2)
  clear c0 c1 c2 c3 c4
  obtain ⟨c0, c1, c2, c3, c4⟩ := boxed h13
  go_wp2_with fail
  refine (HP.out _).mono ?_
  rintro e w4 ⟨rfl, rfl⟩
  go_wp2_with fail
  refine (HR.out _).mono ?_
  rintro e w4 ⟨rfl, rfl⟩
  go_wp2_with fail
  refine (H0.out _).mono ?_
  rintro e w5 ⟨rfl, h5⟩
  go_wp2_with fail
  refine (HQ.out _).mono ?_
  rintro e w6 ⟨rfl, rfl⟩
  go_wp2_with fail
  go_ret
  exact ⟨rfl, bstep (bstep (bstep (bstep ((Below.refl _ _).alloc (Nat.le_refl _) _) h1) h2) h3) h5⟩
end Go.Proofs.YtlfoigkpfooopaaGreatDoor
