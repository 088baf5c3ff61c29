/- Programs as lists of instructions; the reference's Register, Right. By an AI agent. -/
import Derived.Test.YtmhoacnbmbhcjaaGreatDoorBase
import Derived.BigGuard
import Derived.Laws.StructEq
import Derived.Test.YtmhoacnbmbhcjaaGreatDoorLsts
import Derived.Laws.AppendOwnNone
namespace Go.Proofs.YtmhoacnbmbhcjaaGreatDoor
open Go.RowKit Pl

structure Ins where
  op : Int
  a : Int
  b : Int
  c : Int
  tree : List UInt8
def Ins.agg (x : Ins) : Value := .agg #[.int .i64 x.op, .int .i64 x.a, .int .i64 x.b, .int .i64 x.c, .string (S x.tree)]

def reg (n : Int) : Bool := decide (0 ≤ n) && decide (n < 32)
theorem reg_true {n : Int} (h : reg n = true) : 0 ≤ n ∧ n < 32 := by simpa [reg] using h

set_option maxHeartbeats 400000 in
set_option maxRecDepth 100000 in
theorem Register_any (n : Int) (w : World) :
    Calls Tryz.prog 120 #[.int .i64 n] w fun e w' => e = .returned (.bool (reg n)) ∧ w = w' := by
  by_cases h : 0 ≤ n
  · by_cases h2 : n < 32
    · have hr : reg n = true := by simp [reg, h, h2]
      have HR := Lib.hid hr; clear hr
      go_enter Tryz.func120, Tryz.ntmps120
      go_wp2_with fail
      go_ret
      exact ⟨ret_bool HR.out.symm, rfl⟩
    · have hr : reg n = false := by simp [reg, h2]
      have HR := Lib.hid hr; clear hr
      go_enter Tryz.func120, Tryz.ntmps120
      go_wp2_with fail
      go_ret
      exact ⟨ret_bool HR.out.symm, rfl⟩
  · have hr : reg n = false := by simp [reg, h]
    have HR := Lib.hid hr; clear hr
    go_enter Tryz.func120, Tryz.ntmps120
    go_wp2_with fail
    go_ret
    exact ⟨ret_bool HR.out.symm, rfl⟩
theorem Register_is (b : Bool) (n : Int) (w : World) (h : reg n = b) :
    Calls Tryz.prog 120 #[.int .i64 n] w fun e w' => e = .returned (.bool b) ∧ w = w' := by
  rw [← h]; exact Register_any n w

theorem rValid_eq (b : Bool) (s : ByteArray) (w : World) (hs : s.size ≤ 281474976710656) (h : vld s.data.toList = b) :
    Calls Tryz.prog 28 #[.string s] w fun e w' => e = .returned (.bool b) ∧ w = w' := by
  rw [← h]; exact rValid_any s w hs
/-- an instruction may stand at place i of n -/
def right (x : Ins) (i n : Int) : Bool :=
  reg x.a && (x.op == 0 || x.tree.isEmpty) && (x.op == 2 || x.c == 0) &&
    (if x.op = 0 then x.b == 0 && vld x.tree
     else if x.op = 1 ∨ x.op = 3 ∨ x.op = 4 then reg x.b
     else if x.op = 2 then reg x.b && reg x.c
     else if x.op = 5 then decide (-i ≤ x.b) && decide (x.b ≤ n - i)
     else false)

set_option maxHeartbeats 800000 in
set_option maxRecDepth 100000 in
theorem right_reg (op a b c : Int) (t : List UInt8) (i n : Int) (w : World) (h : reg a = false) :
    Calls Tryz.prog 56 #[.agg #[.int .i64 op, .int .i64 a, .int .i64 b, .int .i64 c, .string (S t)], .int .i64 i, .int .i64 n] w fun e w' => e = .returned (.bool false) ∧ Below w.heap.size w w' := by
  have H := Lib.hid (fun W => Register_is false a W h); clear h
  go_enter Tryz.func56, Tryz.ntmps56
  go_wp2_with fail
  refine (H.out _).mono ?_
  rintro e w1 ⟨rfl, rfl⟩
  go_wp2_with fail
  go_ret
  exact ⟨rfl, (Below.refl _ _).alloc (Nat.le_refl _) _⟩
set_option maxHeartbeats 800000 in
set_option maxRecDepth 100000 in
theorem right_tree (op a b c : Int) (t : List UInt8) (i n : Int) (w : World) (h : reg a = true) (h0 : op ≠ 0) (ht : t ≠ []) :
    Calls Tryz.prog 56 #[.agg #[.int .i64 op, .int .i64 a, .int .i64 b, .int .i64 c, .string (S t)], .int .i64 i, .int .i64 n] w fun e w' => e = .returned (.bool false) ∧ Below w.heap.size w w' := by
  have H := Lib.hid (fun W => Register_is true a W h); clear h
  have o0 : (op != 0) = true := by rw [bne_iff_ne]; exact h0
  have o0' : (op == 0) = false := beq_eq_false_iff_ne.2 h0
  have t0 : t.isEmpty = false := by simpa using ht
  have t1 : (t == []) = false := beq_eq_false_iff_ne.2 ht
  clear h0 ht
  go_enter Tryz.func56, Tryz.ntmps56
  go_wp2_with fail
  refine (H.out _).mono ?_
  rintro e w1 ⟨rfl, rfl⟩
  go_wp2_with fail
  go_ret
  exact ⟨rfl, (Below.refl _ _).alloc (Nat.le_refl _) _⟩
set_option maxHeartbeats 800000 in
set_option maxRecDepth 100000 in
theorem right_c0 (a b c : Int) (t : List UInt8) (i n : Int) (w : World) (h : reg a = true) (hc : c ≠ 0) :
    Calls Tryz.prog 56 #[.agg #[.int .i64 0, .int .i64 a, .int .i64 b, .int .i64 c, .string (S t)], .int .i64 i, .int .i64 n] w fun e w' => e = .returned (.bool false) ∧ Below w.heap.size w w' := by
  have H := Lib.hid (fun W => Register_is true a W h); clear h
  have c0 : (c != 0) = true := by rw [bne_iff_ne]; exact hc
  clear hc
  go_enter Tryz.func56, Tryz.ntmps56
  go_wp2_with fail
  refine (H.out _).mono ?_
  rintro e w1 ⟨rfl, rfl⟩
  go_wp2_with fail
  go_ret
  exact ⟨rfl, (Below.refl _ _).alloc (Nat.le_refl _) _⟩
set_option maxHeartbeats 800000 in
set_option maxRecDepth 100000 in
theorem right_c1 (op a b c : Int) (i n : Int) (w : World) (h : reg a = true) (h0 : op ≠ 0) (h2 : op ≠ 2) (hc : c ≠ 0) :
    Calls Tryz.prog 56 #[.agg #[.int .i64 op, .int .i64 a, .int .i64 b, .int .i64 c, .string ⟨#[]⟩], .int .i64 i, .int .i64 n] w fun e w' => e = .returned (.bool false) ∧ Below w.heap.size w w' := by
  have H := Lib.hid (fun W => Register_is true a W h); clear h
  have o0 : (op != 0) = true := by rw [bne_iff_ne]; exact h0
  have o0' : (op == 0) = false := beq_eq_false_iff_ne.2 h0
  have o2 : (op != 2) = true := by rw [bne_iff_ne]; exact h2
  have o2' : (op == 2) = false := beq_eq_false_iff_ne.2 h2
  have c0 : (c != 0) = true := by rw [bne_iff_ne]; exact hc
  clear h0 h2 hc
  go_enter Tryz.func56, Tryz.ntmps56
  go_wp2_with fail
  refine (H.out _).mono ?_
  rintro e w1 ⟨rfl, rfl⟩
  go_wp2_with fail
  go_ret
  exact ⟨rfl, (Below.refl _ _).alloc (Nat.le_refl _) _⟩
set_option maxHeartbeats 800000 in
set_option maxRecDepth 100000 in
theorem right_set0 (a b : Int) (t : List UInt8) (i n : Int) (w : World) (h : reg a = true) (hb : b ≠ 0) :
    Calls Tryz.prog 56 #[.agg #[.int .i64 0, .int .i64 a, .int .i64 b, .int .i64 0, .string (S t)], .int .i64 i, .int .i64 n] w fun e w' => e = .returned (.bool false) ∧ Below w.heap.size w w' := by
  have H := Lib.hid (fun W => Register_is true a W h); clear h
  have b0 : (b == 0) = false := beq_eq_false_iff_ne.2 hb
  clear hb
  go_enter Tryz.func56, Tryz.ntmps56
  go_wp2_with fail
  refine (H.out _).mono ?_
  rintro e w1 ⟨rfl, rfl⟩
  go_wp2_with fail
  go_ret
  exact ⟨rfl, (Below.refl _ _).alloc (Nat.le_refl _) _⟩
set_option maxHeartbeats 800000 in
set_option maxRecDepth 100000 in
theorem right_set1 (a : Int) (t : List UInt8) (v : Bool) (i n : Int) (w : World) (h : reg a = true) (hl : t.length ≤ 281474976710656) (hv : vld t = v) :
    Calls Tryz.prog 56 #[.agg #[.int .i64 0, .int .i64 a, .int .i64 0, .int .i64 0, .string (S t)], .int .i64 i, .int .i64 n] w fun e w' => e = .returned (.bool v) ∧ Below w.heap.size w w' := by
  have H := Lib.hid (fun W => Register_is true a W h); clear h
  have HV := Lib.hid (fun W => rValid_eq v (S t) W (by rw [S_size]; exact hl) hv); clear hl hv
  go_enter Tryz.func56, Tryz.ntmps56
  go_wp2_with fail
  refine (H.out _).mono ?_
  rintro e w1 ⟨rfl, rfl⟩
  go_wp2_with fail
  refine (HV.out _).mono ?_
  rintro e w1 ⟨rfl, rfl⟩
  go_wp2_with fail
  go_ret
  exact ⟨rfl, (Below.refl _ _).alloc (Nat.le_refl _) _⟩
set_option maxHeartbeats 800000 in
set_option maxRecDepth 100000 in
theorem right_move1 (a b : Int) (v : Bool) (i n : Int) (w : World) (h : reg a = true) (hv : reg b = v) :
    Calls Tryz.prog 56 #[.agg #[.int .i64 1, .int .i64 a, .int .i64 b, .int .i64 0, .string ⟨#[]⟩], .int .i64 i, .int .i64 n] w fun e w' => e = .returned (.bool v) ∧ Below w.heap.size w w' := by
  have H := Lib.hid (fun W => Register_is true a W h); clear h
  have HV := Lib.hid (fun W => Register_is v b W hv); clear hv
  go_enter Tryz.func56, Tryz.ntmps56
  go_wp2_with fail
  refine (H.out _).mono ?_
  rintro e w1 ⟨rfl, rfl⟩
  go_wp2_with fail
  refine (HV.out _).mono ?_
  rintro e w1 ⟨rfl, rfl⟩
  go_wp2_with fail
  go_ret
  exact ⟨rfl, (Below.refl _ _).alloc (Nat.le_refl _) _⟩
set_option maxHeartbeats 800000 in
set_option maxRecDepth 100000 in
theorem right_move3 (a b : Int) (v : Bool) (i n : Int) (w : World) (h : reg a = true) (hv : reg b = v) :
    Calls Tryz.prog 56 #[.agg #[.int .i64 3, .int .i64 a, .int .i64 b, .int .i64 0, .string ⟨#[]⟩], .int .i64 i, .int .i64 n] w fun e w' => e = .returned (.bool v) ∧ Below w.heap.size w w' := by
  have H := Lib.hid (fun W => Register_is true a W h); clear h
  have HV := Lib.hid (fun W => Register_is v b W hv); clear hv
  go_enter Tryz.func56, Tryz.ntmps56
  go_wp2_with fail
  refine (H.out _).mono ?_
  rintro e w1 ⟨rfl, rfl⟩
  go_wp2_with fail
  refine (HV.out _).mono ?_
  rintro e w1 ⟨rfl, rfl⟩
  go_wp2_with fail
  go_ret
  exact ⟨rfl, (Below.refl _ _).alloc (Nat.le_refl _) _⟩
set_option maxHeartbeats 800000 in
set_option maxRecDepth 100000 in
theorem right_move4 (a b : Int) (v : Bool) (i n : Int) (w : World) (h : reg a = true) (hv : reg b = v) :
    Calls Tryz.prog 56 #[.agg #[.int .i64 4, .int .i64 a, .int .i64 b, .int .i64 0, .string ⟨#[]⟩], .int .i64 i, .int .i64 n] w fun e w' => e = .returned (.bool v) ∧ Below w.heap.size w w' := by
  have H := Lib.hid (fun W => Register_is true a W h); clear h
  have HV := Lib.hid (fun W => Register_is v b W hv); clear hv
  go_enter Tryz.func56, Tryz.ntmps56
  go_wp2_with fail
  refine (H.out _).mono ?_
  rintro e w1 ⟨rfl, rfl⟩
  go_wp2_with fail
  refine (HV.out _).mono ?_
  rintro e w1 ⟨rfl, rfl⟩
  go_wp2_with fail
  go_ret
  exact ⟨rfl, (Below.refl _ _).alloc (Nat.le_refl _) _⟩
set_option maxHeartbeats 800000 in
set_option maxRecDepth 100000 in
theorem right_cons0 (a b c : Int) (i n : Int) (w : World) (h : reg a = true) (hb : reg b = false) :
    Calls Tryz.prog 56 #[.agg #[.int .i64 2, .int .i64 a, .int .i64 b, .int .i64 c, .string ⟨#[]⟩], .int .i64 i, .int .i64 n] w fun e w' => e = .returned (.bool false) ∧ Below w.heap.size w w' := by
  have H := Lib.hid (fun W => Register_is true a W h); clear h
  have HB := Lib.hid (fun W => Register_is false b W hb); clear hb
  go_enter Tryz.func56, Tryz.ntmps56
  go_wp2_with fail
  refine (H.out _).mono ?_
  rintro e w1 ⟨rfl, rfl⟩
  go_wp2_with fail
  refine (HB.out _).mono ?_
  rintro e w1 ⟨rfl, rfl⟩
  go_wp2_with fail
  go_ret
  exact ⟨rfl, (Below.refl _ _).alloc (Nat.le_refl _) _⟩
set_option maxHeartbeats 800000 in
set_option maxRecDepth 100000 in
theorem right_cons1 (a b c : Int) (v : Bool) (i n : Int) (w : World) (h : reg a = true) (hb : reg b = true) (hv : reg c = v) :
    Calls Tryz.prog 56 #[.agg #[.int .i64 2, .int .i64 a, .int .i64 b, .int .i64 c, .string ⟨#[]⟩], .int .i64 i, .int .i64 n] w fun e w' => e = .returned (.bool v) ∧ Below w.heap.size w w' := by
  have H := Lib.hid (fun W => Register_is true a W h); clear h
  have HB := Lib.hid (fun W => Register_is true b W hb); clear hb
  have HV := Lib.hid (fun W => Register_is v c W hv); clear hv
  go_enter Tryz.func56, Tryz.ntmps56
  go_wp2_with fail
  refine (H.out _).mono ?_
  rintro e w1 ⟨rfl, rfl⟩
  go_wp2_with fail
  refine (HB.out _).mono ?_
  rintro e w1 ⟨rfl, rfl⟩
  go_wp2_with fail
  refine (HV.out _).mono ?_
  rintro e w1 ⟨rfl, rfl⟩
  go_wp2_with fail
  go_ret
  exact ⟨rfl, (Below.refl _ _).alloc (Nat.le_refl _) _⟩
set_option maxHeartbeats 800000 in
set_option maxRecDepth 100000 in
theorem right_jump0 (a b : Int) (i n : Int) (w : World) (h : reg a = true) (hi0 : 0 ≤ i) (hi1 : i ≤ 4000) (hb : b < -i) :
    Calls Tryz.prog 56 #[.agg #[.int .i64 5, .int .i64 a, .int .i64 b, .int .i64 0, .string ⟨#[]⟩], .int .i64 i, .int .i64 n] w fun e w' => e = .returned (.bool false) ∧ Below w.heap.size w w' := by
  have H := Lib.hid (fun W => Register_is true a W h); clear h
  go_enter Tryz.func56, Tryz.ntmps56
  go_wp2_with fail
  refine (H.out _).mono ?_
  rintro e w1 ⟨rfl, rfl⟩
  go_wp2_with fail
  go_ret
  exact ⟨rfl, (Below.refl _ _).alloc (Nat.le_refl _) _⟩
set_option maxHeartbeats 800000 in
set_option maxRecDepth 100000 in
theorem right_jump1 (a b : Int) (i n : Int) (w : World) (h : reg a = true) (hi0 : 0 ≤ i) (hi1 : i ≤ 4000) (hn0 : 0 ≤ n) (hn1 : n ≤ 4000) (hb : -i ≤ b) :
    Calls Tryz.prog 56 #[.agg #[.int .i64 5, .int .i64 a, .int .i64 b, .int .i64 0, .string ⟨#[]⟩], .int .i64 i, .int .i64 n] w fun e w' => e = .returned (.bool (decide (b ≤ n - i))) ∧ Below w.heap.size w w' := by
  have H := Lib.hid (fun W => Register_is true a W h); clear h
  go_enter Tryz.func56, Tryz.ntmps56
  go_wp2_with fail
  refine (H.out _).mono ?_
  rintro e w1 ⟨rfl, rfl⟩
  go_wp2_with fail
  go_ret
  exact ⟨rfl, (Below.refl _ _).alloc (Nat.le_refl _) _⟩
set_option maxHeartbeats 800000 in
set_option maxRecDepth 100000 in
theorem right_other (op a b : Int) (i n : Int) (w : World) (h : reg a = true) (h0 : op ≠ 0) (h1 : op ≠ 1) (h2 : op ≠ 2) (h3 : op ≠ 3) (h4 : op ≠ 4) (h5 : op ≠ 5) :
    Calls Tryz.prog 56 #[.agg #[.int .i64 op, .int .i64 a, .int .i64 b, .int .i64 0, .string ⟨#[]⟩], .int .i64 i, .int .i64 n] w fun e w' => e = .returned (.bool false) ∧ Below w.heap.size w w' := by
  have H := Lib.hid (fun W => Register_is true a W h); clear h
  have o0 : (op != 0) = true := by rw [bne_iff_ne]; exact h0
  have o0' : (op == 0) = false := beq_eq_false_iff_ne.2 h0
  have o2 : (op != 2) = true := by rw [bne_iff_ne]; exact h2
  have o2' : (op == 2) = false := beq_eq_false_iff_ne.2 h2
  have o1' : (op == 1) = false := beq_eq_false_iff_ne.2 h1
  have o3' : (op == 3) = false := beq_eq_false_iff_ne.2 h3
  have o4' : (op == 4) = false := beq_eq_false_iff_ne.2 h4
  have o5' : (op == 5) = false := beq_eq_false_iff_ne.2 h5
  clear h0 h1 h2 h3 h4 h5
  go_enter Tryz.func56, Tryz.ntmps56
  go_wp2_with fail
  refine (H.out _).mono ?_
  rintro e w1 ⟨rfl, rfl⟩
  go_wp2_with fail
  go_ret
  exact ⟨rfl, (Below.refl _ _).alloc (Nat.le_refl _) _⟩

theorem right_any (x : Ins) (i n : Int) (w : World) (hi0 : 0 ≤ i) (hi1 : i ≤ 4000) (hn0 : 0 ≤ n) (hn1 : n ≤ 4000) (hl : x.tree.length ≤ 281474976710656) :
    Calls Tryz.prog 56 #[x.agg, .int .i64 i, .int .i64 n] w fun e w' => e = .returned (.bool (right x i n)) ∧ Below w.heap.size w w' := by
  obtain ⟨op, a, b, c, t⟩ := x
  show Calls Tryz.prog 56 #[.agg #[.int .i64 op, .int .i64 a, .int .i64 b, .int .i64 c, .string (S t)], .int .i64 i, .int .i64 n] w _
  have put : ∀ {v : Bool}, (right ⟨op, a, b, c, t⟩ i n = v) → Calls Tryz.prog 56 #[.agg #[.int .i64 op, .int .i64 a, .int .i64 b, .int .i64 c, .string (S t)], .int .i64 i, .int .i64 n] w (fun e w' => e = .returned (.bool v) ∧ Below w.heap.size w w') →
      Calls Tryz.prog 56 #[.agg #[.int .i64 op, .int .i64 a, .int .i64 b, .int .i64 c, .string (S t)], .int .i64 i, .int .i64 n] w (fun e w' => e = .returned (.bool (right ⟨op, a, b, c, t⟩ i n)) ∧ Below w.heap.size w w') := fun h k => by rw [h]; exact k
  cases ha : reg a with
  | false => exact put (by simp [right, ha]) (right_reg op a b c t i n w ha)
  | true =>
    by_cases h0 : op = 0
    · subst h0
      by_cases hc : c = 0
      · subst hc
        by_cases hb : b = 0
        · subst hb; exact put (v := vld t) (by simp [right, ha]) (right_set1 a t _ i n w ha hl rfl)
        · exact put (by simp [right, ha, hb]) (right_set0 a b t i n w ha hb)
      · exact put (by simp [right, ha, hc]) (right_c0 a b c t i n w ha hc)
    · by_cases ht : t = []
      · subst ht
        by_cases h2 : op = 2
        · subst h2
          cases hb : reg b with
          | false => exact put (by simp [right, ha, hb]) (right_cons0 a b c i n w ha hb)
          | true => exact put (v := reg c) (by simp [right, ha, hb]) (right_cons1 a b c _ i n w ha hb rfl)
        · by_cases hc : c = 0
          · subst hc
            by_cases h1 : op = 1
            · subst h1; exact put (v := reg b) (by simp [right, ha]) (right_move1 a b _ i n w ha rfl)
            · by_cases h3 : op = 3
              · subst h3; exact put (v := reg b) (by simp [right, ha]) (right_move3 a b _ i n w ha rfl)
              · by_cases h4 : op = 4
                · subst h4; exact put (v := reg b) (by simp [right, ha]) (right_move4 a b _ i n w ha rfl)
                · by_cases h5 : op = 5
                  · subst h5
                    by_cases hb : -i ≤ b
                    · exact put (v := decide (b ≤ n - i)) (by simp [right, ha, hb]) (right_jump1 a b i n w ha hi0 hi1 hn0 hn1 hb)
                    · exact put (by simp [right, ha, hb]) (right_jump0 a b i n w ha hi0 hi1 (by omega))
                  · exact put (by simp [right, ha, h0, h1, h2, h3, h4, h5]) (right_other op a b i n w ha h0 h1 h2 h3 h4 h5)
          · exact put (by simp [right, ha, h0, h2, hc]) (right_c1 op a b c i n w ha h0 h2 hc)
      · exact put (by simp [right, ha, h0, ht]) (right_tree op a b c t i n w ha h0 ht)
end Go.Proofs.YtmhoacnbmbhcjaaGreatDoor

namespace Go.Proofs.YtmhoacnbmbhcjaaGreatDoor
open Go.RowKit Pl

/-- cells of a slice of instructions -/
def ProgAt (w : World) (b off : Nat) (ps : List Ins) : Prop :=
  b < w.heap.size ∧ ∀ k x, ps[k]? = some x → w.cell? ⟨b, off + k * 5, none⟩ = some (.int .i64 x.op) ∧ w.cell? ⟨b, off + k * 5 + 1, none⟩ = some (.int .i64 x.a) ∧
    w.cell? ⟨b, off + k * 5 + 2, none⟩ = some (.int .i64 x.b) ∧ w.cell? ⟨b, off + k * 5 + 3, none⟩ = some (.int .i64 x.c) ∧ w.cell? ⟨b, off + k * 5 + 4, none⟩ = some (.string (S x.tree))
theorem ProgAt.below {w w1 : World} {b off : Nat} {ps : List Ins} (h : ProgAt w b off ps) (hb : Below w.heap.size w w1) : ProgAt w1 b off ps := by
  refine ⟨Nat.lt_of_lt_of_le h.1 hb.size, fun k x hk => ?_⟩
  have := h.2 k x hk
  have e : ∀ o, w1.cell? ⟨b, o, none⟩ = w.cell? ⟨b, o, none⟩ := fun o => hb.cell (p := ⟨b, o, none⟩) h.1
  simpa only [e] using this
theorem get_at {ps : List Ins} {k : Nat} (h : k < ps.length) : ∃ x, ps[k]? = some x := ⟨ps[k], List.getElem?_eq_getElem h⟩
/-- a value that reads as a program -/
def ArgP (w : World) (v : Value) (ps : List Ins) : Prop :=
  (ps = [] ∧ (v = .slice none 0 0 ∨ ∃ ad cap, v = .slice (some ad) 0 cap)) ∨ (0 < ps.length ∧ ∃ b off cap, v = .slice (some ⟨b, off, none⟩) ps.length cap ∧ ProgAt w b off ps)
theorem ArgP.below {w w1 : World} {v : Value} {ps : List Ins} (h : ArgP w v ps) (hb : Below w.heap.size w w1) : ArgP w1 v ps := by
  rcases h with h | ⟨h0, b, off, cap, h1, h2⟩
  · exact Or.inl h
  · exact Or.inr ⟨h0, b, off, cap, h1, h2.below hb⟩

theorem empty_arg {v : Value} (h : v = .slice none 0 0 ∨ ∃ ad cap, v = .slice (some ad) 0 cap) : ∃ a cap, v = .slice a 0 cap := by
  rcases h with h | ⟨ad, cap, h⟩
  · exact ⟨_, _, h⟩
  · exact ⟨_, _, h⟩

/-- the characters of the trees of the first k instructions -/
def treesTo (ps : List Ins) (k : Nat) : Nat := ((ps.take k).map fun x => x.tree.length).sum
def trees (ps : List Ins) : Nat := (ps.map fun x => x.tree.length).sum
theorem treesTo_succ {ps : List Ins} {k : Nat} {x : Ins} (h : ps[k]? = some x) : treesTo ps (k + 1) = treesTo ps k + x.tree.length := by
  obtain ⟨hk, rfl⟩ := List.getElem?_eq_some_iff.1 h
  unfold treesTo
  rw [List.take_succ_eq_append_getElem hk, List.map_append, List.sum_append]
  simp only [List.map_cons, List.map_nil, List.sum_cons, List.sum_nil, Nat.add_zero]
theorem treesTo_all {ps : List Ins} {k : Nat} (h : ps.length ≤ k) : treesTo ps k = trees ps := by unfold treesTo trees; rw [List.take_of_length_le h]
theorem treesTo_top {ps : List Ins} (k : Nat) : treesTo ps k ≤ trees ps := by
  have h := List.take_append_drop k ps
  have : trees ps = treesTo ps k + trees (ps.drop k) := by
    unfold treesTo trees
    rw [← List.sum_append, ← List.map_append, h]
  omega
theorem treesTo_le {ps : List Ins} (hz : ∀ x ∈ ps, x.tree.length ≤ 281474976710656) : ∀ k, treesTo ps k ≤ k * 281474976710656 := by
  intro k
  induction k with
  | zero => simp [treesTo]
  | succ k ih =>
    rcases Nat.lt_or_ge k ps.length with h | h
    · obtain ⟨x, hx⟩ := get_at h
      have := hz x (List.mem_of_getElem? hx)
      rw [treesTo_succ hx]; omega
    · have : treesTo ps (k + 1) = treesTo ps k := by rw [treesTo_all (by omega), treesTo_all h]
      omega

set_option maxHeartbeats 800000 in
set_option maxRecDepth 100000 in
theorem Trees_none (w : World) (a : Option Addr) (cap : Nat) :
    Calls Tryz.prog 54 #[.slice a 0 cap] w fun e w' => e = .returned (.int .i64 0) ∧ w = w' := by
  go_enter Tryz.func54, Tryz.ntmps54
  go_wp2
  go_loop [3, 4] (fun n i => i = .int .i64 0 ∧ n = .int .i64 0) (fun _ _ => 0)
  case atStart => exact ⟨rfl, rfl⟩
  case round =>
    obtain ⟨rfl, rfl⟩ := hrel
    go_wp2
    go_ret
    exact ⟨rfl, rfl⟩
set_option maxHeartbeats 800000 in
set_option maxRecDepth 100000 in
theorem Trees_some (w : World) (b off cap : Nat) (ps : List Ins) (hc : ProgAt w b off ps) (hm : ps.length ≤ 4000) (hz : ∀ x ∈ ps, x.tree.length ≤ 281474976710656) :
    Calls Tryz.prog 54 #[.slice (some ⟨b, off, none⟩) ps.length cap] w fun e w' => e = .returned (.int .i64 (trees ps)) ∧ w = w' := by
  generalize hnn : ps.length = n at *
  have HN := Lib.hid hnn; have HC := Lib.hid hc; have HZ := Lib.hid hz; have HL := Lib.hid (treesTo_le hz); clear hnn hc hz
  go_enter Tryz.func54, Tryz.ntmps54
  go_wp2
  go_loop [3, 4] (fun t i => ∃ k : Nat, k ≤ n ∧ i = .int .i64 k ∧ t = .int .i64 (treesTo ps k)) (fun _ i => n - (intOf i).toNat)
  case atStart => exact ⟨0, Nat.zero_le _, rfl, rfl⟩
  case round =>
    obtain ⟨k, hk, rfl, rfl⟩ := hrel
    have hle := HL.out k
    by_cases hlt : k < n
    · obtain ⟨x, hx⟩ := get_at (ps := ps) (k := k) (by rw [HN.out]; exact hlt)
      have hcell := (HC.out.2 k x hx).2.2.2.2
      have hxl := HZ.out x (List.mem_of_getElem? hx)
      have HT := Lib.hid (treesTo_succ hx)
      clear hx
      go_wp2
      go_round
      case rel => exact ⟨k + 1, by omega, by go_num, by rw [HT.out]; go_num⟩
      case measure => simp [intOf]; omega
    · have HT := Lib.hid (treesTo_all (ps := ps) (k := k) (by rw [HN.out]; omega))
      go_wp2
      go_ret
      exact ⟨ret_int (by rw [HT.out]), rfl⟩
theorem Trees_arg (w : World) (v : Value) (ps : List Ins) (h : ArgP w v ps) (hm : ps.length ≤ 4000) (hz : ∀ x ∈ ps, x.tree.length ≤ 281474976710656) :
    Calls Tryz.prog 54 #[v] w fun e w' => e = .returned (.int .i64 (trees ps)) ∧ w = w' := by
  rcases h with ⟨rfl, h⟩ | ⟨_, b, off, cap, rfl, hc⟩
  · obtain ⟨a, cap, rfl⟩ := empty_arg h
    exact Trees_none w a cap
  · exact Trees_some w b off cap ps hc hm hz

def AllR (ps : List Ins) : Prop := ∀ (k : Nat) (x : Ins), ps[k]? = some x → right x k ps.length = true
def PValid (ps : List Ins) : Prop := ps.length ≤ 4000 ∧ trees ps ≤ 2000000 ∧ AllR ps
theorem right_tree_le {x : Ins} {i n : Int} (h : right x i n = true) : x.tree.length ≤ 2000000 := by
  by_cases h0 : x.op = 0
  · simp only [right, h0, Bool.and_eq_true, if_true] at h
    exact (vld_iff.1 h.2.2).1
  · simp only [right, Bool.and_eq_true, Bool.or_eq_true] at h
    have : x.tree = [] := by
      rcases h.1.1.2 with h1 | h1
      · exact absurd (by simpa using h1) h0
      · simpa using h1
    rw [this]; simp

set_option maxHeartbeats 800000 in
set_option maxRecDepth 100000 in
theorem PV_long (w : World) (a : Option Addr) (n cap : Nat) (h : 4000 < n) (h2 : n ≤ 281474976710656) :
    Calls Tryz.prog 18 #[.slice a n cap] w fun e w' => e = .returned (.bool false) ∧ Below w.heap.size w w' := by
  go_enter Tryz.func18, Tryz.ntmps18
  go_wp2_with fail
  go_ret
  exact ⟨rfl, Below.refl _ _⟩
set_option maxHeartbeats 800000 in
set_option maxRecDepth 100000 in
theorem PV_none (w : World) (a : Option Addr) (cap : Nat) :
    Calls Tryz.prog 18 #[.slice a 0 cap] w fun e w' => e = .returned (.bool true) ∧ Below w.heap.size w w' := by
  go_enter Tryz.func18, Tryz.ntmps18
  go_wp2_with fail
  refine (Trees_none _ a cap).mono ?_
  rintro e w1 ⟨rfl, rfl⟩
  go_wp2_with fail
  go_loop [3] (fun i => i = .int .i64 0) (fun _ => 0)
  case atStart => rfl
  case round =>
    subst hrel
    go_wp2_with fail
    go_ret
    exact ⟨rfl, Below.refl _ _⟩
set_option maxHeartbeats 800000 in
set_option maxRecDepth 100000 in
theorem PV_trees (w : World) (b off cap : Nat) (ps : List Ins) (hc : ProgAt w b off ps) (hm : ps.length ≤ 4000) (hz : ∀ x ∈ ps, x.tree.length ≤ 281474976710656) (ht : 2000000 < trees ps) :
    Calls Tryz.prog 18 #[.slice (some ⟨b, off, none⟩) ps.length cap] w fun e w' => e = .returned (.bool false) ∧ Below w.heap.size w w' := by
  have HT := Lib.hid (Trees_some w b off cap ps hc hm hz)
  have h1 : (2000000 : Int) < (trees ps : Int) := by omega
  generalize trees ps = q at *
  clear hc hz ht
  go_enter Tryz.func18, Tryz.ntmps18
  go_wp2_with fail
  refine HT.out.mono ?_
  rintro e w1 ⟨rfl, rfl⟩
  go_wp2_with fail
  go_ret
  exact ⟨rfl, Below.refl _ _⟩
theorem PV_step (x : Ins) (k n : Nat) (v : Bool) (hk : k ≤ 4000) (hn : n ≤ 4000) (hl : x.tree.length ≤ 281474976710656) (hv : right x k n = v) (W : World) :
    Calls Tryz.prog 56 #[.agg #[.int .i64 x.op, .int .i64 x.a, .int .i64 x.b, .int .i64 x.c, .string (S x.tree)], .int .i64 k, .int .i64 n] W fun e w' => e = .returned (.bool v) ∧ Below W.heap.size W w' := by
  rw [← hv]; exact right_any x k n W (by omega) (by omega) (by omega) (by omega) hl
set_option maxHeartbeats 1600000 in
set_option maxRecDepth 100000 in
theorem PV_some (w : World) (b off cap : Nat) (ps : List Ins) (v : Bool) (hc : ProgAt w b off ps) (hm : ps.length ≤ 4000) (hz : ∀ x ∈ ps, x.tree.length ≤ 281474976710656) (ht : trees ps ≤ 2000000) (hv : v = true ↔ AllR ps) :
    Calls Tryz.prog 18 #[.slice (some ⟨b, off, none⟩) ps.length cap] w fun e w' => e = .returned (.bool v) ∧ Below w.heap.size w w' := by
  have HT := Lib.hid (Trees_some w b off cap ps hc hm hz)
  have h1 : (trees ps : Int) ≤ 2000000 := by omega
  have HA : Hid (v = true ↔ ∀ (k : Nat) (x : Ins), ps[k]? = some x → right x k ps.length = true) := Lib.hid hv
  generalize trees ps = q at *
  generalize hnn : ps.length = n at *
  have HN := Lib.hid hnn; have HC := Lib.hid hc; have HZ := Lib.hid hz
  clear hc hz ht hv hnn
  go_enter Tryz.func18, Tryz.ntmps18
  go_wp2_with fail
  refine HT.out.mono ?_
  rintro e w1 ⟨rfl, rfl⟩
  go_wp2_with fail
  go_loopw [3] (fun i wr => ∃ k : Nat, k ≤ n ∧ i = .int .i64 k ∧ Below w.heap.size w wr ∧ Hid (∀ (j : Nat) (x : Ins), j < k → ps[j]? = some x → right x j n = true)) (fun i _ => n - (intOf i).toNat)
  case atStart => exact ⟨0, Nat.zero_le _, rfl, Below.refl _ _, Lib.hid (fun j x h => by omega)⟩
  case round =>
    obtain ⟨k, hk, rfl, hb, hK⟩ := hrel
    by_cases hlt : k < n
    · obtain ⟨x, hx⟩ := get_at (ps := ps) (k := k) (by rw [HN.out]; exact hlt)
      have hcell := (HC.out.below hb).2 k x hx
      obtain ⟨c0, c1, c2, c3, c4⟩ := hcell
      have hxl := HZ.out x (List.mem_of_getElem? hx)
      have HX := Lib.hid hx; clear hx
      cases hr : right x k n with
      | true =>
        have HR := Lib.hid (PV_step x k n true (by omega) hm hxl hr)
        have HRR := Lib.hid hr; clear hr
        go_wp2_with fail
        refine (HR.out _).mono ?_
        rintro e w2 ⟨rfl, hb2⟩
        go_wp2_with fail
        go_roundw
        case rel => exact ⟨k + 1, by omega, by go_num, hb.trans (hb2.mono hb.size), Lib.hid (fun j y h1 h2 => by
          rcases Nat.lt_or_ge j k with h | h
          · exact hK.out j y h h2
          · obtain rfl : j = k := by omega
            rw [HX.out] at h2; cases h2; exact HRR.out)⟩
        case measure => simp [intOf]; omega
      | false =>
        have HR := Lib.hid (PV_step x k n false (by omega) hm hxl hr)
        have hvf : v = false := by
          cases v with
          | false => rfl
          | true => have := HA.out.1 rfl k x HX.out; rw [hr] at this; cases this
        subst hvf
        clear hr
        go_wp2_with fail
        refine (HR.out _).mono ?_
        rintro e w2 ⟨rfl, hb2⟩
        go_wp2_with fail
        go_ret
        exact ⟨rfl, hb.trans (hb2.mono hb.size)⟩
    · have hvt : v = true := HA.out.2 (fun j x hx => hK.out j x (by have := (List.getElem?_eq_some_iff.1 hx).1; have := HN.out; omega) hx)
      subst hvt
      go_wp2_with fail
      go_ret
      exact ⟨rfl, hb⟩
end Go.Proofs.YtmhoacnbmbhcjaaGreatDoor

namespace Go.Proofs.YtmhoacnbmbhcjaaGreatDoor
open Go.RowKit Pl

theorem Tryz.infoIns : (Tryz.prog.info? 64).map (fun i => (i.zero, i.size, i.bytes)) = some (some (.agg #[.int .i64 0, .int .i64 0, .int .i64 0, .int .i64 0, .string ⟨#[]⟩]), 5, 48) := by kernel_rfl

set_option maxHeartbeats 800000 in
set_option maxRecDepth 100000 in
theorem PSame_none (a b : Option Addr) (c d : Nat) (w : World) :
    Calls Tryz.prog 21 #[.slice a 0 c, .slice b 0 d] w fun e w' => e = .returned (.bool true) ∧ w = w' := by
  go_enter Tryz.func21, Tryz.ntmps21
  go_wp2
  go_loop [5] (fun i => i = .int .i64 0) (fun _ => 0)
  case atStart => rfl
  case round =>
    subst hrel
    go_wp2
    go_ret
    exact ⟨rfl, rfl⟩
set_option maxHeartbeats 800000 in
set_option maxRecDepth 100000 in
theorem PSame_len (a b : Option Addr) (m n c d : Nat) (w : World) (h : m ≠ n) :
    Calls Tryz.prog 21 #[.slice a m c, .slice b n d] w fun e w' => e = .returned (.bool false) ∧ w = w' := by
  have h1 : ((m : Int) != (n : Int)) = true := by rw [bne_iff_ne]; omega
  clear h
  go_enter Tryz.func21, Tryz.ntmps21
  go_wp2_with fail
  go_ret
  exact ⟨rfl, rfl⟩
set_option maxHeartbeats 1600000 in
set_option maxRecDepth 100000 in
theorem PSame_some (w : World) (b off cap b2 off2 cap2 : Nat) (ps qs : List Ins) (v : Bool) (h1 : ProgAt w b off ps) (h2 : ProgAt w b2 off2 qs) (hl : ps.length = qs.length) (hm : ps.length ≤ 281474976710656) (hv : v = true ↔ ps = qs) :
    Calls Tryz.prog 21 #[.slice (some ⟨b, off, none⟩) ps.length cap, .slice (some ⟨b2, off2, none⟩) ps.length cap2] w fun e w' => e = .returned (.bool v) ∧ Below w.heap.size w w' := by
  generalize hnn : ps.length = n at *
  have HN := Lib.hid hnn; have HL := Lib.hid hl; have HV := Lib.hid hv; clear hnn hl hv
  have H1 := Lib.hid h1; have H2 := Lib.hid h2; clear h1 h2
  go_enter Tryz.func21, Tryz.ntmps21
  go_wp2
  go_loopw [5] (fun i wr => ∃ k : Nat, k ≤ n ∧ i = .int .i64 k ∧ (∃ q, wr = w.drewN q) ∧ Hid (∀ j : Nat, j < k → ps[j]? = qs[j]?)) (fun i _ => n - (intOf i).toNat)
  case atStart => exact ⟨0, Nat.zero_le _, rfl, ⟨0, rfl⟩, Lib.hid (fun j h => by omega)⟩
  case round =>
    obtain ⟨k, hk, rfl, ⟨q, rfl⟩, hK⟩ := hrel
    by_cases hlt : k < n
    · obtain ⟨x, hx⟩ := get_at (ps := ps) (k := k) (by rw [HN.out]; exact hlt)
      obtain ⟨y, hy⟩ := get_at (ps := qs) (k := k) (by have := HL.out; omega)
      obtain ⟨c0, c1, c2, c3, c4⟩ := H1.out.2 k x hx
      obtain ⟨d0, d1, d2, d3, d4⟩ := H2.out.2 k y hy
      have HX := Lib.hid hx; have HY := Lib.hid hy; clear hx hy
      have i0 : (0 : Int) ≤ (k : Int) := by omega
      have i1 : (k : Int) < (n : Int) := by omega
      have hvf : x ≠ y → v = false := fun hne => by
        cases hv : v with
        | false => rfl
        | true =>
          have h1 := HV.out.1 hv
          have h2 := HX.out
          rw [h1, HY.out] at h2
          cases h2; exact absurd rfl hne
      have HVF := Lib.hid hvf; clear hvf
      have hcl : (∀ j : Nat, j < k → ps[j]? = qs[j]?) → x = y → (∀ j : Nat, j < k + 1 → ps[j]? = qs[j]?) := fun h e j hj => by
        rcases Nat.lt_or_ge j k with h3 | h3
        · exact h j h3
        · obtain rfl : j = k := by omega
          rw [HX.out, HY.out, e]
      have HCL := Lib.hid hcl; clear hcl
      clear HX HY
      obtain ⟨o, a, b', c, t⟩ := x
      obtain ⟨o2, a2, b2', cc2, t2⟩ := y
      simp only at c0 c1 c2 c3 c4 d0 d1 d2 d3 d4
      by_cases e0 : o = o2
      · subst e0
        by_cases e1 : a = a2
        · subst e1
          by_cases e2 : b' = b2'
          · subst e2
            by_cases e3 : c = cc2
            · subst e3
              by_cases e4 : t = t2
              · subst e4
                have HK2 := Lib.hid (HCL.out hK.out rfl)
                clear hK
                go_wp2_with fail
                go_quiet (fail)
                go_wp2
                go_roundw
                case rel => exact ⟨k + 1, by omega, by go_num, ⟨_, rfl⟩, HK2⟩
                case measure => simp [intOf]; omega
              · obtain rfl : v = false := HVF.out (by intro h; injection h with _ _ _ _ h; exact e4 h)
                have n1 : (t == t2) = false := beq_eq_false_iff_ne.2 e4
                clear e4
                go_wp2_with fail
                go_quiet (fail)
                go_wp2
                go_ret
                exact ⟨rfl, bdrewN (bdrewN (Below.refl _ _) _) _⟩
            · obtain rfl : v = false := HVF.out (by intro h; injection h with _ _ _ h _; exact e3 h)
              have n1 : (c == cc2) = false := beq_eq_false_iff_ne.2 e3
              clear e3
              go_wp2_with fail
              go_quiet (fail)
              go_wp2
              go_ret
              exact ⟨rfl, bdrewN (bdrewN (Below.refl _ _) _) _⟩
          · obtain rfl : v = false := HVF.out (by intro h; injection h with _ _ h _ _; exact e2 h)
            have n1 : (b' == b2') = false := beq_eq_false_iff_ne.2 e2
            clear e2
            go_wp2_with fail
            go_quiet (fail)
            go_wp2
            go_ret
            exact ⟨rfl, bdrewN (bdrewN (Below.refl _ _) _) _⟩
        · obtain rfl : v = false := HVF.out (by intro h; injection h with _ h _ _ _; exact e1 h)
          have n1 : (a == a2) = false := beq_eq_false_iff_ne.2 e1
          clear e1
          go_wp2_with fail
          go_quiet (fail)
          go_wp2
          go_ret
          exact ⟨rfl, bdrewN (bdrewN (Below.refl _ _) _) _⟩
      · obtain rfl : v = false := HVF.out (by intro h; injection h with h _ _ _ _; exact e0 h)
        have n1 : (o == o2) = false := beq_eq_false_iff_ne.2 e0
        clear e0
        go_wp2_with fail
        go_quiet (fail)
        go_wp2
        go_ret
        exact ⟨rfl, bdrewN (bdrewN (Below.refl _ _) _) _⟩
    · have hpq : ps = qs := List.ext_getElem? (fun j => by
        rcases Nat.lt_or_ge j k with h3 | h3
        · exact hK.out j h3
        · have := HN.out; have := HL.out
          rw [List.getElem?_eq_none (by omega), List.getElem?_eq_none (by omega)])
      obtain rfl : v = true := HV.out.2 hpq
      clear hpq
      go_wp2
      go_ret
      exact ⟨rfl, bdrewN (Below.refl _ _) _⟩
end Go.Proofs.YtmhoacnbmbhcjaaGreatDoor

namespace Go.Proofs.YtmhoacnbmbhcjaaGreatDoor
open Go.RowKit Pl

def Ins.cells (x : Ins) : List Value := [.int .i64 x.op, .int .i64 x.a, .int .i64 x.b, .int .i64 x.c, .string (S x.tree)]
/-- programs as cells -/
def progV (ps : List Ins) : List Value := ps.flatMap Ins.cells
theorem progV_cons (x : Ins) (ps : List Ins) : progV (x :: ps) = x.cells ++ progV ps := rfl
theorem progV_app (a b : List Ins) : progV (a ++ b) = progV a ++ progV b := by simp [progV]
theorem progV_one (x : Ins) : progV [x] = x.cells := by simp [progV]
theorem progV_len (ps : List Ins) : (progV ps).length = ps.length * 5 := by
  induction ps with
  | nil => rfl
  | cons x ps ih => rw [progV_cons, List.length_append, ih, List.length_cons]; simp only [Ins.cells, List.length_cons, List.length_nil]; omega
theorem progV_at : ∀ {ps : List Ins} {k : Nat} {x : Ins} {j : Nat}, ps[k]? = some x → j < 5 → (progV ps)[k * 5 + j]? = x.cells[j]? := by
  intro ps
  induction ps with
  | nil => intro k x j h; simp at h
  | cons y ps ih =>
    intro k x j h hj
    cases k with
    | zero =>
      simp at h; subst h
      rw [progV_cons, List.getElem?_append_left (by simp [Ins.cells]; omega)]; simp
    | succ k =>
      simp at h
      rw [progV_cons, List.getElem?_append_right (by simp [Ins.cells]; omega)]
      rw [← ih h hj]
      congr 1
      simp only [Ins.cells, List.length_cons, List.length_nil]; omega
theorem progV_get {ps : List Ins} {t : Nat} {u : Value} (h : (progV ps)[t]? = some u) : ∃ k x j, t = k * 5 + j ∧ j < 5 ∧ ps[k]? = some x ∧ x.cells[j]? = some u := by
  have ht := (List.getElem?_eq_some_iff.1 h).1
  rw [progV_len] at ht
  obtain ⟨x, hx⟩ := get_at (ps := ps) (k := t / 5) (by omega)
  refine ⟨t / 5, x, t % 5, by omega, by omega, hx, ?_⟩
  rw [← progV_at hx (by omega), show t / 5 * 5 + t % 5 = t from by omega]; exact h
theorem progV_oneCell (ps : List Ins) : ∀ u ∈ progV ps, u.oneCell' = true := by
  intro u hu
  simp only [progV, List.mem_flatMap] at hu
  obtain ⟨x, _, hu⟩ := hu
  simp only [Ins.cells, List.mem_cons, List.not_mem_nil, or_false] at hu
  rcases hu with rfl | rfl | rfl | rfl | rfl <;> rfl
theorem ProgAt.cell {w : World} {b off : Nat} {ps : List Ins} (h : ProgAt w b off ps) : ∀ j u, (progV ps)[j]? = some u → w.cell? ((⟨b, off, none⟩ : Addr).add j) = some u := by
  intro j u hu
  obtain ⟨k, x, i, rfl, hi, hx, hu⟩ := progV_get hu
  rw [show ((⟨b, off, none⟩ : Addr).add (k * 5 + i)) = ⟨b, off + k * 5 + i, none⟩ from by unfold Addr.add; split <;> simp_all; omega]
  obtain ⟨h0, h1, h2, h3, h4⟩ := h.2 k x hx
  match i, hi with
  | 0, _ => rw [show off + k * 5 + 0 = off + k * 5 from rfl, h0]; simpa [Ins.cells] using hu
  | 1, _ => rw [h1]; simpa [Ins.cells] using hu
  | 2, _ => rw [h2]; simpa [Ins.cells] using hu
  | 3, _ => rw [h3]; simpa [Ins.cells] using hu
  | 4, _ => rw [h4]; simpa [Ins.cells] using hu
theorem ProgAt.news {w : World} {b off : Nat} {ps : List Ins} (h : ProgAt w b off ps) (o : Obj) : ∀ j u, (progV ps)[j]? = some u → (w.alloc o).cell? ((⟨b, off, none⟩ : Addr).add j) = some u := by
  intro j u hu
  have := h.cell j u hu
  rw [show ((⟨b, off, none⟩ : Addr).add j) = ⟨b, off + j, none⟩ from by unfold Addr.add; split <;> simp_all] at this ⊢
  rw [World.cell?_alloc_past _ _ _ h.1, this]
theorem progAt_of {w : World} {g : Nat} {ps : List Ins} (hg : g < w.heap.size) (h : ∀ j u, (progV ps)[j]? = some u → w.cell? ((⟨g, 0, none⟩ : Addr).add j) = some u) : ProgAt w g 0 ps := by
  refine ⟨hg, fun k x hx => ?_⟩
  have e : ∀ j, j < 5 → ∀ u, x.cells[j]? = some u → w.cell? ⟨g, 0 + k * 5 + j, none⟩ = some u := fun j hj u hu => by
    have := h (k * 5 + j) u (by rw [progV_at hx hj]; exact hu)
    rw [show ((⟨g, 0, none⟩ : Addr).add (k * 5 + j)) = ⟨g, 0 + k * 5 + j, none⟩ from by unfold Addr.add; split <;> simp_all] at this
    exact this
  exact ⟨e 0 (by omega) _ rfl, e 1 (by omega) _ rfl, e 2 (by omega) _ rfl, e 3 (by omega) _ rfl, e 4 (by omega) _ rfl⟩
theorem own_prog {w : World} {base n : Nat} {e : TypeId} {v : Value} {ps : List Ins} (h : w.ownsRow base e 5 v n (progV ps)) : n = ps.length ∧ ArgP w v ps ∧ (0 < n → ∃ g cap, v = .slice (some ⟨g, 0, none⟩) ps.length cap ∧ base ≤ g ∧ ProgAt w g 0 ps) := by
  have hc := fun (g : Nat) => h.cells (g := g)
  have hlt := h.lt
  obtain ⟨h1, h2⟩ := h
  rw [progV_len] at h1
  have hn : n = ps.length := by omega
  subst hn
  rcases h2 with ⟨rfl, h0⟩ | ⟨g, cap, cur, rfl, _⟩
  · exact ⟨rfl, Or.inl ⟨List.eq_nil_of_length_eq_zero h0, Or.inl rfl⟩, fun h => absurd h (by omega)⟩
  · have hp := progAt_of (ps := ps) (hlt g rfl).2 (hc g (by simp [Value.ownBlock]))
    refine ⟨rfl, ?_, fun _ => ⟨g, cap, rfl, (hlt g rfl).1, hp⟩⟩
    rcases Nat.eq_zero_or_pos ps.length with h0 | h0
    · exact Or.inl ⟨List.eq_nil_of_length_eq_zero h0, Or.inr ⟨⟨g, 0, none⟩, cap, by rw [h0]⟩⟩
    · exact Or.inr ⟨h0, g, 0, cap, rfl, hp⟩

theorem Twin_nil (w : World) :
    Calls Tryz.prog 17 #[.slice none 0 0] w fun e w' => ∃ v, e = .returned v ∧ w'.ownsRow w.heap.size 64 5 v 0 [] ∧ Below w.heap.size w w' := by
  obtain ⟨i0, hi, hz0, hz1, hz2⟩ := info_parts Tryz.infoIns
  have HO := Lib.hid (World.ownsRow_lit (e := 64) (size := 5) (base := w.heap.size) w #[] 0 (Nat.le_refl _) (by unfold maxLen; omega) rfl)
  go_enter Tryz.func17, Tryz.ntmps17
  go_wp2_with (at_builtin; refine wpList_append_own_none rfl _ _ 23 rfl w.heap.size 64 i0 5 Tryz.underlying23 hi _ _ _ rfl HO.out rfl ?_)
  go_ret
  exact ⟨_, rfl, HO.out, (Below.refl _ _).alloc (Nat.le_refl _) _⟩
set_option maxHeartbeats 800000 in
set_option maxRecDepth 100000 in
theorem Twin_some (w : World) (ad : Addr) (m cap : Nat) (ps : List Ins) (hm : m = ps.length) (hz : m * 48 ≤ 140737488355328) (hc : ∀ (o : Obj), ∀ j u, (progV ps)[j]? = some u → (w.alloc o).cell? (ad.add j) = some u) :
    Calls Tryz.prog 17 #[.slice (some ad) m cap] w fun e w' => ∃ v, e = .returned v ∧ w'.ownsRow w.heap.size 64 5 v m (progV ps) ∧ Below w.heap.size w w' := by
  obtain ⟨i0, hi, hz0, hz1, hz2⟩ := info_parts Tryz.infoIns
  have HO := Lib.hid (World.ownsRow_lit (e := 64) (size := 5) (base := w.heap.size) w #[] 0 (Nat.le_refl _) (by unfold maxLen; omega) rfl)
  have HL := Lib.hid (show (progV ps).length = m * 5 by rw [progV_len, hm])
  have HC := Lib.hid hc; have H1 := Lib.hid (progV_oneCell ps)
  clear hm hc
  go_enter Tryz.func17, Tryz.ntmps17
  go_wp2_with (at_builtin; refine wpList_append_own _ rfl _ _ 23 rfl w.heap.size 64 i0 (.agg #[.int .i64 0, .int .i64 0, .int .i64 0, .int .i64 0, .string ⟨#[]⟩]) 5 48 Tryz.underlying23 hi hz0 hz1 hz2 rfl (by decide) _ _ _ rfl HO.out ad m cap (progV ps) rfl HL.out (HC.out _) H1.out (by unfold maxLen; omega) (by omega) (by simp) ?_; intro v' w0 hown hgrow _)
  have h0 : Below w.heap.size w w0 := ((Below.refl _ w).alloc (Nat.le_refl _) _).grown hgrow (by simp) (fun k h => (HO.out.lt k h).1)
  rw [Nat.zero_add, List.nil_append] at hown
  have HW := Lib.hid hown
  clear hown hgrow
  go_wp2_with fail
  go_ret
  exact ⟨_, rfl, HW.out, h0⟩
theorem Twin_arg (w : World) (v : Value) (ps : List Ins) (h : ArgP w v ps) (hz : ps.length * 48 ≤ 140737488355328) :
    Calls Tryz.prog 17 #[v] w fun e w' => ∃ v', e = .returned v' ∧ w'.ownsRow w.heap.size 64 5 v' ps.length (progV ps) ∧ Below w.heap.size w w' := by
  rcases h with ⟨rfl, rfl | ⟨ad, cap, rfl⟩⟩ | ⟨_, b, off, cap, rfl, hc⟩
  · exact Twin_nil w
  · exact Twin_some w ad 0 cap [] rfl hz (by intro o j u h; simp [progV] at h)
  · exact Twin_some w _ _ cap ps rfl hz (hc.news)
end Go.Proofs.YtmhoacnbmbhcjaaGreatDoor

namespace Go.Proofs.YtmhoacnbmbhcjaaGreatDoor
open Go.RowKit Pl

set_option maxHeartbeats 800000 in
theorem registers_any (b : Nat) (ns : List Int) (cap : Nat) (w : World) (hc : ∀ j, j < ns.length → w.cell? ⟨b, j, none⟩ = some (.int .i64 (ns[j]?.getD 0))) (hl : ns.length ≤ 1000) :
    Calls Tryz.prog 168 #[.slice (some ⟨b, 0, none⟩) ns.length cap] w fun e w' => e = .returned (.bool (ns.all reg)) ∧ w = w' := by
  generalize hn : ns.length = n at *
  have HN := Lib.hid hn; have HC := Lib.hid hc
  clear hn hc
  go_enter Tryz.func168, Tryz.ntmps168
  go_wp2
  go_loop [7] (fun i => ∃ k : Nat, k ≤ n ∧ i = .int .i64 k ∧ Hid ((ns.take k).all reg = true)) (fun i => n - (intOf i).toNat)
  case atStart => exact ⟨0, Nat.zero_le _, rfl, Lib.hid rfl⟩
  case round =>
    obtain ⟨k, hk, rfl, hr⟩ := hrel
    by_cases hlt : k < n
    · have hck := HC.out k hlt
      have hkn : k < ns.length := by have := HN.out; omega
      obtain ⟨x, hx⟩ : ∃ x, ns[k]?.getD 0 = x := ⟨_, rfl⟩
      rw [hx] at hck
      have HX : Hid (ns[k] = x) := Lib.hid (by rw [← hx, List.getElem?_eq_getElem hkn]; rfl)
      have hk1 : (k : Int) < (n : Int) := by omega
      clear hx
      have HF : Hid (reg x = false → ns.all reg = false) := Lib.hid (fun h => by
        rw [List.all_eq_false]; exact ⟨_, List.getElem_mem hkn, by rw [HX.out, h]; simp⟩)
      by_cases h0 : x < 0
      · have HR : Hid (ns.all reg = false) := Lib.hid (HF.out (by unfold reg; simp; omega))
        go_wp2_with fail
        go_ret
        rw [HR.out]
        exact ⟨rfl, rfl⟩
      · by_cases h1 : x < 32
        · have HS : Hid ((ns.take (k + 1)).all reg = true) := Lib.hid (by
            rw [List.take_succ_eq_append_getElem hkn, List.all_append, hr.out, HX.out]; unfold reg; simp; omega)
          have h0' : 0 ≤ x := by omega
          clear h0
          go_wp2_with fail
          go_round
          case rel => exact ⟨k + 1, by omega, by go_num, HS⟩
          case measure => simp [intOf]; omega
        · have HR : Hid (ns.all reg = false) := Lib.hid (HF.out (by unfold reg; simp; omega))
          have h0' : 0 ≤ x := by omega
          have h1' : 32 ≤ x := by omega
          clear h0 h1
          go_wp2_with fail
          go_ret
          rw [HR.out]
          exact ⟨rfl, rfl⟩
    · obtain rfl : k = n := by omega
      have HR : Hid (ns.all reg = true) := Lib.hid (by rw [← List.take_of_length_le (show ns.length ≤ k by have := HN.out; omega)]; exact hr.out)
      go_wp2_with fail
      go_ret
      rw [HR.out]
      exact ⟨rfl, rfl⟩

theorem regs1 (b : Nat) (a : Int) (w : World) (h : w.cell? ⟨b, 0, none⟩ = some (.int .i64 a)) :
    Calls Tryz.prog 168 #[.slice (some ⟨b, 0, none⟩) 1 1] w fun e w' => e = .returned (.bool (reg a)) ∧ w = w' :=
  (registers_any b [a] 1 w (fun j hj => by simp at hj; subst hj; exact h) (by simp)).mono fun e w' h => ⟨by rw [h.1]; simp, h.2⟩
theorem regs2 (b : Nat) (a a2 : Int) (w : World) (h : w.cell? ⟨b, 0, none⟩ = some (.int .i64 a)) (h2 : w.cell? ⟨b, 1, none⟩ = some (.int .i64 a2)) :
    Calls Tryz.prog 168 #[.slice (some ⟨b, 0, none⟩) 2 2] w fun e w' => e = .returned (.bool (reg a && reg a2)) ∧ w = w' :=
  (registers_any b [a, a2] 2 w (fun j hj => by match j, hj with | 0, _ => exact h | 1, _ => exact h2 | j + 2, hj => simp at hj; omega) (by simp)).mono fun e w' h => ⟨by rw [h.1]; simp, h.2⟩
theorem regs3 (b : Nat) (a a2 a3 : Int) (w : World) (h : w.cell? ⟨b, 0, none⟩ = some (.int .i64 a)) (h2 : w.cell? ⟨b, 1, none⟩ = some (.int .i64 a2)) (h3 : w.cell? ⟨b, 2, none⟩ = some (.int .i64 a3)) :
    Calls Tryz.prog 168 #[.slice (some ⟨b, 0, none⟩) 3 3] w fun e w' => e = .returned (.bool (reg a && (reg a2 && reg a3))) ∧ w = w' :=
  (registers_any b [a, a2, a3] 3 w (fun j hj => by match j, hj with | 0, _ => exact h | 1, _ => exact h2 | 2, _ => exact h3 | j + 3, hj => simp at hj; omega) (by simp)).mono fun e w' h => ⟨by rw [h.1]; simp, h.2⟩

set_option maxHeartbeats 1600000 in
set_option maxRecDepth 100000 in
theorem vi_set (q : Bool) (a b c f l : Int) (t : List UInt8) (w : World) (hq : reg a = q) (ht : t.length ≤ 281474976710656) :
    Calls Tryz.prog 121 #[.agg #[.int .i64 0, .int .i64 a, .int .i64 b, .int .i64 c, .string (S t)], .int .i64 f, .int .i64 l] w fun e w' => e = .returned (.bool (q && (b == 0 && (c == 0 && vld t)))) ∧ Below w.heap.size w w' := by
  have HV := Lib.hid (fun W => Valid_is (vld t) (S t) W (by rw [S_size]; exact ht) rfl)
  have HQ := Lib.hid hq
  clear hq
  have key : ∀ (q0 b0 c0 : Bool), (b == 0) = b0 → (c == 0) = c0 → q = q0 → Calls Tryz.prog 121 #[.agg #[.int .i64 0, .int .i64 a, .int .i64 b, .int .i64 c, .string (S t)], .int .i64 f, .int .i64 l] w fun e w' => e = .returned (.bool (q0 && (b0 && (c0 && vld t)))) ∧ Below w.heap.size w w' := by
    intro q0 b0 c0 hb hc hq0
    rw [hq0] at HQ
    clear hq0
    go_enter Tryz.func121, Tryz.ntmps121
    go_wp2_with fail
    refine (regs1 _ a _ (by simp)).mono ?_
    rw [HQ.out]
    rintro e w1 ⟨rfl, rfl⟩
    cases q0 with
    | false =>
      go_wp2
      go_ret
      exact ⟨rfl, ((Below.refl _ _).alloc (Nat.le_refl _) _).alloc (by simp) _⟩
    | true =>
      cases b0 with
      | false =>
        go_wp2
        go_ret
        exact ⟨rfl, ((Below.refl _ _).alloc (Nat.le_refl _) _).alloc (by simp) _⟩
      | true =>
        cases c0 with
        | false =>
          go_wp2
          go_ret
          exact ⟨rfl, ((Below.refl _ _).alloc (Nat.le_refl _) _).alloc (by simp) _⟩
        | true =>
          go_wp2_with fail
          refine (HV.out _).mono ?_
          rintro e w2 ⟨rfl, h2⟩
          go_wp2
          go_ret
          exact ⟨rfl, (((Below.refl _ _).alloc (Nat.le_refl _) _).alloc (by simp) _).trans (h2.mono (by simp; omega))⟩
  exact key q _ _ rfl rfl rfl

set_option maxHeartbeats 1600000 in
set_option maxRecDepth 100000 in
theorem vi_move (q : Bool) (a b c f l : Int) (t : List UInt8) (w : World) (hq : (reg a && reg b) = q) :
    Calls Tryz.prog 121 #[.agg #[.int .i64 1, .int .i64 a, .int .i64 b, .int .i64 c, .string (S t)], .int .i64 f, .int .i64 l] w fun e w' => e = .returned (.bool (q && (c == 0 && t == []))) ∧ Below w.heap.size w w' := by
  have HQ := Lib.hid hq
  clear hq
  have key : ∀ (q0 c0 t0 : Bool), (c == 0) = c0 → (t == []) = t0 → q = q0 → Calls Tryz.prog 121 #[.agg #[.int .i64 1, .int .i64 a, .int .i64 b, .int .i64 c, .string (S t)], .int .i64 f, .int .i64 l] w fun e w' => e = .returned (.bool (q0 && (c0 && t0))) ∧ Below w.heap.size w w' := by
    intro q0 c0 t0 hc ht hq0
    rw [hq0] at HQ
    clear hq0
    go_enter Tryz.func121, Tryz.ntmps121
    go_wp2_with fail
    refine (regs2 _ a b _ (by simp) (by simp)).mono ?_
    rw [HQ.out]
    rintro e w1 ⟨rfl, rfl⟩
    cases q0 with
    | false =>
      go_wp2
      go_ret
      exact ⟨rfl, ((Below.refl _ _).alloc (Nat.le_refl _) _).alloc (by simp) _⟩
    | true =>
      cases c0 with
      | false =>
        go_wp2
        go_ret
        exact ⟨rfl, ((Below.refl _ _).alloc (Nat.le_refl _) _).alloc (by simp) _⟩
      | true =>
        go_wp2
        go_ret
        exact ⟨rfl, ((Below.refl _ _).alloc (Nat.le_refl _) _).alloc (by simp) _⟩
  exact key q _ _ rfl rfl rfl

set_option maxHeartbeats 1600000 in
set_option maxRecDepth 100000 in
theorem vi_head (q : Bool) (a b c f l : Int) (t : List UInt8) (w : World) (hq : (reg a && reg b) = q) :
    Calls Tryz.prog 121 #[.agg #[.int .i64 3, .int .i64 a, .int .i64 b, .int .i64 c, .string (S t)], .int .i64 f, .int .i64 l] w fun e w' => e = .returned (.bool (q && (c == 0 && t == []))) ∧ Below w.heap.size w w' := by
  have HQ := Lib.hid hq
  clear hq
  have key : ∀ (q0 c0 t0 : Bool), (c == 0) = c0 → (t == []) = t0 → q = q0 → Calls Tryz.prog 121 #[.agg #[.int .i64 3, .int .i64 a, .int .i64 b, .int .i64 c, .string (S t)], .int .i64 f, .int .i64 l] w fun e w' => e = .returned (.bool (q0 && (c0 && t0))) ∧ Below w.heap.size w w' := by
    intro q0 c0 t0 hc ht hq0
    rw [hq0] at HQ
    clear hq0
    go_enter Tryz.func121, Tryz.ntmps121
    go_wp2_with fail
    refine (regs2 _ a b _ (by simp) (by simp)).mono ?_
    rw [HQ.out]
    rintro e w1 ⟨rfl, rfl⟩
    cases q0 with
    | false =>
      go_wp2
      go_ret
      exact ⟨rfl, ((Below.refl _ _).alloc (Nat.le_refl _) _).alloc (by simp) _⟩
    | true =>
      cases c0 with
      | false =>
        go_wp2
        go_ret
        exact ⟨rfl, ((Below.refl _ _).alloc (Nat.le_refl _) _).alloc (by simp) _⟩
      | true =>
        go_wp2
        go_ret
        exact ⟨rfl, ((Below.refl _ _).alloc (Nat.le_refl _) _).alloc (by simp) _⟩
  exact key q _ _ rfl rfl rfl

set_option maxHeartbeats 1600000 in
set_option maxRecDepth 100000 in
theorem vi_tail (q : Bool) (a b c f l : Int) (t : List UInt8) (w : World) (hq : (reg a && reg b) = q) :
    Calls Tryz.prog 121 #[.agg #[.int .i64 4, .int .i64 a, .int .i64 b, .int .i64 c, .string (S t)], .int .i64 f, .int .i64 l] w fun e w' => e = .returned (.bool (q && (c == 0 && t == []))) ∧ Below w.heap.size w w' := by
  have HQ := Lib.hid hq
  clear hq
  have key : ∀ (q0 c0 t0 : Bool), (c == 0) = c0 → (t == []) = t0 → q = q0 → Calls Tryz.prog 121 #[.agg #[.int .i64 4, .int .i64 a, .int .i64 b, .int .i64 c, .string (S t)], .int .i64 f, .int .i64 l] w fun e w' => e = .returned (.bool (q0 && (c0 && t0))) ∧ Below w.heap.size w w' := by
    intro q0 c0 t0 hc ht hq0
    rw [hq0] at HQ
    clear hq0
    go_enter Tryz.func121, Tryz.ntmps121
    go_wp2_with fail
    refine (regs2 _ a b _ (by simp) (by simp)).mono ?_
    rw [HQ.out]
    rintro e w1 ⟨rfl, rfl⟩
    cases q0 with
    | false =>
      go_wp2
      go_ret
      exact ⟨rfl, ((Below.refl _ _).alloc (Nat.le_refl _) _).alloc (by simp) _⟩
    | true =>
      cases c0 with
      | false =>
        go_wp2
        go_ret
        exact ⟨rfl, ((Below.refl _ _).alloc (Nat.le_refl _) _).alloc (by simp) _⟩
      | true =>
        go_wp2
        go_ret
        exact ⟨rfl, ((Below.refl _ _).alloc (Nat.le_refl _) _).alloc (by simp) _⟩
  exact key q _ _ rfl rfl rfl

set_option maxHeartbeats 1600000 in
set_option maxRecDepth 100000 in
theorem vi_cons (q : Bool) (a b c f l : Int) (t : List UInt8) (w : World) (hq : (reg a && (reg b && reg c)) = q) :
    Calls Tryz.prog 121 #[.agg #[.int .i64 2, .int .i64 a, .int .i64 b, .int .i64 c, .string (S t)], .int .i64 f, .int .i64 l] w fun e w' => e = .returned (.bool (q && t == [])) ∧ Below w.heap.size w w' := by
  have HQ := Lib.hid hq
  clear hq
  have key : ∀ (q0 t0 : Bool), (t == []) = t0 → q = q0 → Calls Tryz.prog 121 #[.agg #[.int .i64 2, .int .i64 a, .int .i64 b, .int .i64 c, .string (S t)], .int .i64 f, .int .i64 l] w fun e w' => e = .returned (.bool (q0 && t0)) ∧ Below w.heap.size w w' := by
    intro q0 t0 ht hq0
    rw [hq0] at HQ
    clear hq0
    go_enter Tryz.func121, Tryz.ntmps121
    go_wp2_with fail
    refine (regs3 _ a b c _ (by simp) (by simp) (by simp)).mono ?_
    rw [HQ.out]
    rintro e w1 ⟨rfl, rfl⟩
    cases q0 with
    | false =>
      go_wp2
      go_ret
      exact ⟨rfl, ((Below.refl _ _).alloc (Nat.le_refl _) _).alloc (by simp) _⟩
    | true =>
      go_wp2
      go_ret
      exact ⟨rfl, ((Below.refl _ _).alloc (Nat.le_refl _) _).alloc (by simp) _⟩
  exact key q _ rfl rfl

set_option maxHeartbeats 1600000 in
set_option maxRecDepth 100000 in
theorem vi_jump (q : Bool) (a b c f l : Int) (t : List UInt8) (w : World) (hq : reg a = q) :
    Calls Tryz.prog 121 #[.agg #[.int .i64 5, .int .i64 a, .int .i64 b, .int .i64 c, .string (S t)], .int .i64 f, .int .i64 l] w fun e w' => e = .returned (.bool (q && (decide (f ≤ b) && (decide (b ≤ l) && (c == 0 && t == []))))) ∧ Below w.heap.size w w' := by
  have HQ := Lib.hid hq
  clear hq
  have key : ∀ (q0 f0 l0 c0 t0 : Bool), decide (f ≤ b) = f0 → decide (b ≤ l) = l0 → (c == 0) = c0 → (t == []) = t0 → q = q0 → Calls Tryz.prog 121 #[.agg #[.int .i64 5, .int .i64 a, .int .i64 b, .int .i64 c, .string (S t)], .int .i64 f, .int .i64 l] w fun e w' => e = .returned (.bool (q0 && (f0 && (l0 && (c0 && t0))))) ∧ Below w.heap.size w w' := by
    intro q0 f0 l0 c0 t0 hf hl hc ht hq0
    rw [hq0] at HQ
    clear hq0
    go_enter Tryz.func121, Tryz.ntmps121
    go_wp2_with fail
    refine (regs1 _ a _ (by simp)).mono ?_
    rw [HQ.out]
    rintro e w1 ⟨rfl, rfl⟩
    cases q0 with
    | false =>
      go_wp2
      go_ret
      exact ⟨rfl, ((Below.refl _ _).alloc (Nat.le_refl _) _).alloc (by simp) _⟩
    | true =>
      cases f0 with
      | false =>
        go_wp2
        go_ret
        exact ⟨rfl, ((Below.refl _ _).alloc (Nat.le_refl _) _).alloc (by simp) _⟩
      | true =>
        cases l0 with
        | false =>
          go_wp2
          go_ret
          exact ⟨rfl, ((Below.refl _ _).alloc (Nat.le_refl _) _).alloc (by simp) _⟩
        | true =>
          cases c0 with
          | false =>
            go_wp2
            go_ret
            exact ⟨rfl, ((Below.refl _ _).alloc (Nat.le_refl _) _).alloc (by simp) _⟩
          | true =>
            go_wp2
            go_ret
            exact ⟨rfl, ((Below.refl _ _).alloc (Nat.le_refl _) _).alloc (by simp) _⟩
  exact key q _ _ _ _ rfl rfl rfl rfl rfl

set_option maxHeartbeats 1600000 in
set_option maxRecDepth 100000 in
theorem vi_other (op a b c f l : Int) (t : List UInt8) (w : World) (h : op ≠ 0 ∧ op ≠ 1 ∧ op ≠ 2 ∧ op ≠ 3 ∧ op ≠ 4 ∧ op ≠ 5) :
    Calls Tryz.prog 121 #[.agg #[.int .i64 op, .int .i64 a, .int .i64 b, .int .i64 c, .string (S t)], .int .i64 f, .int .i64 l] w fun e w' => e = .returned (.bool false) ∧ Below w.heap.size w w' := by
  obtain ⟨h0, h1, h2, h3, h4, h5⟩ := h
  have b0 : (op == 0) = false := beq_eq_false_iff_ne.2 h0
  have b1 : (op == 1) = false := beq_eq_false_iff_ne.2 h1
  have b2 : (op == 2) = false := beq_eq_false_iff_ne.2 h2
  have b3 : (op == 3) = false := beq_eq_false_iff_ne.2 h3
  have b4 : (op == 4) = false := beq_eq_false_iff_ne.2 h4
  have b5 : (op == 5) = false := beq_eq_false_iff_ne.2 h5
  clear h0 h1 h2 h3 h4 h5
  go_enter Tryz.func121, Tryz.ntmps121
  go_wp2
  go_ret
  exact ⟨rfl, (Below.refl _ _).alloc (Nat.le_refl _) _⟩
theorem tree_nil (t : List UInt8) : (t == []) = t.isEmpty := by cases t <;> rfl
/-- validInstr at place i of n -/
theorem vi_any (x : Ins) (i n : Int) (w : World) (ht : x.tree.length ≤ 281474976710656) :
    Calls Tryz.prog 121 #[.agg #[.int .i64 x.op, .int .i64 x.a, .int .i64 x.b, .int .i64 x.c, .string (S x.tree)], .int .i64 (-i), .int .i64 (n - i)] w fun e w' => e = .returned (.bool (right x i n)) ∧ Below w.heap.size w w' := by
  obtain ⟨op, a, b, c, t⟩ := x
  simp only at ht ⊢
  by_cases h0 : op = 0
  · subst h0
    refine (vi_set (reg a) a b c (-i) (n - i) t w rfl ht).mono fun e w' h => ⟨?_, h.2⟩
    rw [h.1]; unfold right; simp only [if_true]; congr 2
    cases reg a <;> cases (b == 0) <;> cases (c == 0) <;> cases vld t <;> simp
  by_cases h2 : op = 2
  · subst h2
    refine (vi_cons (reg a && (reg b && reg c)) a b c (-i) (n - i) t w rfl).mono fun e w' h => ⟨?_, h.2⟩
    rw [h.1]; unfold right; rw [tree_nil]; congr 2
    cases reg a <;> cases reg b <;> cases reg c <;> cases t.isEmpty <;> simp
  by_cases h5 : op = 5
  · subst h5
    refine (vi_jump (reg a) a b c (-i) (n - i) t w rfl).mono fun e w' h => ⟨?_, h.2⟩
    rw [h.1]; unfold right; rw [tree_nil]; congr 2
    cases reg a <;> cases decide (-i ≤ b) <;> cases decide (b ≤ n - i) <;> cases (c == 0) <;> cases t.isEmpty <;> simp
  by_cases h1 : op = 1
  · subst h1
    refine (vi_move (reg a && reg b) a b c (-i) (n - i) t w rfl).mono fun e w' h => ⟨?_, h.2⟩
    rw [h.1]; unfold right; rw [tree_nil]; congr 2
    cases reg a <;> cases reg b <;> cases (c == 0) <;> cases t.isEmpty <;> simp
  by_cases h3 : op = 3
  · subst h3
    refine (vi_head (reg a && reg b) a b c (-i) (n - i) t w rfl).mono fun e w' h => ⟨?_, h.2⟩
    rw [h.1]; unfold right; rw [tree_nil]; congr 2
    cases reg a <;> cases reg b <;> cases (c == 0) <;> cases t.isEmpty <;> simp
  by_cases h4 : op = 4
  · subst h4
    refine (vi_tail (reg a && reg b) a b c (-i) (n - i) t w rfl).mono fun e w' h => ⟨?_, h.2⟩
    rw [h.1]; unfold right; rw [tree_nil]; congr 2
    cases reg a <;> cases reg b <;> cases (c == 0) <;> cases t.isEmpty <;> simp
  refine (vi_other op a b c (-i) (n - i) t w ⟨h0, h1, h2, h3, h4, h5⟩).mono fun e w' h => ⟨?_, h.2⟩
  rw [h.1]; unfold right; simp [h0, h1, h2, h3, h4, h5]
end Go.Proofs.YtmhoacnbmbhcjaaGreatDoor

namespace Go.Proofs.YtmhoacnbmbhcjaaGreatDoor
open Go.RowKit Pl

set_option maxHeartbeats 3200000 in
set_option maxRecDepth 100000 in
theorem CV_some (w : World) (b off cap : Nat) (ps : List Ins) (r : Bool) (hc : ProgAt w b off ps) (h0 : 0 < ps.length) (hm : ps.length ≤ 4000) (hz : ∀ x ∈ ps, x.tree.length ≤ 281474976710656) (hr : r = true ↔ PValid ps) :
    Calls Tryz.prog 59 #[.slice (some ⟨b, off, none⟩) ps.length cap] w fun e w' => e = .returned (.bool r) ∧ Below w.heap.size w w' := by
  have HT := Lib.hid (treesTo_top (ps := ps))
  have HTA := Lib.hid (treesTo_all (ps := ps) (k := ps.length) (Nat.le_refl _))
  generalize hnn : ps.length = n at *
  have HN := Lib.hid hnn; have HC := Lib.hid hc; have HZ := Lib.hid hz; have HR := Lib.hid hr; clear hnn hc hz hr
  have hbw := HC.out.1
  go_enter Tryz.func59, Tryz.ntmps59
  go_wp2
  go_loopw [3, 11] (fun t i wr => ∃ (k u : Nat), k ≤ n ∧ i = .int .i64 k ∧ t = .int .i64 u ∧ u ≤ 2000000 ∧ Hid (treesTo ps k = u) ∧ Hid (∀ (j : Nat) (x : Ins), j < k → ps[j]? = some x → right x j n = true) ∧ Below w.heap.size w wr) (fun _ i _ => n - (intOf i).toNat)
  case atStart => exact ⟨0, 0, Nat.zero_le _, rfl, rfl, by omega, Lib.hid (by simp [treesTo]), Lib.hid (fun j x hj => absurd hj (Nat.not_lt_zero _)), Below.refl _ _⟩
  case round =>
    obtain ⟨k, u, hk, rfl, rfl, hu, htu, hright, hb⟩ := hrel
    have hsz := hb.size
    by_cases hlt : k < n
    · obtain ⟨x, hx⟩ := get_at (ps := ps) (k := k) (by have := HN.out; omega)
      obtain ⟨a0, a1, a2, a3, a4⟩ := HC.out.2 k x hx
      have hxz : x.tree.length ≤ 281474976710656 := HZ.out x (List.mem_of_getElem? hx)
      have k0 := (hb.cell (p := ⟨b, off + k * 5, none⟩) hbw).trans a0
      have k1 := (hb.cell (p := ⟨b, off + k * 5 + 1, none⟩) hbw).trans a1
      have k2 := (hb.cell (p := ⟨b, off + k * 5 + 2, none⟩) hbw).trans a2
      have k3 := (hb.cell (p := ⟨b, off + k * 5 + 3, none⟩) hbw).trans a3
      have k4 := (hb.cell (p := ⟨b, off + k * 5 + 4, none⟩) hbw).trans a4
      have HX := Lib.hid hx
      have HT1 : Hid (treesTo ps (k + 1) = u + x.tree.length) := Lib.hid (by rw [treesTo_succ hx, htu.out])
      have hk1 : (k : Int) < (n : Int) := by omega
      clear hx a0 a1 a2 a3 a4
      by_cases hbig : 2000000 < u + x.tree.length
      · have HF : Hid (r = false) := Lib.hid (by
          cases r with
          | false => rfl
          | true => have h1 := (HR.out.1 rfl).2.1; have h2 := HT.out (k + 1); rw [HT1.out] at h2; omega)
        have hbig' : (2000000 : Int) < (u : Int) + (x.tree.length : Int) := by omega
        go_wp2_with fail
        go_ret
        rw [HF.out]
        exact ⟨rfl, hb.alloc hsz _⟩
      · have hbig' : (u : Int) + (x.tree.length : Int) ≤ 2000000 := by omega
        have HV := Lib.hid (fun W => vi_any x k n W hxz)
        have hB1 : Below w.heap.size w (wr.alloc (.cells #[.int .i64 x.op, .int .i64 x.a, .int .i64 x.b, .int .i64 x.c, .string (S x.tree)] 64)) := hb.alloc hsz _
        go_wp2_with fail
        refine (HV.out _).mono ?_
        rintro e w2 ⟨rfl, h2⟩
        have hb2 := hB1.trans (h2.mono hB1.size)
        clear h2 hB1 hb
        cases hrv : right x k n with
        | false =>
          have HF : Hid (r = false) := Lib.hid (by
            cases r with
            | false => rfl
            | true =>
              have h1 := (HR.out.1 rfl).2.2 k x HX.out
              rw [HN.out, hrv] at h1; cases h1)
          clear hrv
          go_wp2_with fail
          go_ret
          rw [HF.out]
          exact ⟨rfl, hb2⟩
        | true =>
          have HRT : Hid (∀ (j : Nat) (y : Ins), j < k + 1 → ps[j]? = some y → right y j n = true) := Lib.hid (fun j y hj hy => by
            by_cases h : j = k
            · subst h
              have h3 := HX.out
              rw [hy] at h3
              cases h3; exact hrv
            · exact hright.out j y (by omega) hy)
          have HB2 := Lib.hid hb2
          clear hrv hb2
          go_wp2_with fail
          go_roundw
          case rel => exact ⟨k + 1, u + x.tree.length, by omega, by go_num, by go_num, by omega, HT1, HRT, HB2.out⟩
          case measure => simp [intOf]; omega
    · obtain rfl : k = n := by omega
      have HF : Hid (r = true) := Lib.hid (HR.out.2 ⟨by have := HN.out; omega, by have := HTA.out; rw [htu.out] at this; omega, fun j y hy => by
        have := HN.out
        have hj : j < ps.length := (List.getElem?_eq_some_iff.1 hy).1
        rw [HN.out]
        exact hright.out j y (by omega) hy⟩)
      go_wp2_with fail
      go_ret
      rw [HF.out]
      exact ⟨rfl, hb⟩
theorem CV_none (w : World) (a : Option Addr) (cap : Nat) :
    Calls Tryz.prog 59 #[.slice a 0 cap] w fun e w' => e = .returned (.bool true) ∧ Below w.heap.size w w' := by
  go_enter Tryz.func59, Tryz.ntmps59
  go_wp2
  go_loopw [3, 11] (fun t i wr => i = .int .i64 0 ∧ t = .int .i64 0 ∧ Below w.heap.size w wr) (fun _ _ _ => 0)
  case atStart => exact ⟨rfl, rfl, Below.refl _ _⟩
  case round =>
    obtain ⟨rfl, rfl, hb⟩ := hrel
    go_wp2
    go_ret
    exact ⟨rfl, hb⟩
theorem CV_long (w : World) (a : Option Addr) (n cap : Nat) (h : 4000 < n) (h2 : n ≤ 281474976710656) :
    Calls Tryz.prog 59 #[.slice a n cap] w fun e w' => e = .returned (.bool false) ∧ Below w.heap.size w w' := by
  have h1 : (4000 : Int) < (n : Int) := by omega
  go_enter Tryz.func59, Tryz.ntmps59
  go_wp2
  go_ret
  exact ⟨rfl, Below.refl _ _⟩
theorem CV_arg (w : World) (v : Value) (ps : List Ins) (r : Bool) (h : ArgP w v ps) (hl : ps.length ≤ 281474976710656) (hz : ∀ x ∈ ps, x.tree.length ≤ 281474976710656) (hr : r = true ↔ PValid ps) :
    Calls Tryz.prog 59 #[v] w fun e w' => e = .returned (.bool r) ∧ Below w.heap.size w w' := by
  rcases h with ⟨rfl, h⟩ | ⟨h0, b1, off, cap, rfl, hc⟩
  · obtain ⟨a, cap, rfl⟩ := empty_arg h
    obtain rfl : r = true := hr.2 ⟨by simp, by simp [trees], fun k x h => by simp at h⟩
    exact CV_none w a cap
  · by_cases hm : ps.length ≤ 4000
    · exact CV_some w b1 off cap ps r hc h0 hm hz hr
    · have : r = false := by
        cases r with
        | false => rfl
        | true => exact absurd (hr.1 rfl).1 hm
      rw [this]
      exact CV_long w _ _ cap (by omega) hl
theorem pv_bool (ps : List Ins) : ∃ r : Bool, r = true ↔ PValid ps := by
  by_cases h : PValid ps
  · exact ⟨true, by simp [h]⟩
  · exact ⟨false, by simp [h]⟩
theorem PV_arg (w : World) (v : Value) (ps : List Ins) (b : Bool) (h : ArgP w v ps) (hl : ps.length ≤ 281474976710656) (hz : ∀ x ∈ ps, x.tree.length ≤ 281474976710656) (hb : b = true ↔ PValid ps) :
    Calls Tryz.prog 18 #[v] w fun e w' => e = .returned (.bool b) ∧ Below w.heap.size w w' := by
  rcases h with ⟨rfl, h⟩ | ⟨h0, b1, off, cap, rfl, hc⟩
  · obtain ⟨a, cap, rfl⟩ := empty_arg h
    have : b = true := hb.2 ⟨by simp, by simp [trees], fun k x h => by simp at h⟩
    subst this
    exact PV_none w a cap
  · rcases Nat.lt_or_ge 4000 ps.length with h1 | h1
    · have : b = false := by cases b with
        | false => rfl
        | true => have := (hb.1 rfl).1; omega
      subst this
      exact PV_long w _ _ cap h1 hl
    · rcases Nat.lt_or_ge 2000000 (trees ps) with h2 | h2
      · have : b = false := by cases b with
          | false => rfl
          | true => have := (hb.1 rfl).2.1; omega
        subst this
        exact PV_trees w b1 off cap ps hc h1 hz h2
      · exact PV_some w b1 off cap ps b hc h1 hz h2 (hb.trans ⟨fun h => h.2.2, fun h => ⟨h1, h2, h⟩⟩)
theorem twin_any (w : World) (v : Value) (ps : List Ins) (h : ArgP w v ps) (hz : ps.length * 48 ≤ 140737488355328) :
    Calls Tryz.prog 17 #[v] w fun e w' => ∃ v', e = .returned v' ∧ ArgP w' v' ps ∧ Below w.heap.size w w' :=
  (Twin_arg w v ps h hz).mono fun _ _ ⟨v', h1, h2, h3⟩ => ⟨v', h1, (own_prog h2).2.1, h3⟩
end Go.Proofs.YtmhoacnbmbhcjaaGreatDoor
