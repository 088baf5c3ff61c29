/- Programs as lists of instructions; the reference's Register, Right. By an AI agent. -/
import Derived.Test.YtpiahjbpidcjpaaReads
import Derived.BigGuard
namespace Go.Proofs.Ytpiahjbpidcjpaa
open Go.RowKit Pl

structure Ins where
  op : Int
  a : Int
  b : Int
  c : Int
  tree : List UInt8
def Ins.agg (x : Ins) : Value := .agg #[.int .i64 x.op, .int .i64 x.a, .int .i64 x.b, .int .i64 x.c, .string (S x.tree)]

def reg (n : Int) : Bool := decide (0 ≤ n) && decide (n < 32)
theorem reg_true {n : Int} (h : reg n = true) : 0 ≤ n ∧ n < 32 := by simpa [reg] using h

set_option maxHeartbeats 400000 in
set_option maxRecDepth 100000 in
theorem Register_any (n : Int) (w : World) :
    Calls Try.prog 120 #[.int .i64 n] w fun e w' => e = .returned (.bool (reg n)) ∧ w = w' := by
  by_cases h : 0 ≤ n
  · by_cases h2 : n < 32
    · have hr : reg n = true := by simp [reg, h, h2]
      have HR := Lib.hid hr; clear hr
      go_enter Try.func120, Try.ntmps120
      go_wp2_with fail
      go_ret
      exact ⟨ret_bool HR.out.symm, rfl⟩
    · have hr : reg n = false := by simp [reg, h2]
      have HR := Lib.hid hr; clear hr
      go_enter Try.func120, Try.ntmps120
      go_wp2_with fail
      go_ret
      exact ⟨ret_bool HR.out.symm, rfl⟩
  · have hr : reg n = false := by simp [reg, h]
    have HR := Lib.hid hr; clear hr
    go_enter Try.func120, Try.ntmps120
    go_wp2_with fail
    go_ret
    exact ⟨ret_bool HR.out.symm, rfl⟩
theorem Register_is (b : Bool) (n : Int) (w : World) (h : reg n = b) :
    Calls Try.prog 120 #[.int .i64 n] w fun e w' => e = .returned (.bool b) ∧ w = w' := by
  rw [← h]; exact Register_any n w

theorem rValid_eq (b : Bool) (s : ByteArray) (w : World) (hs : s.size ≤ 281474976710656) (h : vld s.data.toList = b) :
    Calls Try.prog 22 #[.string s] w fun e w' => e = .returned (.bool b) ∧ w = w' := by
  rw [← h]; exact rValid_any s w hs
/-- an instruction may stand at place i of n -/
def right (x : Ins) (i n : Int) : Bool :=
  reg x.a && (x.op == 0 || x.tree.isEmpty) && (x.op == 2 || x.c == 0) &&
    (if x.op = 0 then x.b == 0 && vld x.tree
     else if x.op = 1 ∨ x.op = 3 ∨ x.op = 4 then reg x.b
     else if x.op = 2 then reg x.b && reg x.c
     else if x.op = 5 then decide (-i ≤ x.b) && decide (x.b ≤ n - i)
     else false)

set_option maxHeartbeats 800000 in
set_option maxRecDepth 100000 in
theorem right_reg (op a b c : Int) (t : List UInt8) (i n : Int) (w : World) (h : reg a = false) :
    Calls Try.prog 76 #[.agg #[.int .i64 op, .int .i64 a, .int .i64 b, .int .i64 c, .string (S t)], .int .i64 i, .int .i64 n] w fun e w' => e = .returned (.bool false) ∧ Below w.heap.size w w' := by
  have H := Lib.hid (fun W => Register_is false a W h); clear h
  go_enter Try.func76, Try.ntmps76
  go_wp2_with fail
  refine (H.out _).mono ?_
  rintro e w1 ⟨rfl, rfl⟩
  go_wp2_with fail
  go_ret
  exact ⟨rfl, (Below.refl _ _).alloc (Nat.le_refl _) _⟩
set_option maxHeartbeats 800000 in
set_option maxRecDepth 100000 in
theorem right_tree (op a b c : Int) (t : List UInt8) (i n : Int) (w : World) (h : reg a = true) (h0 : op ≠ 0) (ht : t ≠ []) :
    Calls Try.prog 76 #[.agg #[.int .i64 op, .int .i64 a, .int .i64 b, .int .i64 c, .string (S t)], .int .i64 i, .int .i64 n] w fun e w' => e = .returned (.bool false) ∧ Below w.heap.size w w' := by
  have H := Lib.hid (fun W => Register_is true a W h); clear h
  have o0 : (op != 0) = true := by rw [bne_iff_ne]; exact h0
  have o0' : (op == 0) = false := beq_eq_false_iff_ne.2 h0
  have t0 : t.isEmpty = false := by simpa using ht
  have t1 : (t == []) = false := beq_eq_false_iff_ne.2 ht
  clear h0 ht
  go_enter Try.func76, Try.ntmps76
  go_wp2_with fail
  refine (H.out _).mono ?_
  rintro e w1 ⟨rfl, rfl⟩
  go_wp2_with fail
  go_ret
  exact ⟨rfl, (Below.refl _ _).alloc (Nat.le_refl _) _⟩
set_option maxHeartbeats 800000 in
set_option maxRecDepth 100000 in
theorem right_c0 (a b c : Int) (t : List UInt8) (i n : Int) (w : World) (h : reg a = true) (hc : c ≠ 0) :
    Calls Try.prog 76 #[.agg #[.int .i64 0, .int .i64 a, .int .i64 b, .int .i64 c, .string (S t)], .int .i64 i, .int .i64 n] w fun e w' => e = .returned (.bool false) ∧ Below w.heap.size w w' := by
  have H := Lib.hid (fun W => Register_is true a W h); clear h
  have c0 : (c != 0) = true := by rw [bne_iff_ne]; exact hc
  clear hc
  go_enter Try.func76, Try.ntmps76
  go_wp2_with fail
  refine (H.out _).mono ?_
  rintro e w1 ⟨rfl, rfl⟩
  go_wp2_with fail
  go_ret
  exact ⟨rfl, (Below.refl _ _).alloc (Nat.le_refl _) _⟩
set_option maxHeartbeats 800000 in
set_option maxRecDepth 100000 in
theorem right_c1 (op a b c : Int) (i n : Int) (w : World) (h : reg a = true) (h0 : op ≠ 0) (h2 : op ≠ 2) (hc : c ≠ 0) :
    Calls Try.prog 76 #[.agg #[.int .i64 op, .int .i64 a, .int .i64 b, .int .i64 c, .string ⟨#[]⟩], .int .i64 i, .int .i64 n] w fun e w' => e = .returned (.bool false) ∧ Below w.heap.size w w' := by
  have H := Lib.hid (fun W => Register_is true a W h); clear h
  have o0 : (op != 0) = true := by rw [bne_iff_ne]; exact h0
  have o0' : (op == 0) = false := beq_eq_false_iff_ne.2 h0
  have o2 : (op != 2) = true := by rw [bne_iff_ne]; exact h2
  have o2' : (op == 2) = false := beq_eq_false_iff_ne.2 h2
  have c0 : (c != 0) = true := by rw [bne_iff_ne]; exact hc
  clear h0 h2 hc
  go_enter Try.func76, Try.ntmps76
  go_wp2_with fail
  refine (H.out _).mono ?_
  rintro e w1 ⟨rfl, rfl⟩
  go_wp2_with fail
  go_ret
  exact ⟨rfl, (Below.refl _ _).alloc (Nat.le_refl _) _⟩
set_option maxHeartbeats 800000 in
set_option maxRecDepth 100000 in
theorem right_set0 (a b : Int) (t : List UInt8) (i n : Int) (w : World) (h : reg a = true) (hb : b ≠ 0) :
    Calls Try.prog 76 #[.agg #[.int .i64 0, .int .i64 a, .int .i64 b, .int .i64 0, .string (S t)], .int .i64 i, .int .i64 n] w fun e w' => e = .returned (.bool false) ∧ Below w.heap.size w w' := by
  have H := Lib.hid (fun W => Register_is true a W h); clear h
  have b0 : (b == 0) = false := beq_eq_false_iff_ne.2 hb
  clear hb
  go_enter Try.func76, Try.ntmps76
  go_wp2_with fail
  refine (H.out _).mono ?_
  rintro e w1 ⟨rfl, rfl⟩
  go_wp2_with fail
  go_ret
  exact ⟨rfl, (Below.refl _ _).alloc (Nat.le_refl _) _⟩
set_option maxHeartbeats 800000 in
set_option maxRecDepth 100000 in
theorem right_set1 (a : Int) (t : List UInt8) (v : Bool) (i n : Int) (w : World) (h : reg a = true) (hl : t.length ≤ 281474976710656) (hv : vld t = v) :
    Calls Try.prog 76 #[.agg #[.int .i64 0, .int .i64 a, .int .i64 0, .int .i64 0, .string (S t)], .int .i64 i, .int .i64 n] w fun e w' => e = .returned (.bool v) ∧ Below w.heap.size w w' := by
  have H := Lib.hid (fun W => Register_is true a W h); clear h
  have HV := Lib.hid (fun W => rValid_eq v (S t) W (by rw [S_size]; exact hl) hv); clear hl hv
  go_enter Try.func76, Try.ntmps76
  go_wp2_with fail
  refine (H.out _).mono ?_
  rintro e w1 ⟨rfl, rfl⟩
  go_wp2_with fail
  refine (HV.out _).mono ?_
  rintro e w1 ⟨rfl, rfl⟩
  go_wp2_with fail
  go_ret
  exact ⟨rfl, (Below.refl _ _).alloc (Nat.le_refl _) _⟩
set_option maxHeartbeats 800000 in
set_option maxRecDepth 100000 in
theorem right_move1 (a b : Int) (v : Bool) (i n : Int) (w : World) (h : reg a = true) (hv : reg b = v) :
    Calls Try.prog 76 #[.agg #[.int .i64 1, .int .i64 a, .int .i64 b, .int .i64 0, .string ⟨#[]⟩], .int .i64 i, .int .i64 n] w fun e w' => e = .returned (.bool v) ∧ Below w.heap.size w w' := by
  have H := Lib.hid (fun W => Register_is true a W h); clear h
  have HV := Lib.hid (fun W => Register_is v b W hv); clear hv
  go_enter Try.func76, Try.ntmps76
  go_wp2_with fail
  refine (H.out _).mono ?_
  rintro e w1 ⟨rfl, rfl⟩
  go_wp2_with fail
  refine (HV.out _).mono ?_
  rintro e w1 ⟨rfl, rfl⟩
  go_wp2_with fail
  go_ret
  exact ⟨rfl, (Below.refl _ _).alloc (Nat.le_refl _) _⟩
set_option maxHeartbeats 800000 in
set_option maxRecDepth 100000 in
theorem right_move3 (a b : Int) (v : Bool) (i n : Int) (w : World) (h : reg a = true) (hv : reg b = v) :
    Calls Try.prog 76 #[.agg #[.int .i64 3, .int .i64 a, .int .i64 b, .int .i64 0, .string ⟨#[]⟩], .int .i64 i, .int .i64 n] w fun e w' => e = .returned (.bool v) ∧ Below w.heap.size w w' := by
  have H := Lib.hid (fun W => Register_is true a W h); clear h
  have HV := Lib.hid (fun W => Register_is v b W hv); clear hv
  go_enter Try.func76, Try.ntmps76
  go_wp2_with fail
  refine (H.out _).mono ?_
  rintro e w1 ⟨rfl, rfl⟩
  go_wp2_with fail
  refine (HV.out _).mono ?_
  rintro e w1 ⟨rfl, rfl⟩
  go_wp2_with fail
  go_ret
  exact ⟨rfl, (Below.refl _ _).alloc (Nat.le_refl _) _⟩
set_option maxHeartbeats 800000 in
set_option maxRecDepth 100000 in
theorem right_move4 (a b : Int) (v : Bool) (i n : Int) (w : World) (h : reg a = true) (hv : reg b = v) :
    Calls Try.prog 76 #[.agg #[.int .i64 4, .int .i64 a, .int .i64 b, .int .i64 0, .string ⟨#[]⟩], .int .i64 i, .int .i64 n] w fun e w' => e = .returned (.bool v) ∧ Below w.heap.size w w' := by
  have H := Lib.hid (fun W => Register_is true a W h); clear h
  have HV := Lib.hid (fun W => Register_is v b W hv); clear hv
  go_enter Try.func76, Try.ntmps76
  go_wp2_with fail
  refine (H.out _).mono ?_
  rintro e w1 ⟨rfl, rfl⟩
  go_wp2_with fail
  refine (HV.out _).mono ?_
  rintro e w1 ⟨rfl, rfl⟩
  go_wp2_with fail
  go_ret
  exact ⟨rfl, (Below.refl _ _).alloc (Nat.le_refl _) _⟩
set_option maxHeartbeats 800000 in
set_option maxRecDepth 100000 in
theorem right_cons0 (a b c : Int) (i n : Int) (w : World) (h : reg a = true) (hb : reg b = false) :
    Calls Try.prog 76 #[.agg #[.int .i64 2, .int .i64 a, .int .i64 b, .int .i64 c, .string ⟨#[]⟩], .int .i64 i, .int .i64 n] w fun e w' => e = .returned (.bool false) ∧ Below w.heap.size w w' := by
  have H := Lib.hid (fun W => Register_is true a W h); clear h
  have HB := Lib.hid (fun W => Register_is false b W hb); clear hb
  go_enter Try.func76, Try.ntmps76
  go_wp2_with fail
  refine (H.out _).mono ?_
  rintro e w1 ⟨rfl, rfl⟩
  go_wp2_with fail
  refine (HB.out _).mono ?_
  rintro e w1 ⟨rfl, rfl⟩
  go_wp2_with fail
  go_ret
  exact ⟨rfl, (Below.refl _ _).alloc (Nat.le_refl _) _⟩
set_option maxHeartbeats 800000 in
set_option maxRecDepth 100000 in
theorem right_cons1 (a b c : Int) (v : Bool) (i n : Int) (w : World) (h : reg a = true) (hb : reg b = true) (hv : reg c = v) :
    Calls Try.prog 76 #[.agg #[.int .i64 2, .int .i64 a, .int .i64 b, .int .i64 c, .string ⟨#[]⟩], .int .i64 i, .int .i64 n] w fun e w' => e = .returned (.bool v) ∧ Below w.heap.size w w' := by
  have H := Lib.hid (fun W => Register_is true a W h); clear h
  have HB := Lib.hid (fun W => Register_is true b W hb); clear hb
  have HV := Lib.hid (fun W => Register_is v c W hv); clear hv
  go_enter Try.func76, Try.ntmps76
  go_wp2_with fail
  refine (H.out _).mono ?_
  rintro e w1 ⟨rfl, rfl⟩
  go_wp2_with fail
  refine (HB.out _).mono ?_
  rintro e w1 ⟨rfl, rfl⟩
  go_wp2_with fail
  refine (HV.out _).mono ?_
  rintro e w1 ⟨rfl, rfl⟩
  go_wp2_with fail
  go_ret
  exact ⟨rfl, (Below.refl _ _).alloc (Nat.le_refl _) _⟩
set_option maxHeartbeats 800000 in
set_option maxRecDepth 100000 in
theorem right_jump0 (a b : Int) (i n : Int) (w : World) (h : reg a = true) (hi0 : 0 ≤ i) (hi1 : i ≤ 4000) (hb : b < -i) :
    Calls Try.prog 76 #[.agg #[.int .i64 5, .int .i64 a, .int .i64 b, .int .i64 0, .string ⟨#[]⟩], .int .i64 i, .int .i64 n] w fun e w' => e = .returned (.bool false) ∧ Below w.heap.size w w' := by
  have H := Lib.hid (fun W => Register_is true a W h); clear h
  go_enter Try.func76, Try.ntmps76
  go_wp2_with fail
  refine (H.out _).mono ?_
  rintro e w1 ⟨rfl, rfl⟩
  go_wp2_with fail
  go_ret
  exact ⟨rfl, (Below.refl _ _).alloc (Nat.le_refl _) _⟩
set_option maxHeartbeats 800000 in
set_option maxRecDepth 100000 in
theorem right_jump1 (a b : Int) (i n : Int) (w : World) (h : reg a = true) (hi0 : 0 ≤ i) (hi1 : i ≤ 4000) (hn0 : 0 ≤ n) (hn1 : n ≤ 4000) (hb : -i ≤ b) :
    Calls Try.prog 76 #[.agg #[.int .i64 5, .int .i64 a, .int .i64 b, .int .i64 0, .string ⟨#[]⟩], .int .i64 i, .int .i64 n] w fun e w' => e = .returned (.bool (decide (b ≤ n - i))) ∧ Below w.heap.size w w' := by
  have H := Lib.hid (fun W => Register_is true a W h); clear h
  go_enter Try.func76, Try.ntmps76
  go_wp2_with fail
  refine (H.out _).mono ?_
  rintro e w1 ⟨rfl, rfl⟩
  go_wp2_with fail
  go_ret
  exact ⟨rfl, (Below.refl _ _).alloc (Nat.le_refl _) _⟩
set_option maxHeartbeats 800000 in
set_option maxRecDepth 100000 in
theorem right_other (op a b : Int) (i n : Int) (w : World) (h : reg a = true) (h0 : op ≠ 0) (h1 : op ≠ 1) (h2 : op ≠ 2) (h3 : op ≠ 3) (h4 : op ≠ 4) (h5 : op ≠ 5) :
    Calls Try.prog 76 #[.agg #[.int .i64 op, .int .i64 a, .int .i64 b, .int .i64 0, .string ⟨#[]⟩], .int .i64 i, .int .i64 n] w fun e w' => e = .returned (.bool false) ∧ Below w.heap.size w w' := by
  have H := Lib.hid (fun W => Register_is true a W h); clear h
  have o0 : (op != 0) = true := by rw [bne_iff_ne]; exact h0
  have o0' : (op == 0) = false := beq_eq_false_iff_ne.2 h0
  have o2 : (op != 2) = true := by rw [bne_iff_ne]; exact h2
  have o2' : (op == 2) = false := beq_eq_false_iff_ne.2 h2
  have o1' : (op == 1) = false := beq_eq_false_iff_ne.2 h1
  have o3' : (op == 3) = false := beq_eq_false_iff_ne.2 h3
  have o4' : (op == 4) = false := beq_eq_false_iff_ne.2 h4
  have o5' : (op == 5) = false := beq_eq_false_iff_ne.2 h5
  clear h0 h1 h2 h3 h4 h5
  go_enter Try.func76, Try.ntmps76
  go_wp2_with fail
  refine (H.out _).mono ?_
  rintro e w1 ⟨rfl, rfl⟩
  go_wp2_with fail
  go_ret
  exact ⟨rfl, (Below.refl _ _).alloc (Nat.le_refl _) _⟩

theorem right_any (x : Ins) (i n : Int) (w : World) (hi0 : 0 ≤ i) (hi1 : i ≤ 4000) (hn0 : 0 ≤ n) (hn1 : n ≤ 4000) (hl : x.tree.length ≤ 281474976710656) :
    Calls Try.prog 76 #[x.agg, .int .i64 i, .int .i64 n] w fun e w' => e = .returned (.bool (right x i n)) ∧ Below w.heap.size w w' := by
  obtain ⟨op, a, b, c, t⟩ := x
  show Calls Try.prog 76 #[.agg #[.int .i64 op, .int .i64 a, .int .i64 b, .int .i64 c, .string (S t)], .int .i64 i, .int .i64 n] w _
  have put : ∀ {v : Bool}, (right ⟨op, a, b, c, t⟩ i n = v) → Calls Try.prog 76 #[.agg #[.int .i64 op, .int .i64 a, .int .i64 b, .int .i64 c, .string (S t)], .int .i64 i, .int .i64 n] w (fun e w' => e = .returned (.bool v) ∧ Below w.heap.size w w') →
      Calls Try.prog 76 #[.agg #[.int .i64 op, .int .i64 a, .int .i64 b, .int .i64 c, .string (S t)], .int .i64 i, .int .i64 n] w (fun e w' => e = .returned (.bool (right ⟨op, a, b, c, t⟩ i n)) ∧ Below w.heap.size w w') := fun h k => by rw [h]; exact k
  cases ha : reg a with
  | false => exact put (by simp [right, ha]) (right_reg op a b c t i n w ha)
  | true =>
    by_cases h0 : op = 0
    · subst h0
      by_cases hc : c = 0
      · subst hc
        by_cases hb : b = 0
        · subst hb; exact put (v := vld t) (by simp [right, ha]) (right_set1 a t _ i n w ha hl rfl)
        · exact put (by simp [right, ha, hb]) (right_set0 a b t i n w ha hb)
      · exact put (by simp [right, ha, hc]) (right_c0 a b c t i n w ha hc)
    · by_cases ht : t = []
      · subst ht
        by_cases h2 : op = 2
        · subst h2
          cases hb : reg b with
          | false => exact put (by simp [right, ha, hb]) (right_cons0 a b c i n w ha hb)
          | true => exact put (v := reg c) (by simp [right, ha, hb]) (right_cons1 a b c _ i n w ha hb rfl)
        · by_cases hc : c = 0
          · subst hc
            by_cases h1 : op = 1
            · subst h1; exact put (v := reg b) (by simp [right, ha]) (right_move1 a b _ i n w ha rfl)
            · by_cases h3 : op = 3
              · subst h3; exact put (v := reg b) (by simp [right, ha]) (right_move3 a b _ i n w ha rfl)
              · by_cases h4 : op = 4
                · subst h4; exact put (v := reg b) (by simp [right, ha]) (right_move4 a b _ i n w ha rfl)
                · by_cases h5 : op = 5
                  · subst h5
                    by_cases hb : -i ≤ b
                    · exact put (v := decide (b ≤ n - i)) (by simp [right, ha, hb]) (right_jump1 a b i n w ha hi0 hi1 hn0 hn1 hb)
                    · exact put (by simp [right, ha, hb]) (right_jump0 a b i n w ha hi0 hi1 (by omega))
                  · exact put (by simp [right, ha, h0, h1, h2, h3, h4, h5]) (right_other op a b i n w ha h0 h1 h2 h3 h4 h5)
          · exact put (by simp [right, ha, h0, h2, hc]) (right_c1 op a b c i n w ha h0 h2 hc)
      · exact put (by simp [right, ha, h0, ht]) (right_tree op a b c t i n w ha h0 ht)
end Go.Proofs.Ytpiahjbpidcjpaa
