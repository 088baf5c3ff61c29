/- Package code: registers, validInstr, Valid. By an AI agent. -/
import Derived.Test.YtlfoigkpfooopaaGreatDoorMParse
namespace Go.Proofs.YtlfoigkpfooopaaGreatDoor
open Go.RowKit Pl

set_option maxHeartbeats 800000 in
theorem registers_any (b : Nat) (ns : List Int) (cap : Nat) (w : World) (hc : ∀ j, j < ns.length → w.cell? ⟨b, j, none⟩ = some (.int .i64 (ns[j]?.getD 0))) (hl : ns.length ≤ 1000) :
    Calls Tryz.prog 65 #[.slice (some ⟨b, 0, none⟩) ns.length cap] w fun e w' => e = .returned (.bool (ns.all reg)) ∧ w = w' := by
  generalize hn : ns.length = n at *
  have HN := Lib.hid hn; have HC := Lib.hid hc
  clear hn hc
  go_enter Tryz.func65, Tryz.ntmps65
  go_wp2
  go_loop [7] (fun i => ∃ k : Nat, k ≤ n ∧ i = .int .i64 k ∧ Hid ((ns.take k).all reg = true)) (fun i => n - (intOf i).toNat)
  case atStart => exact ⟨0, Nat.zero_le _, rfl, Lib.hid rfl⟩
  case round =>
    obtain ⟨k, hk, rfl, hr⟩ := hrel
    by_cases hlt : k < n
    · have hck := HC.out k hlt
      have hkn : k < ns.length := by have := HN.out; omega
      obtain ⟨x, hx⟩ : ∃ x, ns[k]?.getD 0 = x := ⟨_, rfl⟩
      rw [hx] at hck
      have HX : Hid (ns[k] = x) := Lib.hid (by rw [← hx, List.getElem?_eq_getElem hkn]; rfl)
      have hk1 : (k : Int) < (n : Int) := by omega
      clear hx
      have HF : Hid (reg x = false → ns.all reg = false) := Lib.hid (fun h => by
        rw [List.all_eq_false]; exact ⟨_, List.getElem_mem hkn, by rw [HX.out, h]; simp⟩)
      by_cases h0 : x < 0
      · have HR : Hid (ns.all reg = false) := Lib.hid (HF.out (by unfold reg; simp; omega))
        go_wp2_with fail
        go_ret
        rw [HR.out]
        exact ⟨rfl, rfl⟩
      · by_cases h1 : x < 32
        · have HS : Hid ((ns.take (k + 1)).all reg = true) := Lib.hid (by
            rw [List.take_succ_eq_append_getElem hkn, List.all_append, hr.out, HX.out]; unfold reg; simp; omega)
          have h0' : 0 ≤ x := by omega
          clear h0
          go_wp2_with fail
          go_round
          case rel => exact ⟨k + 1, by omega, by go_num, HS⟩
          case measure => simp [intOf]; omega
        · have HR : Hid (ns.all reg = false) := Lib.hid (HF.out (by unfold reg; simp; omega))
          have h0' : 0 ≤ x := by omega
          have h1' : 32 ≤ x := by omega
          clear h0 h1
          go_wp2_with fail
          go_ret
          rw [HR.out]
          exact ⟨rfl, rfl⟩
    · obtain rfl : k = n := by omega
      have HR : Hid (ns.all reg = true) := Lib.hid (by rw [← List.take_of_length_le (show ns.length ≤ k by have := HN.out; omega)]; exact hr.out)
      go_wp2_with fail
      go_ret
      rw [HR.out]
      exact ⟨rfl, rfl⟩

theorem regs1 (b : Nat) (a : Int) (w : World) (h : w.cell? ⟨b, 0, none⟩ = some (.int .i64 a)) :
    Calls Tryz.prog 65 #[.slice (some ⟨b, 0, none⟩) 1 1] w fun e w' => e = .returned (.bool (reg a)) ∧ w = w' :=
  (registers_any b [a] 1 w (fun j hj => by simp at hj; subst hj; exact h) (by simp)).mono fun e w' h => ⟨by rw [h.1]; simp, h.2⟩
theorem regs2 (b : Nat) (a a2 : Int) (w : World) (h : w.cell? ⟨b, 0, none⟩ = some (.int .i64 a)) (h2 : w.cell? ⟨b, 1, none⟩ = some (.int .i64 a2)) :
    Calls Tryz.prog 65 #[.slice (some ⟨b, 0, none⟩) 2 2] w fun e w' => e = .returned (.bool (reg a && reg a2)) ∧ w = w' :=
  (registers_any b [a, a2] 2 w (fun j hj => by match j, hj with | 0, _ => exact h | 1, _ => exact h2 | j + 2, hj => simp at hj; omega) (by simp)).mono fun e w' h => ⟨by rw [h.1]; simp, h.2⟩
theorem regs3 (b : Nat) (a a2 a3 : Int) (w : World) (h : w.cell? ⟨b, 0, none⟩ = some (.int .i64 a)) (h2 : w.cell? ⟨b, 1, none⟩ = some (.int .i64 a2)) (h3 : w.cell? ⟨b, 2, none⟩ = some (.int .i64 a3)) :
    Calls Tryz.prog 65 #[.slice (some ⟨b, 0, none⟩) 3 3] w fun e w' => e = .returned (.bool (reg a && (reg a2 && reg a3))) ∧ w = w' :=
  (registers_any b [a, a2, a3] 3 w (fun j hj => by match j, hj with | 0, _ => exact h | 1, _ => exact h2 | 2, _ => exact h3 | j + 3, hj => simp at hj; omega) (by simp)).mono fun e w' h => ⟨by rw [h.1]; simp, h.2⟩

set_option maxHeartbeats 1600000 in
set_option maxRecDepth 100000 in
theorem vi_set (q : Bool) (a b c f l : Int) (t : List UInt8) (w : World) (hq : reg a = q) (ht : t.length ≤ 281474976710656) :
    Calls Tryz.prog 33 #[.agg #[.int .i64 0, .int .i64 a, .int .i64 b, .int .i64 c, .string (S t)], .int .i64 f, .int .i64 l] w fun e w' => e = .returned (.bool (q && (b == 0 && (c == 0 && vld t)))) ∧ Below w.heap.size w w' := by
  have HV := Lib.hid (fun W => Valid_is (vld t) (S t) W (by rw [S_size]; exact ht) rfl)
  have HQ := Lib.hid hq
  clear hq
  have key : ∀ (q0 b0 c0 : Bool), (b == 0) = b0 → (c == 0) = c0 → q = q0 → Calls Tryz.prog 33 #[.agg #[.int .i64 0, .int .i64 a, .int .i64 b, .int .i64 c, .string (S t)], .int .i64 f, .int .i64 l] w fun e w' => e = .returned (.bool (q0 && (b0 && (c0 && vld t)))) ∧ Below w.heap.size w w' := by
    intro q0 b0 c0 hb hc hq0
    rw [hq0] at HQ
    clear hq0
    go_enter Tryz.func33, Tryz.ntmps33
    go_wp2_with fail
    refine (regs1 _ a _ (by simp)).mono ?_
    rw [HQ.out]
    rintro e w1 ⟨rfl, rfl⟩
    cases q0 with
    | false =>
      go_wp2
      go_ret
      exact ⟨rfl, ((Below.refl _ _).alloc (Nat.le_refl _) _).alloc (by simp) _⟩
    | true =>
      cases b0 with
      | false =>
        go_wp2
        go_ret
        exact ⟨rfl, ((Below.refl _ _).alloc (Nat.le_refl _) _).alloc (by simp) _⟩
      | true =>
        cases c0 with
        | false =>
          go_wp2
          go_ret
          exact ⟨rfl, ((Below.refl _ _).alloc (Nat.le_refl _) _).alloc (by simp) _⟩
        | true =>
          go_wp2_with fail
          refine (HV.out _).mono ?_
          rintro e w2 ⟨rfl, h2⟩
          go_wp2
          go_ret
          exact ⟨rfl, (((Below.refl _ _).alloc (Nat.le_refl _) _).alloc (by simp) _).trans (h2.mono (by simp; omega))⟩
  exact key q _ _ rfl rfl rfl

set_option maxHeartbeats 1600000 in
set_option maxRecDepth 100000 in
theorem vi_move (q : Bool) (a b c f l : Int) (t : List UInt8) (w : World) (hq : (reg a && reg b) = q) :
    Calls Tryz.prog 33 #[.agg #[.int .i64 1, .int .i64 a, .int .i64 b, .int .i64 c, .string (S t)], .int .i64 f, .int .i64 l] w fun e w' => e = .returned (.bool (q && (c == 0 && t == []))) ∧ Below w.heap.size w w' := by
  have HQ := Lib.hid hq
  clear hq
  have key : ∀ (q0 c0 t0 : Bool), (c == 0) = c0 → (t == []) = t0 → q = q0 → Calls Tryz.prog 33 #[.agg #[.int .i64 1, .int .i64 a, .int .i64 b, .int .i64 c, .string (S t)], .int .i64 f, .int .i64 l] w fun e w' => e = .returned (.bool (q0 && (c0 && t0))) ∧ Below w.heap.size w w' := by
    intro q0 c0 t0 hc ht hq0
    rw [hq0] at HQ
    clear hq0
    go_enter Tryz.func33, Tryz.ntmps33
    go_wp2_with fail
    refine (regs2 _ a b _ (by simp) (by simp)).mono ?_
    rw [HQ.out]
    rintro e w1 ⟨rfl, rfl⟩
    cases q0 with
    | false =>
      go_wp2
      go_ret
      exact ⟨rfl, ((Below.refl _ _).alloc (Nat.le_refl _) _).alloc (by simp) _⟩
    | true =>
      cases c0 with
      | false =>
        go_wp2
        go_ret
        exact ⟨rfl, ((Below.refl _ _).alloc (Nat.le_refl _) _).alloc (by simp) _⟩
      | true =>
        go_wp2
        go_ret
        exact ⟨rfl, ((Below.refl _ _).alloc (Nat.le_refl _) _).alloc (by simp) _⟩
  exact key q _ _ rfl rfl rfl

set_option maxHeartbeats 1600000 in
set_option maxRecDepth 100000 in
theorem vi_head (q : Bool) (a b c f l : Int) (t : List UInt8) (w : World) (hq : (reg a && reg b) = q) :
    Calls Tryz.prog 33 #[.agg #[.int .i64 3, .int .i64 a, .int .i64 b, .int .i64 c, .string (S t)], .int .i64 f, .int .i64 l] w fun e w' => e = .returned (.bool (q && (c == 0 && t == []))) ∧ Below w.heap.size w w' := by
  have HQ := Lib.hid hq
  clear hq
  have key : ∀ (q0 c0 t0 : Bool), (c == 0) = c0 → (t == []) = t0 → q = q0 → Calls Tryz.prog 33 #[.agg #[.int .i64 3, .int .i64 a, .int .i64 b, .int .i64 c, .string (S t)], .int .i64 f, .int .i64 l] w fun e w' => e = .returned (.bool (q0 && (c0 && t0))) ∧ Below w.heap.size w w' := by
    intro q0 c0 t0 hc ht hq0
    rw [hq0] at HQ
    clear hq0
    go_enter Tryz.func33, Tryz.ntmps33
    go_wp2_with fail
    refine (regs2 _ a b _ (by simp) (by simp)).mono ?_
    rw [HQ.out]
    rintro e w1 ⟨rfl, rfl⟩
    cases q0 with
    | false =>
      go_wp2
      go_ret
      exact ⟨rfl, ((Below.refl _ _).alloc (Nat.le_refl _) _).alloc (by simp) _⟩
    | true =>
      cases c0 with
      | false =>
        go_wp2
        go_ret
        exact ⟨rfl, ((Below.refl _ _).alloc (Nat.le_refl _) _).alloc (by simp) _⟩
      | true =>
        go_wp2
        go_ret
        exact ⟨rfl, ((Below.refl _ _).alloc (Nat.le_refl _) _).alloc (by simp) _⟩
  exact key q _ _ rfl rfl rfl

set_option maxHeartbeats 1600000 in
set_option maxRecDepth 100000 in
theorem vi_tail (q : Bool) (a b c f l : Int) (t : List UInt8) (w : World) (hq : (reg a && reg b) = q) :
    Calls Tryz.prog 33 #[.agg #[.int .i64 4, .int .i64 a, .int .i64 b, .int .i64 c, .string (S t)], .int .i64 f, .int .i64 l] w fun e w' => e = .returned (.bool (q && (c == 0 && t == []))) ∧ Below w.heap.size w w' := by
  have HQ := Lib.hid hq
  clear hq
  have key : ∀ (q0 c0 t0 : Bool), (c == 0) = c0 → (t == []) = t0 → q = q0 → Calls Tryz.prog 33 #[.agg #[.int .i64 4, .int .i64 a, .int .i64 b, .int .i64 c, .string (S t)], .int .i64 f, .int .i64 l] w fun e w' => e = .returned (.bool (q0 && (c0 && t0))) ∧ Below w.heap.size w w' := by
    intro q0 c0 t0 hc ht hq0
    rw [hq0] at HQ
    clear hq0
    go_enter Tryz.func33, Tryz.ntmps33
    go_wp2_with fail
    refine (regs2 _ a b _ (by simp) (by simp)).mono ?_
    rw [HQ.out]
    rintro e w1 ⟨rfl, rfl⟩
    cases q0 with
    | false =>
      go_wp2
      go_ret
      exact ⟨rfl, ((Below.refl _ _).alloc (Nat.le_refl _) _).alloc (by simp) _⟩
    | true =>
      cases c0 with
      | false =>
        go_wp2
        go_ret
        exact ⟨rfl, ((Below.refl _ _).alloc (Nat.le_refl _) _).alloc (by simp) _⟩
      | true =>
        go_wp2
        go_ret
        exact ⟨rfl, ((Below.refl _ _).alloc (Nat.le_refl _) _).alloc (by simp) _⟩
  exact key q _ _ rfl rfl rfl

set_option maxHeartbeats 1600000 in
set_option maxRecDepth 100000 in
theorem vi_cons (q : Bool) (a b c f l : Int) (t : List UInt8) (w : World) (hq : (reg a && (reg b && reg c)) = q) :
    Calls Tryz.prog 33 #[.agg #[.int .i64 2, .int .i64 a, .int .i64 b, .int .i64 c, .string (S t)], .int .i64 f, .int .i64 l] w fun e w' => e = .returned (.bool (q && t == [])) ∧ Below w.heap.size w w' := by
  have HQ := Lib.hid hq
  clear hq
  have key : ∀ (q0 t0 : Bool), (t == []) = t0 → q = q0 → Calls Tryz.prog 33 #[.agg #[.int .i64 2, .int .i64 a, .int .i64 b, .int .i64 c, .string (S t)], .int .i64 f, .int .i64 l] w fun e w' => e = .returned (.bool (q0 && t0)) ∧ Below w.heap.size w w' := by
    intro q0 t0 ht hq0
    rw [hq0] at HQ
    clear hq0
    go_enter Tryz.func33, Tryz.ntmps33
    go_wp2_with fail
    refine (regs3 _ a b c _ (by simp) (by simp) (by simp)).mono ?_
    rw [HQ.out]
    rintro e w1 ⟨rfl, rfl⟩
    cases q0 with
    | false =>
      go_wp2
      go_ret
      exact ⟨rfl, ((Below.refl _ _).alloc (Nat.le_refl _) _).alloc (by simp) _⟩
    | true =>
      go_wp2
      go_ret
      exact ⟨rfl, ((Below.refl _ _).alloc (Nat.le_refl _) _).alloc (by simp) _⟩
  exact key q _ rfl rfl

set_option maxHeartbeats 1600000 in
set_option maxRecDepth 100000 in
theorem vi_jump (q : Bool) (a b c f l : Int) (t : List UInt8) (w : World) (hq : reg a = q) :
    Calls Tryz.prog 33 #[.agg #[.int .i64 5, .int .i64 a, .int .i64 b, .int .i64 c, .string (S t)], .int .i64 f, .int .i64 l] w fun e w' => e = .returned (.bool (q && (decide (f ≤ b) && (decide (b ≤ l) && (c == 0 && t == []))))) ∧ Below w.heap.size w w' := by
  have HQ := Lib.hid hq
  clear hq
  have key : ∀ (q0 f0 l0 c0 t0 : Bool), decide (f ≤ b) = f0 → decide (b ≤ l) = l0 → (c == 0) = c0 → (t == []) = t0 → q = q0 → Calls Tryz.prog 33 #[.agg #[.int .i64 5, .int .i64 a, .int .i64 b, .int .i64 c, .string (S t)], .int .i64 f, .int .i64 l] w fun e w' => e = .returned (.bool (q0 && (f0 && (l0 && (c0 && t0))))) ∧ Below w.heap.size w w' := by
    intro q0 f0 l0 c0 t0 hf hl hc ht hq0
    rw [hq0] at HQ
    clear hq0
    go_enter Tryz.func33, Tryz.ntmps33
    go_wp2_with fail
    refine (regs1 _ a _ (by simp)).mono ?_
    rw [HQ.out]
    rintro e w1 ⟨rfl, rfl⟩
    cases q0 with
    | false =>
      go_wp2
      go_ret
      exact ⟨rfl, ((Below.refl _ _).alloc (Nat.le_refl _) _).alloc (by simp) _⟩
    | true =>
      cases f0 with
      | false =>
        go_wp2
        go_ret
        exact ⟨rfl, ((Below.refl _ _).alloc (Nat.le_refl _) _).alloc (by simp) _⟩
      | true =>
        cases l0 with
        | false =>
          go_wp2
          go_ret
          exact ⟨rfl, ((Below.refl _ _).alloc (Nat.le_refl _) _).alloc (by simp) _⟩
        | true =>
          cases c0 with
          | false =>
            go_wp2
            go_ret
            exact ⟨rfl, ((Below.refl _ _).alloc (Nat.le_refl _) _).alloc (by simp) _⟩
          | true =>
            go_wp2
            go_ret
            exact ⟨rfl, ((Below.refl _ _).alloc (Nat.le_refl _) _).alloc (by simp) _⟩
  exact key q _ _ _ _ rfl rfl rfl rfl rfl

set_option maxHeartbeats 1600000 in
set_option maxRecDepth 100000 in
theorem vi_other (op a b c f l : Int) (t : List UInt8) (w : World) (h : op ≠ 0 ∧ op ≠ 1 ∧ op ≠ 2 ∧ op ≠ 3 ∧ op ≠ 4 ∧ op ≠ 5) :
    Calls Tryz.prog 33 #[.agg #[.int .i64 op, .int .i64 a, .int .i64 b, .int .i64 c, .string (S t)], .int .i64 f, .int .i64 l] w fun e w' => e = .returned (.bool false) ∧ Below w.heap.size w w' := by
  obtain ⟨h0, h1, h2, h3, h4, h5⟩ := h
  have b0 : (op == 0) = false := beq_eq_false_iff_ne.2 h0
  have b1 : (op == 1) = false := beq_eq_false_iff_ne.2 h1
  have b2 : (op == 2) = false := beq_eq_false_iff_ne.2 h2
  have b3 : (op == 3) = false := beq_eq_false_iff_ne.2 h3
  have b4 : (op == 4) = false := beq_eq_false_iff_ne.2 h4
  have b5 : (op == 5) = false := beq_eq_false_iff_ne.2 h5
  clear h0 h1 h2 h3 h4 h5
  go_enter Tryz.func33, Tryz.ntmps33
  go_wp2
  go_ret
  exact ⟨rfl, (Below.refl _ _).alloc (Nat.le_refl _) _⟩
theorem tree_nil (t : List UInt8) : (t == []) = t.isEmpty := by cases t <;> rfl
/-- validInstr at place i of n -/
theorem vi_any (x : Ins) (i n : Int) (w : World) (ht : x.tree.length ≤ 281474976710656) :
    Calls Tryz.prog 33 #[.agg #[.int .i64 x.op, .int .i64 x.a, .int .i64 x.b, .int .i64 x.c, .string (S x.tree)], .int .i64 (-i), .int .i64 (n - i)] w fun e w' => e = .returned (.bool (right x i n)) ∧ Below w.heap.size w w' := by
  obtain ⟨op, a, b, c, t⟩ := x
  simp only at ht ⊢
  by_cases h0 : op = 0
  · subst h0
    refine (vi_set (reg a) a b c (-i) (n - i) t w rfl ht).mono fun e w' h => ⟨?_, h.2⟩
    rw [h.1]; unfold right; simp only [if_true]; congr 2
    cases reg a <;> cases (b == 0) <;> cases (c == 0) <;> cases vld t <;> simp
  by_cases h2 : op = 2
  · subst h2
    refine (vi_cons (reg a && (reg b && reg c)) a b c (-i) (n - i) t w rfl).mono fun e w' h => ⟨?_, h.2⟩
    rw [h.1]; unfold right; rw [tree_nil]; congr 2
    cases reg a <;> cases reg b <;> cases reg c <;> cases t.isEmpty <;> simp
  by_cases h5 : op = 5
  · subst h5
    refine (vi_jump (reg a) a b c (-i) (n - i) t w rfl).mono fun e w' h => ⟨?_, h.2⟩
    rw [h.1]; unfold right; rw [tree_nil]; congr 2
    cases reg a <;> cases decide (-i ≤ b) <;> cases decide (b ≤ n - i) <;> cases (c == 0) <;> cases t.isEmpty <;> simp
  by_cases h1 : op = 1
  · subst h1
    refine (vi_move (reg a && reg b) a b c (-i) (n - i) t w rfl).mono fun e w' h => ⟨?_, h.2⟩
    rw [h.1]; unfold right; rw [tree_nil]; congr 2
    cases reg a <;> cases reg b <;> cases (c == 0) <;> cases t.isEmpty <;> simp
  by_cases h3 : op = 3
  · subst h3
    refine (vi_head (reg a && reg b) a b c (-i) (n - i) t w rfl).mono fun e w' h => ⟨?_, h.2⟩
    rw [h.1]; unfold right; rw [tree_nil]; congr 2
    cases reg a <;> cases reg b <;> cases (c == 0) <;> cases t.isEmpty <;> simp
  by_cases h4 : op = 4
  · subst h4
    refine (vi_tail (reg a && reg b) a b c (-i) (n - i) t w rfl).mono fun e w' h => ⟨?_, h.2⟩
    rw [h.1]; unfold right; rw [tree_nil]; congr 2
    cases reg a <;> cases reg b <;> cases (c == 0) <;> cases t.isEmpty <;> simp
  refine (vi_other op a b c (-i) (n - i) t w ⟨h0, h1, h2, h3, h4, h5⟩).mono fun e w' h => ⟨?_, h.2⟩
  rw [h.1]; unfold right; simp [h0, h1, h2, h3, h4, h5]
end Go.Proofs.YtlfoigkpfooopaaGreatDoor

namespace Go.Proofs.YtlfoigkpfooopaaGreatDoor
open Go.RowKit Pl

set_option maxHeartbeats 3200000 in
set_option maxRecDepth 100000 in
theorem CV_some (w : World) (b off cap : Nat) (ps : List Ins) (r : Bool) (hc : ProgAt w b off ps) (h0 : 0 < ps.length) (hm : ps.length ≤ 4000) (hz : ∀ x ∈ ps, x.tree.length ≤ 281474976710656) (hr : r = true ↔ PValid ps) :
    Calls Tryz.prog 13 #[.slice (some ⟨b, off, none⟩) ps.length cap] w fun e w' => e = .returned (.bool r) ∧ Below w.heap.size w w' := by
  have HT := Lib.hid (treesTo_top (ps := ps))
  have HTA := Lib.hid (treesTo_all (ps := ps) (k := ps.length) (Nat.le_refl _))
  generalize hnn : ps.length = n at *
  have HN := Lib.hid hnn; have HC := Lib.hid hc; have HZ := Lib.hid hz; have HR := Lib.hid hr; clear hnn hc hz hr
  have hbw := HC.out.1
  go_enter Tryz.func13, Tryz.ntmps13
  go_wp2
  go_loopw [3, 11] (fun t i wr => ∃ (k u : Nat), k ≤ n ∧ i = .int .i64 k ∧ t = .int .i64 u ∧ u ≤ 2000000 ∧ Hid (treesTo ps k = u) ∧ Hid (∀ (j : Nat) (x : Ins), j < k → ps[j]? = some x → right x j n = true) ∧ Below w.heap.size w wr) (fun _ i _ => n - (intOf i).toNat)
  case atStart => exact ⟨0, 0, Nat.zero_le _, rfl, rfl, by omega, Lib.hid (by simp [treesTo]), Lib.hid (fun j x hj => absurd hj (Nat.not_lt_zero _)), Below.refl _ _⟩
  case round =>
    obtain ⟨k, u, hk, rfl, rfl, hu, htu, hright, hb⟩ := hrel
    have hsz := hb.size
    by_cases hlt : k < n
    · obtain ⟨x, hx⟩ := get_at (ps := ps) (k := k) (by have := HN.out; omega)
      obtain ⟨a0, a1, a2, a3, a4⟩ := HC.out.2 k x hx
      have hxz : x.tree.length ≤ 281474976710656 := HZ.out x (List.mem_of_getElem? hx)
      have k0 := (hb.cell (p := ⟨b, off + k * 5, none⟩) hbw).trans a0
      have k1 := (hb.cell (p := ⟨b, off + k * 5 + 1, none⟩) hbw).trans a1
      have k2 := (hb.cell (p := ⟨b, off + k * 5 + 2, none⟩) hbw).trans a2
      have k3 := (hb.cell (p := ⟨b, off + k * 5 + 3, none⟩) hbw).trans a3
      have k4 := (hb.cell (p := ⟨b, off + k * 5 + 4, none⟩) hbw).trans a4
      have HX := Lib.hid hx
      have HT1 : Hid (treesTo ps (k + 1) = u + x.tree.length) := Lib.hid (by rw [treesTo_succ hx, htu.out])
      have hk1 : (k : Int) < (n : Int) := by omega
      clear hx a0 a1 a2 a3 a4
      by_cases hbig : 2000000 < u + x.tree.length
      · have HF : Hid (r = false) := Lib.hid (by
          cases r with
          | false => rfl
          | true => have h1 := (HR.out.1 rfl).2.1; have h2 := HT.out (k + 1); rw [HT1.out] at h2; omega)
        have hbig' : (2000000 : Int) < (u : Int) + (x.tree.length : Int) := by omega
        go_wp2_with fail
        go_ret
        rw [HF.out]
        exact ⟨rfl, hb.alloc hsz _⟩
      · have hbig' : (u : Int) + (x.tree.length : Int) ≤ 2000000 := by omega
        have HV := Lib.hid (fun W => vi_any x k n W hxz)
        have hB1 : Below w.heap.size w (wr.alloc (.cells #[.int .i64 x.op, .int .i64 x.a, .int .i64 x.b, .int .i64 x.c, .string (S x.tree)] 46)) := hb.alloc hsz _
        go_wp2_with fail
        refine (HV.out _).mono ?_
        rintro e w2 ⟨rfl, h2⟩
        have hb2 := hB1.trans (h2.mono hB1.size)
        clear h2 hB1 hb
        cases hrv : right x k n with
        | false =>
          have HF : Hid (r = false) := Lib.hid (by
            cases r with
            | false => rfl
            | true =>
              have h1 := (HR.out.1 rfl).2.2 k x HX.out
              rw [HN.out, hrv] at h1; cases h1)
          clear hrv
          go_wp2_with fail
          go_ret
          rw [HF.out]
          exact ⟨rfl, hb2⟩
        | true =>
          have HRT : Hid (∀ (j : Nat) (y : Ins), j < k + 1 → ps[j]? = some y → right y j n = true) := Lib.hid (fun j y hj hy => by
            by_cases h : j = k
            · subst h
              have h3 := HX.out
              rw [hy] at h3
              cases h3; exact hrv
            · exact hright.out j y (by omega) hy)
          have HB2 := Lib.hid hb2
          clear hrv hb2
          go_wp2_with fail
          go_roundw
          case rel => exact ⟨k + 1, u + x.tree.length, by omega, by go_num, by go_num, by omega, HT1, HRT, HB2.out⟩
          case measure => simp [intOf]; omega
    · obtain rfl : k = n := by omega
      have HF : Hid (r = true) := Lib.hid (HR.out.2 ⟨by have := HN.out; omega, by have := HTA.out; rw [htu.out] at this; omega, fun j y hy => by
        have := HN.out
        have hj : j < ps.length := (List.getElem?_eq_some_iff.1 hy).1
        rw [HN.out]
        exact hright.out j y (by omega) hy⟩)
      go_wp2_with fail
      go_ret
      rw [HF.out]
      exact ⟨rfl, hb⟩
theorem CV_none (w : World) (a : Option Addr) (cap : Nat) :
    Calls Tryz.prog 13 #[.slice a 0 cap] w fun e w' => e = .returned (.bool true) ∧ Below w.heap.size w w' := by
  go_enter Tryz.func13, Tryz.ntmps13
  go_wp2
  go_loopw [3, 11] (fun t i wr => i = .int .i64 0 ∧ t = .int .i64 0 ∧ Below w.heap.size w wr) (fun _ _ _ => 0)
  case atStart => exact ⟨rfl, rfl, Below.refl _ _⟩
  case round =>
    obtain ⟨rfl, rfl, hb⟩ := hrel
    go_wp2
    go_ret
    exact ⟨rfl, hb⟩
theorem CV_long (w : World) (a : Option Addr) (n cap : Nat) (h : 4000 < n) (h2 : n ≤ 281474976710656) :
    Calls Tryz.prog 13 #[.slice a n cap] w fun e w' => e = .returned (.bool false) ∧ Below w.heap.size w w' := by
  have h1 : (4000 : Int) < (n : Int) := by omega
  go_enter Tryz.func13, Tryz.ntmps13
  go_wp2
  go_ret
  exact ⟨rfl, Below.refl _ _⟩
theorem CV_arg (w : World) (v : Value) (ps : List Ins) (r : Bool) (h : ArgP w v ps) (hl : ps.length ≤ 281474976710656) (hz : ∀ x ∈ ps, x.tree.length ≤ 281474976710656) (hr : r = true ↔ PValid ps) :
    Calls Tryz.prog 13 #[v] w fun e w' => e = .returned (.bool r) ∧ Below w.heap.size w w' := by
  rcases h with ⟨rfl, h⟩ | ⟨h0, b1, off, cap, rfl, hc⟩
  · obtain ⟨a, cap, rfl⟩ := empty_arg h
    obtain rfl : r = true := hr.2 ⟨by simp, by simp [trees], fun k x h => by simp at h⟩
    exact CV_none w a cap
  · by_cases hm : ps.length ≤ 4000
    · exact CV_some w b1 off cap ps r hc h0 hm hz hr
    · have : r = false := by
        cases r with
        | false => rfl
        | true => exact absurd (hr.1 rfl).1 hm
      rw [this]
      exact CV_long w _ _ cap (by omega) hl
end Go.Proofs.YtlfoigkpfooopaaGreatDoor

namespace Go.Proofs.YtlfoigkpfooopaaGreatDoor
open Go.RowKit Pl

theorem set5 {α : Type} (xs : List α) (m : Nat) (v0 v1 v2 v3 v4 : α) (h : m + 5 ≤ xs.length) :
    (((((xs.set m v0).set (m + 1) v1).set (m + 2) v2).set (m + 3) v3).set (m + 4) v4).take (m + 5) = xs.take m ++ [v0, v1, v2, v3, v4] := by
  obtain ⟨A, R, rfl, hA⟩ : ∃ A R, xs = A ++ R ∧ A.length = m := ⟨xs.take m, xs.drop m, (List.take_append_drop _ _).symm, by simp; omega⟩
  subst hA
  obtain ⟨c0, c1, c2, c3, c4, B, rfl⟩ : ∃ c0 c1 c2 c3 c4 B, R = c0 :: c1 :: c2 :: c3 :: c4 :: B := by
    rcases R with _ | ⟨c0, _ | ⟨c1, _ | ⟨c2, _ | ⟨c3, _ | ⟨c4, B⟩⟩⟩⟩⟩
    · exact absurd h (by simp)
    · simp at h
    · simp at h
    · simp at h
    · simp at h
    · exact ⟨c0, c1, c2, c3, c4, B, rfl⟩
  rw [List.set_append_right _ _ (by omega), List.set_append_right _ _ (by omega), List.set_append_right _ _ (by omega), List.set_append_right _ _ (by omega), List.set_append_right _ _ (by omega)]
  simp only [Nat.sub_self, Nat.add_sub_cancel_left, List.set_cons_zero, List.set_cons_succ]
  rw [List.take_left]
  rw [show A ++ (v0 :: v1 :: v2 :: v3 :: v4 :: B) = (A ++ [v0, v1, v2, v3, v4]) ++ B by simp, show A.length + 5 = (A ++ [v0, v1, v2, v3, v4]).length by simp, List.take_left]
def rdAll (rd : List UInt8 → Option Ins) : List (List UInt8) → Option (List Ins)
  | [] => some []
  | s :: ls => (rd s).bind fun x => (rdAll rd ls).map fun xs => x :: xs
theorem rdAll_snoc (rd : List UInt8 → Option Ins) (ls : List (List UInt8)) (s : List UInt8) : rdAll rd (ls ++ [s]) = (rdAll rd ls).bind fun xs => (rd s).map fun x => xs ++ [x] := by
  induction ls with
  | nil => simp only [List.nil_append, rdAll]; cases rd s <;> simp
  | cons a ls ih =>
    rw [List.cons_append, rdAll, ih, rdAll]
    cases rd a with
    | none => rfl
    | some x => cases rdAll rd ls with
      | none => rfl
      | some xs => cases rd s <;> rfl
theorem rdAll_none {rd : List UInt8 → Option Ins} {ls : List (List UInt8)} {s : List UInt8} (h : s ∈ ls) (hn : rd s = none) : rdAll rd ls = none := by
  induction ls with
  | nil => cases h
  | cons a ls ih =>
    rcases List.mem_cons.1 h with rfl | h
    · rw [rdAll, hn]; rfl
    · rw [rdAll, ih h]; cases rd a <;> rfl
theorem rdAll_len {rd : List UInt8 → Option Ins} : ∀ {ls : List (List UInt8)} {ps : List Ins}, rdAll rd ls = some ps → ps.length = ls.length
  | [], ps, h => by simp only [rdAll, Option.some.injEq] at h; rw [← h]; rfl
  | a :: ls, ps, h => by
    rw [rdAll] at h
    cases ha : rd a with
    | none => rw [ha] at h; cases h
    | some x =>
      rw [ha] at h
      cases hl : rdAll rd ls with
      | none => rw [hl] at h; cases h
      | some xs =>
        rw [hl] at h
        simp only [Option.bind_some, Option.map_some, Option.some.injEq] at h
        rw [← h, List.length_cons, List.length_cons, rdAll_len hl]
/-- the strings a slice holds: any address, nil too -/
def StrsIn (w : World) (v : Value) (ls : List (List UInt8)) : Prop := ∃ b off cap, v = .slice (some ⟨b, off, none⟩) ls.length cap ∧ b < w.heap.size ∧ ∀ j, j < ls.length → w.cell? ⟨b, off + j, none⟩ = some (.string (S (ls.getD j [])))
def RPPost (w : World) (r : Option (List Ins)) (e : Ending) (w' : World) : Prop :=
  match r with
  | some ps => ∃ v q, e = .returned (.tuple #[v, .bool q]) ∧ (q = true ↔ PValid ps) ∧ ArgP w' v ps ∧ Below w.heap.size w w'
  | none => e = .returned (.tuple #[.slice none 0 0, .bool false]) ∧ Below w.heap.size w w'

theorem own_below {B k n : Nat} {e : TypeId} {v : Value} {xs : List Value} {w w' : World} (h : w.ownsRow B e k v n xs) (hb : Below w.heap.size w w') : w'.ownsRow B e k v n xs :=
  h.kept (row := none) ⟨hb.os, hb.tape, hb.output, hb.size, fun k hk _ => hb.block k hk⟩ (by cases v.ownBlock <;> simp)
theorem own_stored5 {w : World} {B g n m : Nat} {e : TypeId} {xs : List Value} (h : w.ownsRow B e 5 (.slice (some ⟨g, 0, none⟩) n n) n xs) (v0 v1 v2 v3 v4 : Value) :
    (((((w.setCell ⟨g, m, none⟩ v0).setCell ⟨g, m + 1, none⟩ v1).setCell ⟨g, m + 2, none⟩ v2).setCell ⟨g, m + 3, none⟩ v3).setCell ⟨g, m + 4, none⟩ v4).ownsRow B e 5 (.slice (some ⟨g, 0, none⟩) n n) n (((((xs.set m v0).set (m + 1) v1).set (m + 2) v2).set (m + 3) v3).set (m + 4) v4) :=
  (((((h.stored m v0).1.stored (m + 1) v1).1.stored (m + 2) v2).1.stored (m + 3) v3).1.stored (m + 4) v4).1
theorem below5at {B b m : Nat} {w0 w : World} (v0 v1 v2 v3 v4 : Value) (h : Below B w0 w) (hb : B ≤ b) :
    Below B w0 (((((w.setCell ⟨b, m, none⟩ v0).setCell ⟨b, m + 1, none⟩ v1).setCell ⟨b, m + 2, none⟩ v2).setCell ⟨b, m + 3, none⟩ v3).setCell ⟨b, m + 4, none⟩ v4) :=
  ((((h.setCell (p := ⟨b, m, none⟩) hb _).setCell (p := ⟨b, m + 1, none⟩) hb _).setCell (p := ⟨b, m + 2, none⟩) hb _).setCell (p := ⟨b, m + 3, none⟩) hb _).setCell (p := ⟨b, m + 4, none⟩) hb _
theorem own_cell5 {w : World} {B g n : Nat} {e : TypeId} {xs : List Value} (h : w.ownsRow B e 5 (.slice (some ⟨g, 0, none⟩) n n) n xs) (j : Nat) (hj : j < n * 5) : ∃ u, w.cell? ⟨g, j, none⟩ = some u := by
  have hx := h.1
  rw [h.cellAt j hj]
  exact ⟨xs[j]'(by omega), List.getElem?_eq_getElem _⟩
theorem pv_bool (ps : List Ins) : ∃ r : Bool, r = true ↔ PValid ps := by
  by_cases h : PValid ps
  · exact ⟨true, by simp [h]⟩
  · exact ⟨false, by simp [h]⟩
theorem rdAll_mem {rd : List UInt8 → Option Ins} : ∀ {ls : List (List UInt8)} {ps : List Ins}, rdAll rd ls = some ps → ∀ x ∈ ps, ∃ s ∈ ls, rd s = some x
  | [], ps, h, x, hx => by simp only [rdAll, Option.some.injEq] at h; rw [← h] at hx; cases hx
  | a :: ls, ps, h, x, hx => by
    rw [rdAll] at h
    cases ha : rd a with
    | none => rw [ha] at h; cases h
    | some y =>
      rw [ha] at h
      cases hl : rdAll rd ls with
      | none => rw [hl] at h; cases h
      | some ys =>
        rw [hl] at h
        simp only [Option.bind_some, Option.map_some, Option.some.injEq] at h
        rw [← h] at hx
        rcases List.mem_cons.1 hx with rfl | hx
        · exact ⟨a, List.mem_cons_self, ha⟩
        · obtain ⟨s, hs, e⟩ := rdAll_mem hl x hx
          exact ⟨s, List.mem_cons_of_mem _ hs, e⟩

set_option maxHeartbeats 6400000 in
set_option maxRecDepth 100000 in
theorem readProgram_few (g t b off cap : Nat) (rd : List UInt8 → Option Ins) (ls : List (List UInt8)) (w : World) (hl : ls.length ≤ 4000) (hl0 : 0 < ls.length)
    (hb : b < w.heap.size) (hc : ∀ j, j < ls.length → w.cell? ⟨b, off + j, none⟩ = some (.string (S (ls.getD j []))))
    (hz : ∀ s ∈ ls, ∀ x, rd s = some x → x.tree.length ≤ 281474976710656)
    (eg : ∀ args w, (callFunc g args).run Tryz.prog w = .ok (.enter g args) w)
    (hg : ∀ (W : World) (s : List UInt8), s ∈ ls → Below w.heap.size w W → Calls Tryz.prog g #[.pointer (some ⟨t, 0, none⟩), .string (S s)] W (MPost W (rd s))) :
    Calls Tryz.prog 38 #[.slice (some ⟨b, off, none⟩) ls.length cap, .func (.func g) #[.pointer (some ⟨t, 0, none⟩)] #[]] w (RPPost w (rdAll rd ls)) := by
  obtain ⟨i0, hi, hz0, hz1, hz2⟩ := info_parts Tryz.infoIns
  have HC := Lib.hid hc; have HG := Lib.hid hg; have HZ := Lib.hid hz
  obtain ⟨n, hn⟩ : ∃ n, n = ls.length := ⟨_, rfl⟩
  rw [← hn] at hl hl0 ⊢
  have HN := Lib.hid hn
  clear hc hg hz hn
  go_enter Tryz.func38, Tryz.ntmps38
  go_wp2_with (at_make; refine wpList_make_full _ rfl _ _ 23 rfl w.heap.size 46 i0 (.agg #[.int .i64 0, .int .i64 0, .int .i64 0, .int .i64 0, .string ⟨#[]⟩]) 5 Tryz.underlying23 hi hz0 hz1 .i64 .i64 _ _ n rfl rfl rfl rfl (by rw [hz2]; omega) (by unfold maxLen; omega) (Nat.le_refl _) ?_)
  intro w1 hown hgrow
  have hb1 : Below w.heap.size w w1 := (Below.refl _ _).grown hgrow (Nat.le_refl _) (by simp)
  obtain ⟨xs, HO⟩ : ∃ xs, Hid (w1.ownsRow w.heap.size 46 5 (.slice (some ⟨w.heap.size, 0, none⟩) n n) n xs) := ⟨_, Lib.hid hown⟩
  clear hown hgrow hi hz0 hz1 hz2
  go_wp2
  go_loopw [19] (fun i wr => ∃ (k : Nat) (pre : List Ins) (ys : List Value), k ≤ n ∧ i = .int .i64 k ∧ Hid (pre.length = k) ∧ Hid (rdAll rd (ls.take k) = some pre) ∧ Hid (wr.ownsRow w.heap.size 46 5 (.slice (some ⟨w.heap.size, 0, none⟩) n n) n ys) ∧ Hid (ys.take (k * 5) = progV pre) ∧ Below w.heap.size w wr) (fun i _ => n - (intOf i).toNat)
  case atStart => exact ⟨0, [], xs, Nat.zero_le _, rfl, Lib.hid rfl, Lib.hid (by simp [rdAll]), HO, Lib.hid (by simp [progV]), hb1⟩
  case round =>
    clear HO hb1
    obtain ⟨k, pre, ys, hk, rfl, HL, HR, HO, HY, hb⟩ := hrel
    have hsz := hb.size
    by_cases hlt : k < n
    · have hk1 : (k : Int) < (n : Int) := by omega
      have hc0 := (hb.cell (p := ⟨b, off + k, none⟩) ‹b < w.heap.size›).trans (HC.out k (by have := HN.out; omega))
      obtain ⟨s, hs⟩ : ∃ s, s = ls.getD k [] := ⟨_, rfl⟩
      rw [← hs] at hc0
      have hkl : k < ls.length := by have := HN.out; omega
      have HS : Hid (ls[k]? = some s) := Lib.hid (by rw [hs, List.getD_eq_getElem?_getD, List.getElem?_eq_getElem hkl]; rfl)
      clear hs hkl
      go_wp2_with fail
      refine (HG.out _ s (List.mem_of_getElem? HS.out) hb).mono ?_
      cases hrd : rd s with
      | none =>
        have HF : Hid (rdAll rd ls = none) := Lib.hid (rdAll_none (List.mem_of_getElem? HS.out) hrd)
        rintro e w2 ⟨rfl, h2⟩
        have hb2 := hb.trans (h2.mono hsz)
        have hs2 := h2.size
        clear hrd h2 hb
        go_wp2_with fail
        go_ret2
        rw [HF.out]
        exact ⟨rfl, hb2.alloc (Nat.le_trans hsz hs2) _⟩
      | some x =>
        rintro e w2 ⟨rfl, h2⟩
        have hb2 := hb.trans (h2.mono hsz)
        have hs2 := hb2.size
        have own3 := (own_below HO.out h2).alloc (.cells #[.int .i64 x.op, .int .i64 x.a, .int .i64 x.b, .int .i64 x.c, .string (S x.tree)] 46)
        have hb3 : Below w.heap.size w (w2.alloc (.cells #[.int .i64 x.op, .int .i64 x.a, .int .i64 x.b, .int .i64 x.c, .string (S x.tree)] 46)) := hb2.alloc hs2 _
        obtain ⟨u0, c0⟩ := own_cell5 own3 (k * 5) (by omega)
        obtain ⟨u1, c1⟩ := own_cell5 own3 (k * 5 + 1) (by omega)
        obtain ⟨u2, c2⟩ := own_cell5 own3 (k * 5 + 2) (by omega)
        obtain ⟨u3, c3⟩ := own_cell5 own3 (k * 5 + 3) (by omega)
        obtain ⟨u4, c4⟩ := own_cell5 own3 (k * 5 + 4) (by omega)
        have f0 := own3.frozenAt (k * 5)
        have f1 := own3.frozenAt (k * 5 + 1)
        have f2 := own3.frozenAt (k * 5 + 2)
        have f3 := own3.frozenAt (k * 5 + 3)
        have f4 := own3.frozenAt (k * 5 + 4)
        have HO4 := Lib.hid (own_stored5 (m := k * 5) own3 (.int .i64 x.op) (.int .i64 x.a) (.int .i64 x.b) (.int .i64 x.c) (.string (S x.tree)))
        have HB4 := Lib.hid (below5at (m := k * 5) (.int .i64 x.op) (.int .i64 x.a) (.int .i64 x.b) (.int .i64 x.c) (.string (S x.tree)) hb3 (Nat.le_refl w.heap.size))
        have HY4 : Hid ((((((ys.set (k * 5) (.int .i64 x.op)).set (k * 5 + 1) (.int .i64 x.a)).set (k * 5 + 2) (.int .i64 x.b)).set (k * 5 + 3) (.int .i64 x.c)).set (k * 5 + 4) (.string (S x.tree))).take ((k + 1) * 5) = progV (pre ++ [x])) := Lib.hid (by
          rw [show (k + 1) * 5 = k * 5 + 5 by omega, set5 ys (k * 5) _ _ _ _ _ (by have := own3.1; omega), HY.out, progV_app, progV_one]; rfl)
        have HR4 : Hid (rdAll rd (ls.take (k + 1)) = some (pre ++ [x])) := Lib.hid (by
          rw [List.take_add_one, HS.out, Option.toList_some, rdAll_snoc, HR.out, hrd]; rfl)
        clear own3 hb3 hb hb2 h2 hrd
        go_wp2_with fail
        go_roundw
        case rel => exact ⟨k + 1, pre ++ [x], _, by omega, by go_num, Lib.hid (by rw [List.length_append, HL.out]; rfl), HR4, HO4, HY4, HB4.out⟩
        case measure => simp [intOf]; omega
    · obtain rfl : k = n := by omega
      obtain ⟨r, hr⟩ := pv_bool pre
      have HA : ArgP wr (.slice (some ⟨w.heap.size, 0, none⟩) k k) pre := by
        have h := HO.out
        rw [show ys = progV pre by rw [← HY.out, List.take_of_length_le (by have := HO.out.1; omega)]] at h
        exact (own_prog h).2.1
      have HV := Lib.hid (fun W h => CV_arg W (.slice (some ⟨w.heap.size, 0, none⟩) k k) pre r h (by rw [HL.out]; omega) (fun x hx => by obtain ⟨s, hs, e⟩ := rdAll_mem HR.out x hx; exact HZ.out s (List.mem_of_mem_take hs) x e) hr)
      have HF : Hid (rdAll rd ls = some pre) := Lib.hid (by have := HR.out; rwa [List.take_of_length_le (by have := HN.out; omega)] at this)
      have HA := Lib.hid HA
      have HR := Lib.hid hr
      clear hr
      go_wp2_with fail
      refine (HV.out _ HA.out).mono ?_
      rintro e w2 ⟨rfl, h2⟩
      go_wp2_with fail
      go_ret2
      rw [HF.out]
      exact ⟨_, r, rfl, HR.out, HA.out.below h2, hb.trans (h2.mono hsz)⟩
set_option maxHeartbeats 6400000 in
set_option maxRecDepth 100000 in
theorem readProgram_none (a : Option Addr) (cap g t : Nat) (w : World) :
    Calls Tryz.prog 38 #[.slice a 0 cap, .func (.func g) #[.pointer (some ⟨t, 0, none⟩)] #[]] w (RPPost w (some [])) := by
  obtain ⟨i0, hi, hz0, hz1, hz2⟩ := info_parts Tryz.infoIns
  go_enter Tryz.func38, Tryz.ntmps38
  go_wp2_with (at_make; refine wpList_make_full _ rfl _ _ 23 rfl w.heap.size 46 i0 (.agg #[.int .i64 0, .int .i64 0, .int .i64 0, .int .i64 0, .string ⟨#[]⟩]) 5 Tryz.underlying23 hi hz0 hz1 .i64 .i64 _ _ 0 rfl rfl rfl rfl (by rw [hz2]; omega) (by unfold maxLen; omega) (Nat.le_refl _) ?_)
  intro w1 hown hgrow
  have hb1 : Below w.heap.size w w1 := (Below.refl _ _).grown hgrow (Nat.le_refl _) (by simp)
  clear hown hgrow hi hz0 hz1 hz2
  go_wp2
  go_loopw [19] (fun i wr => i = .int .i64 0 ∧ Below w.heap.size w wr) (fun _ _ => 0)
  case atStart => exact ⟨rfl, hb1⟩
  case round =>
    clear hb1
    obtain ⟨rfl, hb⟩ := hrel
    go_wp2_with fail
    refine (CV_none _ (some ⟨w.heap.size, 0, none⟩) 0).mono ?_
    rintro e w2 ⟨rfl, h2⟩
    go_wp2_with fail
    go_ret2
    exact ⟨_, true, rfl, by simp [PValid, trees, AllR], Or.inl ⟨rfl, Or.inr ⟨_, _, rfl⟩⟩, hb.trans (h2.mono hb.size)⟩
set_option maxHeartbeats 6400000 in
set_option maxRecDepth 100000 in
theorem readProgram_many (a : Option Addr) (n cap g t : Nat) (w : World) (h : 4000 < n) :
    Calls Tryz.prog 38 #[.slice a n cap, .func (.func g) #[.pointer (some ⟨t, 0, none⟩)] #[]] w (RPPost w none) := by
  have h1 : (4000 : Int) < (n : Int) := by omega
  go_enter Tryz.func38, Tryz.ntmps38
  go_wp2
  go_ret2
  exact ⟨rfl, Below.refl _ _⟩
/-- readProgram, of any strings -/
theorem readProgram_any (g t : Nat) (rd : List UInt8 → Option Ins) (ls : List (List UInt8)) (v : Value) (w : World)
    (hv : (ls = [] ∧ ∃ a cap, v = .slice a 0 cap) ∨ StrsIn w v ls)
    (hz : ∀ s ∈ ls, ∀ x, rd s = some x → x.tree.length ≤ 281474976710656)
    (eg : ∀ args w, (callFunc g args).run Tryz.prog w = .ok (.enter g args) w)
    (hg : ∀ (W : World) (s : List UInt8), s ∈ ls → Below w.heap.size w W → Calls Tryz.prog g #[.pointer (some ⟨t, 0, none⟩), .string (S s)] W (MPost W (rd s))) :
    Calls Tryz.prog 38 #[v, .func (.func g) #[.pointer (some ⟨t, 0, none⟩)] #[]] w (RPPost w (if 4000 < ls.length then none else rdAll rd ls)) := by
  rcases hv with ⟨rfl, a, cap, rfl⟩ | ⟨b, off, cap, rfl, hb, hc⟩
  · exact readProgram_none a cap g t w
  · by_cases h : 4000 < ls.length
    · rw [if_pos h]; exact readProgram_many _ _ cap g t w h
    · rw [if_neg h]
      by_cases h0 : 0 < ls.length
      · exact readProgram_few g t b off cap rd ls w (by omega) h0 hb hc hz eg hg
      · obtain rfl : ls = [] := List.eq_nil_of_length_eq_zero (by omega)
        exact readProgram_none _ cap g t w
end Go.Proofs.YtlfoigkpfooopaaGreatDoor
