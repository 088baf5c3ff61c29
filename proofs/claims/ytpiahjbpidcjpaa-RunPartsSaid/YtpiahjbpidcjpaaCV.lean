/- Package code: registers, validInstr, Valid. By an AI agent. -/
import Derived.Test.YtpiahjbpidcjpaaTwin
namespace Go.Proofs.Ytpiahjbpidcjpaa
open Go.RowKit Pl

set_option maxHeartbeats 800000 in
theorem registers_any (b : Nat) (ns : List Int) (cap : Nat) (w : World) (hc : ∀ j, j < ns.length → w.cell? ⟨b, j, none⟩ = some (.int .i64 (ns[j]?.getD 0))) (hl : ns.length ≤ 1000) :
    Calls Try.prog 129 #[.slice (some ⟨b, 0, none⟩) ns.length cap] w fun e w' => e = .returned (.bool (ns.all reg)) ∧ w = w' := by
  generalize hn : ns.length = n at *
  have HN := Lib.hid hn; have HC := Lib.hid hc
  clear hn hc
  go_enter Try.func129, Try.ntmps129
  go_wp2
  go_loop [7] (fun i => ∃ k : Nat, k ≤ n ∧ i = .int .i64 k ∧ Hid ((ns.take k).all reg = true)) (fun i => n - (intOf i).toNat)
  case atStart => exact ⟨0, Nat.zero_le _, rfl, Lib.hid rfl⟩
  case round =>
    obtain ⟨k, hk, rfl, hr⟩ := hrel
    by_cases hlt : k < n
    · have hck := HC.out k hlt
      have hkn : k < ns.length := by have := HN.out; omega
      obtain ⟨x, hx⟩ : ∃ x, ns[k]?.getD 0 = x := ⟨_, rfl⟩
      rw [hx] at hck
      have HX : Hid (ns[k] = x) := Lib.hid (by rw [← hx, List.getElem?_eq_getElem hkn]; rfl)
      have hk1 : (k : Int) < (n : Int) := by omega
      clear hx
      have HF : Hid (reg x = false → ns.all reg = false) := Lib.hid (fun h => by
        rw [List.all_eq_false]; exact ⟨_, List.getElem_mem hkn, by rw [HX.out, h]; simp⟩)
      by_cases h0 : x < 0
      · have HR : Hid (ns.all reg = false) := Lib.hid (HF.out (by unfold reg; simp; omega))
        go_wp2_with fail
        go_ret
        rw [HR.out]
        exact ⟨rfl, rfl⟩
      · by_cases h1 : x < 32
        · have HS : Hid ((ns.take (k + 1)).all reg = true) := Lib.hid (by
            rw [List.take_succ_eq_append_getElem hkn, List.all_append, hr.out, HX.out]; unfold reg; simp; omega)
          have h0' : 0 ≤ x := by omega
          clear h0
          go_wp2_with fail
          go_round
          case rel => exact ⟨k + 1, by omega, by go_num, HS⟩
          case measure => simp [intOf]; omega
        · have HR : Hid (ns.all reg = false) := Lib.hid (HF.out (by unfold reg; simp; omega))
          have h0' : 0 ≤ x := by omega
          have h1' : 32 ≤ x := by omega
          clear h0 h1
          go_wp2_with fail
          go_ret
          rw [HR.out]
          exact ⟨rfl, rfl⟩
    · obtain rfl : k = n := by omega
      have HR : Hid (ns.all reg = true) := Lib.hid (by rw [← List.take_of_length_le (show ns.length ≤ k by have := HN.out; omega)]; exact hr.out)
      go_wp2_with fail
      go_ret
      rw [HR.out]
      exact ⟨rfl, rfl⟩

theorem regs1 (b : Nat) (a : Int) (w : World) (h : w.cell? ⟨b, 0, none⟩ = some (.int .i64 a)) :
    Calls Try.prog 129 #[.slice (some ⟨b, 0, none⟩) 1 1] w fun e w' => e = .returned (.bool (reg a)) ∧ w = w' :=
  (registers_any b [a] 1 w (fun j hj => by simp at hj; subst hj; exact h) (by simp)).mono fun e w' h => ⟨by rw [h.1]; simp, h.2⟩
theorem regs2 (b : Nat) (a a2 : Int) (w : World) (h : w.cell? ⟨b, 0, none⟩ = some (.int .i64 a)) (h2 : w.cell? ⟨b, 1, none⟩ = some (.int .i64 a2)) :
    Calls Try.prog 129 #[.slice (some ⟨b, 0, none⟩) 2 2] w fun e w' => e = .returned (.bool (reg a && reg a2)) ∧ w = w' :=
  (registers_any b [a, a2] 2 w (fun j hj => by match j, hj with | 0, _ => exact h | 1, _ => exact h2 | j + 2, hj => simp at hj; omega) (by simp)).mono fun e w' h => ⟨by rw [h.1]; simp, h.2⟩
theorem regs3 (b : Nat) (a a2 a3 : Int) (w : World) (h : w.cell? ⟨b, 0, none⟩ = some (.int .i64 a)) (h2 : w.cell? ⟨b, 1, none⟩ = some (.int .i64 a2)) (h3 : w.cell? ⟨b, 2, none⟩ = some (.int .i64 a3)) :
    Calls Try.prog 129 #[.slice (some ⟨b, 0, none⟩) 3 3] w fun e w' => e = .returned (.bool (reg a && (reg a2 && reg a3))) ∧ w = w' :=
  (registers_any b [a, a2, a3] 3 w (fun j hj => by match j, hj with | 0, _ => exact h | 1, _ => exact h2 | 2, _ => exact h3 | j + 3, hj => simp at hj; omega) (by simp)).mono fun e w' h => ⟨by rw [h.1]; simp, h.2⟩

set_option maxHeartbeats 1600000 in
set_option maxRecDepth 100000 in
theorem vi_set (q : Bool) (a b c f l : Int) (t : List UInt8) (w : World) (hq : reg a = q) (ht : t.length ≤ 281474976710656) :
    Calls Try.prog 108 #[.agg #[.int .i64 0, .int .i64 a, .int .i64 b, .int .i64 c, .string (S t)], .int .i64 f, .int .i64 l] w fun e w' => e = .returned (.bool (q && (b == 0 && (c == 0 && vld t)))) ∧ Below w.heap.size w w' := by
  have HV := Lib.hid (fun W => Valid_is (vld t) (S t) W (by rw [S_size]; exact ht) rfl)
  have HQ := Lib.hid hq
  clear hq
  have key : ∀ (q0 b0 c0 : Bool), (b == 0) = b0 → (c == 0) = c0 → q = q0 → Calls Try.prog 108 #[.agg #[.int .i64 0, .int .i64 a, .int .i64 b, .int .i64 c, .string (S t)], .int .i64 f, .int .i64 l] w fun e w' => e = .returned (.bool (q0 && (b0 && (c0 && vld t)))) ∧ Below w.heap.size w w' := by
    intro q0 b0 c0 hb hc hq0
    rw [hq0] at HQ
    clear hq0
    go_enter Try.func108, Try.ntmps108
    go_wp2_with fail
    refine (regs1 _ a _ (by simp)).mono ?_
    rw [HQ.out]
    rintro e w1 ⟨rfl, rfl⟩
    cases q0 with
    | false =>
      go_wp2
      go_ret
      exact ⟨rfl, ((Below.refl _ _).alloc (Nat.le_refl _) _).alloc (by simp) _⟩
    | true =>
      cases b0 with
      | false =>
        go_wp2
        go_ret
        exact ⟨rfl, ((Below.refl _ _).alloc (Nat.le_refl _) _).alloc (by simp) _⟩
      | true =>
        cases c0 with
        | false =>
          go_wp2
          go_ret
          exact ⟨rfl, ((Below.refl _ _).alloc (Nat.le_refl _) _).alloc (by simp) _⟩
        | true =>
          go_wp2_with fail
          refine (HV.out _).mono ?_
          rintro e w2 ⟨rfl, h2⟩
          go_wp2
          go_ret
          exact ⟨rfl, (((Below.refl _ _).alloc (Nat.le_refl _) _).alloc (by simp) _).trans (h2.mono (by simp; omega))⟩
  exact key q _ _ rfl rfl rfl

set_option maxHeartbeats 1600000 in
set_option maxRecDepth 100000 in
theorem vi_move (q : Bool) (a b c f l : Int) (t : List UInt8) (w : World) (hq : (reg a && reg b) = q) :
    Calls Try.prog 108 #[.agg #[.int .i64 1, .int .i64 a, .int .i64 b, .int .i64 c, .string (S t)], .int .i64 f, .int .i64 l] w fun e w' => e = .returned (.bool (q && (c == 0 && t == []))) ∧ Below w.heap.size w w' := by
  have HQ := Lib.hid hq
  clear hq
  have key : ∀ (q0 c0 t0 : Bool), (c == 0) = c0 → (t == []) = t0 → q = q0 → Calls Try.prog 108 #[.agg #[.int .i64 1, .int .i64 a, .int .i64 b, .int .i64 c, .string (S t)], .int .i64 f, .int .i64 l] w fun e w' => e = .returned (.bool (q0 && (c0 && t0))) ∧ Below w.heap.size w w' := by
    intro q0 c0 t0 hc ht hq0
    rw [hq0] at HQ
    clear hq0
    go_enter Try.func108, Try.ntmps108
    go_wp2_with fail
    refine (regs2 _ a b _ (by simp) (by simp)).mono ?_
    rw [HQ.out]
    rintro e w1 ⟨rfl, rfl⟩
    cases q0 with
    | false =>
      go_wp2
      go_ret
      exact ⟨rfl, ((Below.refl _ _).alloc (Nat.le_refl _) _).alloc (by simp) _⟩
    | true =>
      cases c0 with
      | false =>
        go_wp2
        go_ret
        exact ⟨rfl, ((Below.refl _ _).alloc (Nat.le_refl _) _).alloc (by simp) _⟩
      | true =>
        go_wp2
        go_ret
        exact ⟨rfl, ((Below.refl _ _).alloc (Nat.le_refl _) _).alloc (by simp) _⟩
  exact key q _ _ rfl rfl rfl

set_option maxHeartbeats 1600000 in
set_option maxRecDepth 100000 in
theorem vi_head (q : Bool) (a b c f l : Int) (t : List UInt8) (w : World) (hq : (reg a && reg b) = q) :
    Calls Try.prog 108 #[.agg #[.int .i64 3, .int .i64 a, .int .i64 b, .int .i64 c, .string (S t)], .int .i64 f, .int .i64 l] w fun e w' => e = .returned (.bool (q && (c == 0 && t == []))) ∧ Below w.heap.size w w' := by
  have HQ := Lib.hid hq
  clear hq
  have key : ∀ (q0 c0 t0 : Bool), (c == 0) = c0 → (t == []) = t0 → q = q0 → Calls Try.prog 108 #[.agg #[.int .i64 3, .int .i64 a, .int .i64 b, .int .i64 c, .string (S t)], .int .i64 f, .int .i64 l] w fun e w' => e = .returned (.bool (q0 && (c0 && t0))) ∧ Below w.heap.size w w' := by
    intro q0 c0 t0 hc ht hq0
    rw [hq0] at HQ
    clear hq0
    go_enter Try.func108, Try.ntmps108
    go_wp2_with fail
    refine (regs2 _ a b _ (by simp) (by simp)).mono ?_
    rw [HQ.out]
    rintro e w1 ⟨rfl, rfl⟩
    cases q0 with
    | false =>
      go_wp2
      go_ret
      exact ⟨rfl, ((Below.refl _ _).alloc (Nat.le_refl _) _).alloc (by simp) _⟩
    | true =>
      cases c0 with
      | false =>
        go_wp2
        go_ret
        exact ⟨rfl, ((Below.refl _ _).alloc (Nat.le_refl _) _).alloc (by simp) _⟩
      | true =>
        go_wp2
        go_ret
        exact ⟨rfl, ((Below.refl _ _).alloc (Nat.le_refl _) _).alloc (by simp) _⟩
  exact key q _ _ rfl rfl rfl

set_option maxHeartbeats 1600000 in
set_option maxRecDepth 100000 in
theorem vi_tail (q : Bool) (a b c f l : Int) (t : List UInt8) (w : World) (hq : (reg a && reg b) = q) :
    Calls Try.prog 108 #[.agg #[.int .i64 4, .int .i64 a, .int .i64 b, .int .i64 c, .string (S t)], .int .i64 f, .int .i64 l] w fun e w' => e = .returned (.bool (q && (c == 0 && t == []))) ∧ Below w.heap.size w w' := by
  have HQ := Lib.hid hq
  clear hq
  have key : ∀ (q0 c0 t0 : Bool), (c == 0) = c0 → (t == []) = t0 → q = q0 → Calls Try.prog 108 #[.agg #[.int .i64 4, .int .i64 a, .int .i64 b, .int .i64 c, .string (S t)], .int .i64 f, .int .i64 l] w fun e w' => e = .returned (.bool (q0 && (c0 && t0))) ∧ Below w.heap.size w w' := by
    intro q0 c0 t0 hc ht hq0
    rw [hq0] at HQ
    clear hq0
    go_enter Try.func108, Try.ntmps108
    go_wp2_with fail
    refine (regs2 _ a b _ (by simp) (by simp)).mono ?_
    rw [HQ.out]
    rintro e w1 ⟨rfl, rfl⟩
    cases q0 with
    | false =>
      go_wp2
      go_ret
      exact ⟨rfl, ((Below.refl _ _).alloc (Nat.le_refl _) _).alloc (by simp) _⟩
    | true =>
      cases c0 with
      | false =>
        go_wp2
        go_ret
        exact ⟨rfl, ((Below.refl _ _).alloc (Nat.le_refl _) _).alloc (by simp) _⟩
      | true =>
        go_wp2
        go_ret
        exact ⟨rfl, ((Below.refl _ _).alloc (Nat.le_refl _) _).alloc (by simp) _⟩
  exact key q _ _ rfl rfl rfl

set_option maxHeartbeats 1600000 in
set_option maxRecDepth 100000 in
theorem vi_cons (q : Bool) (a b c f l : Int) (t : List UInt8) (w : World) (hq : (reg a && (reg b && reg c)) = q) :
    Calls Try.prog 108 #[.agg #[.int .i64 2, .int .i64 a, .int .i64 b, .int .i64 c, .string (S t)], .int .i64 f, .int .i64 l] w fun e w' => e = .returned (.bool (q && t == [])) ∧ Below w.heap.size w w' := by
  have HQ := Lib.hid hq
  clear hq
  have key : ∀ (q0 t0 : Bool), (t == []) = t0 → q = q0 → Calls Try.prog 108 #[.agg #[.int .i64 2, .int .i64 a, .int .i64 b, .int .i64 c, .string (S t)], .int .i64 f, .int .i64 l] w fun e w' => e = .returned (.bool (q0 && t0)) ∧ Below w.heap.size w w' := by
    intro q0 t0 ht hq0
    rw [hq0] at HQ
    clear hq0
    go_enter Try.func108, Try.ntmps108
    go_wp2_with fail
    refine (regs3 _ a b c _ (by simp) (by simp) (by simp)).mono ?_
    rw [HQ.out]
    rintro e w1 ⟨rfl, rfl⟩
    cases q0 with
    | false =>
      go_wp2
      go_ret
      exact ⟨rfl, ((Below.refl _ _).alloc (Nat.le_refl _) _).alloc (by simp) _⟩
    | true =>
      go_wp2
      go_ret
      exact ⟨rfl, ((Below.refl _ _).alloc (Nat.le_refl _) _).alloc (by simp) _⟩
  exact key q _ rfl rfl

set_option maxHeartbeats 1600000 in
set_option maxRecDepth 100000 in
theorem vi_jump (q : Bool) (a b c f l : Int) (t : List UInt8) (w : World) (hq : reg a = q) :
    Calls Try.prog 108 #[.agg #[.int .i64 5, .int .i64 a, .int .i64 b, .int .i64 c, .string (S t)], .int .i64 f, .int .i64 l] w fun e w' => e = .returned (.bool (q && (decide (f ≤ b) && (decide (b ≤ l) && (c == 0 && t == []))))) ∧ Below w.heap.size w w' := by
  have HQ := Lib.hid hq
  clear hq
  have key : ∀ (q0 f0 l0 c0 t0 : Bool), decide (f ≤ b) = f0 → decide (b ≤ l) = l0 → (c == 0) = c0 → (t == []) = t0 → q = q0 → Calls Try.prog 108 #[.agg #[.int .i64 5, .int .i64 a, .int .i64 b, .int .i64 c, .string (S t)], .int .i64 f, .int .i64 l] w fun e w' => e = .returned (.bool (q0 && (f0 && (l0 && (c0 && t0))))) ∧ Below w.heap.size w w' := by
    intro q0 f0 l0 c0 t0 hf hl hc ht hq0
    rw [hq0] at HQ
    clear hq0
    go_enter Try.func108, Try.ntmps108
    go_wp2_with fail
    refine (regs1 _ a _ (by simp)).mono ?_
    rw [HQ.out]
    rintro e w1 ⟨rfl, rfl⟩
    cases q0 with
    | false =>
      go_wp2
      go_ret
      exact ⟨rfl, ((Below.refl _ _).alloc (Nat.le_refl _) _).alloc (by simp) _⟩
    | true =>
      cases f0 with
      | false =>
        go_wp2
        go_ret
        exact ⟨rfl, ((Below.refl _ _).alloc (Nat.le_refl _) _).alloc (by simp) _⟩
      | true =>
        cases l0 with
        | false =>
          go_wp2
          go_ret
          exact ⟨rfl, ((Below.refl _ _).alloc (Nat.le_refl _) _).alloc (by simp) _⟩
        | true =>
          cases c0 with
          | false =>
            go_wp2
            go_ret
            exact ⟨rfl, ((Below.refl _ _).alloc (Nat.le_refl _) _).alloc (by simp) _⟩
          | true =>
            go_wp2
            go_ret
            exact ⟨rfl, ((Below.refl _ _).alloc (Nat.le_refl _) _).alloc (by simp) _⟩
  exact key q _ _ _ _ rfl rfl rfl rfl rfl

set_option maxHeartbeats 1600000 in
set_option maxRecDepth 100000 in
theorem vi_other (op a b c f l : Int) (t : List UInt8) (w : World) (h : op ≠ 0 ∧ op ≠ 1 ∧ op ≠ 2 ∧ op ≠ 3 ∧ op ≠ 4 ∧ op ≠ 5) :
    Calls Try.prog 108 #[.agg #[.int .i64 op, .int .i64 a, .int .i64 b, .int .i64 c, .string (S t)], .int .i64 f, .int .i64 l] w fun e w' => e = .returned (.bool false) ∧ Below w.heap.size w w' := by
  obtain ⟨h0, h1, h2, h3, h4, h5⟩ := h
  have b0 : (op == 0) = false := beq_eq_false_iff_ne.2 h0
  have b1 : (op == 1) = false := beq_eq_false_iff_ne.2 h1
  have b2 : (op == 2) = false := beq_eq_false_iff_ne.2 h2
  have b3 : (op == 3) = false := beq_eq_false_iff_ne.2 h3
  have b4 : (op == 4) = false := beq_eq_false_iff_ne.2 h4
  have b5 : (op == 5) = false := beq_eq_false_iff_ne.2 h5
  clear h0 h1 h2 h3 h4 h5
  go_enter Try.func108, Try.ntmps108
  go_wp2
  go_ret
  exact ⟨rfl, (Below.refl _ _).alloc (Nat.le_refl _) _⟩
theorem tree_nil (t : List UInt8) : (t == []) = t.isEmpty := by cases t <;> rfl
/-- validInstr at place i of n -/
theorem vi_any (x : Ins) (i n : Int) (w : World) (ht : x.tree.length ≤ 281474976710656) :
    Calls Try.prog 108 #[.agg #[.int .i64 x.op, .int .i64 x.a, .int .i64 x.b, .int .i64 x.c, .string (S x.tree)], .int .i64 (-i), .int .i64 (n - i)] w fun e w' => e = .returned (.bool (right x i n)) ∧ Below w.heap.size w w' := by
  obtain ⟨op, a, b, c, t⟩ := x
  simp only at ht ⊢
  by_cases h0 : op = 0
  · subst h0
    refine (vi_set (reg a) a b c (-i) (n - i) t w rfl ht).mono fun e w' h => ⟨?_, h.2⟩
    rw [h.1]; unfold right; simp only [if_true]; congr 2
    cases reg a <;> cases (b == 0) <;> cases (c == 0) <;> cases vld t <;> simp
  by_cases h2 : op = 2
  · subst h2
    refine (vi_cons (reg a && (reg b && reg c)) a b c (-i) (n - i) t w rfl).mono fun e w' h => ⟨?_, h.2⟩
    rw [h.1]; unfold right; rw [tree_nil]; congr 2
    cases reg a <;> cases reg b <;> cases reg c <;> cases t.isEmpty <;> simp
  by_cases h5 : op = 5
  · subst h5
    refine (vi_jump (reg a) a b c (-i) (n - i) t w rfl).mono fun e w' h => ⟨?_, h.2⟩
    rw [h.1]; unfold right; rw [tree_nil]; congr 2
    cases reg a <;> cases decide (-i ≤ b) <;> cases decide (b ≤ n - i) <;> cases (c == 0) <;> cases t.isEmpty <;> simp
  by_cases h1 : op = 1
  · subst h1
    refine (vi_move (reg a && reg b) a b c (-i) (n - i) t w rfl).mono fun e w' h => ⟨?_, h.2⟩
    rw [h.1]; unfold right; rw [tree_nil]; congr 2
    cases reg a <;> cases reg b <;> cases (c == 0) <;> cases t.isEmpty <;> simp
  by_cases h3 : op = 3
  · subst h3
    refine (vi_head (reg a && reg b) a b c (-i) (n - i) t w rfl).mono fun e w' h => ⟨?_, h.2⟩
    rw [h.1]; unfold right; rw [tree_nil]; congr 2
    cases reg a <;> cases reg b <;> cases (c == 0) <;> cases t.isEmpty <;> simp
  by_cases h4 : op = 4
  · subst h4
    refine (vi_tail (reg a && reg b) a b c (-i) (n - i) t w rfl).mono fun e w' h => ⟨?_, h.2⟩
    rw [h.1]; unfold right; rw [tree_nil]; congr 2
    cases reg a <;> cases reg b <;> cases (c == 0) <;> cases t.isEmpty <;> simp
  refine (vi_other op a b c (-i) (n - i) t w ⟨h0, h1, h2, h3, h4, h5⟩).mono fun e w' h => ⟨?_, h.2⟩
  rw [h.1]; unfold right; simp [h0, h1, h2, h3, h4, h5]
end Go.Proofs.Ytpiahjbpidcjpaa

namespace Go.Proofs.Ytpiahjbpidcjpaa
open Go.RowKit Pl

set_option maxHeartbeats 3200000 in
set_option maxRecDepth 100000 in
theorem CV_some (w : World) (b off cap : Nat) (ps : List Ins) (r : Bool) (hc : ProgAt w b off ps) (h0 : 0 < ps.length) (hm : ps.length ≤ 4000) (hz : ∀ x ∈ ps, x.tree.length ≤ 281474976710656) (hr : r = true ↔ PValid ps) :
    Calls Try.prog 64 #[.slice (some ⟨b, off, none⟩) ps.length cap] w fun e w' => e = .returned (.bool r) ∧ Below w.heap.size w w' := by
  have HT := Lib.hid (treesTo_top (ps := ps))
  have HTA := Lib.hid (treesTo_all (ps := ps) (k := ps.length) (Nat.le_refl _))
  generalize hnn : ps.length = n at *
  have HN := Lib.hid hnn; have HC := Lib.hid hc; have HZ := Lib.hid hz; have HR := Lib.hid hr; clear hnn hc hz hr
  have hbw := HC.out.1
  go_enter Try.func64, Try.ntmps64
  go_wp2
  go_loopw [3, 11] (fun t i wr => ∃ (k u : Nat), k ≤ n ∧ i = .int .i64 k ∧ t = .int .i64 u ∧ u ≤ 2000000 ∧ Hid (treesTo ps k = u) ∧ Hid (∀ (j : Nat) (x : Ins), j < k → ps[j]? = some x → right x j n = true) ∧ Below w.heap.size w wr) (fun _ i _ => n - (intOf i).toNat)
  case atStart => exact ⟨0, 0, Nat.zero_le _, rfl, rfl, by omega, Lib.hid (by simp [treesTo]), Lib.hid (fun j x hj => absurd hj (Nat.not_lt_zero _)), Below.refl _ _⟩
  case round =>
    obtain ⟨k, u, hk, rfl, rfl, hu, htu, hright, hb⟩ := hrel
    have hsz := hb.size
    by_cases hlt : k < n
    · obtain ⟨x, hx⟩ := get_at (ps := ps) (k := k) (by have := HN.out; omega)
      obtain ⟨a0, a1, a2, a3, a4⟩ := HC.out.2 k x hx
      have hxz : x.tree.length ≤ 281474976710656 := HZ.out x (List.mem_of_getElem? hx)
      have k0 := (hb.cell (p := ⟨b, off + k * 5, none⟩) hbw).trans a0
      have k1 := (hb.cell (p := ⟨b, off + k * 5 + 1, none⟩) hbw).trans a1
      have k2 := (hb.cell (p := ⟨b, off + k * 5 + 2, none⟩) hbw).trans a2
      have k3 := (hb.cell (p := ⟨b, off + k * 5 + 3, none⟩) hbw).trans a3
      have k4 := (hb.cell (p := ⟨b, off + k * 5 + 4, none⟩) hbw).trans a4
      have HX := Lib.hid hx
      have HT1 : Hid (treesTo ps (k + 1) = u + x.tree.length) := Lib.hid (by rw [treesTo_succ hx, htu.out])
      have hk1 : (k : Int) < (n : Int) := by omega
      clear hx a0 a1 a2 a3 a4
      by_cases hbig : 2000000 < u + x.tree.length
      · have HF : Hid (r = false) := Lib.hid (by
          cases r with
          | false => rfl
          | true => have h1 := (HR.out.1 rfl).2.1; have h2 := HT.out (k + 1); rw [HT1.out] at h2; omega)
        have hbig' : (2000000 : Int) < (u : Int) + (x.tree.length : Int) := by omega
        go_wp2_with fail
        go_ret
        rw [HF.out]
        exact ⟨rfl, hb.alloc hsz _⟩
      · have hbig' : (u : Int) + (x.tree.length : Int) ≤ 2000000 := by omega
        have HV := Lib.hid (fun W => vi_any x k n W hxz)
        have hB1 : Below w.heap.size w (wr.alloc (.cells #[.int .i64 x.op, .int .i64 x.a, .int .i64 x.b, .int .i64 x.c, .string (S x.tree)] 57)) := hb.alloc hsz _
        go_wp2_with fail
        refine (HV.out _).mono ?_
        rintro e w2 ⟨rfl, h2⟩
        have hb2 := hB1.trans (h2.mono hB1.size)
        clear h2 hB1 hb
        cases hrv : right x k n with
        | false =>
          have HF : Hid (r = false) := Lib.hid (by
            cases r with
            | false => rfl
            | true =>
              have h1 := (HR.out.1 rfl).2.2 k x HX.out
              rw [HN.out, hrv] at h1; cases h1)
          clear hrv
          go_wp2_with fail
          go_ret
          rw [HF.out]
          exact ⟨rfl, hb2⟩
        | true =>
          have HRT : Hid (∀ (j : Nat) (y : Ins), j < k + 1 → ps[j]? = some y → right y j n = true) := Lib.hid (fun j y hj hy => by
            by_cases h : j = k
            · subst h
              have h3 := HX.out
              rw [hy] at h3
              cases h3; exact hrv
            · exact hright.out j y (by omega) hy)
          have HB2 := Lib.hid hb2
          clear hrv hb2
          go_wp2_with fail
          go_roundw
          case rel => exact ⟨k + 1, u + x.tree.length, by omega, by go_num, by go_num, by omega, HT1, HRT, HB2.out⟩
          case measure => simp [intOf]; omega
    · obtain rfl : k = n := by omega
      have HF : Hid (r = true) := Lib.hid (HR.out.2 ⟨by have := HN.out; omega, by have := HTA.out; rw [htu.out] at this; omega, fun j y hy => by
        have := HN.out
        have hj : j < ps.length := (List.getElem?_eq_some_iff.1 hy).1
        rw [HN.out]
        exact hright.out j y (by omega) hy⟩)
      go_wp2_with fail
      go_ret
      rw [HF.out]
      exact ⟨rfl, hb⟩
theorem CV_none (w : World) (a : Option Addr) (cap : Nat) :
    Calls Try.prog 64 #[.slice a 0 cap] w fun e w' => e = .returned (.bool true) ∧ Below w.heap.size w w' := by
  go_enter Try.func64, Try.ntmps64
  go_wp2
  go_loopw [3, 11] (fun t i wr => i = .int .i64 0 ∧ t = .int .i64 0 ∧ Below w.heap.size w wr) (fun _ _ _ => 0)
  case atStart => exact ⟨rfl, rfl, Below.refl _ _⟩
  case round =>
    obtain ⟨rfl, rfl, hb⟩ := hrel
    go_wp2
    go_ret
    exact ⟨rfl, hb⟩
theorem CV_long (w : World) (a : Option Addr) (n cap : Nat) (h : 4000 < n) (h2 : n ≤ 281474976710656) :
    Calls Try.prog 64 #[.slice a n cap] w fun e w' => e = .returned (.bool false) ∧ Below w.heap.size w w' := by
  have h1 : (4000 : Int) < (n : Int) := by omega
  go_enter Try.func64, Try.ntmps64
  go_wp2
  go_ret
  exact ⟨rfl, Below.refl _ _⟩
theorem CV_arg (w : World) (v : Value) (ps : List Ins) (r : Bool) (h : ArgP w v ps) (hl : ps.length ≤ 281474976710656) (hz : ∀ x ∈ ps, x.tree.length ≤ 281474976710656) (hr : r = true ↔ PValid ps) :
    Calls Try.prog 64 #[v] w fun e w' => e = .returned (.bool r) ∧ Below w.heap.size w w' := by
  rcases h with ⟨rfl, h⟩ | ⟨h0, b1, off, cap, rfl, hc⟩
  · obtain ⟨a, cap, rfl⟩ := empty_arg h
    obtain rfl : r = true := hr.2 ⟨by simp, by simp [trees], fun k x h => by simp at h⟩
    exact CV_none w a cap
  · by_cases hm : ps.length ≤ 4000
    · exact CV_some w b1 off cap ps r hc h0 hm hz hr
    · have : r = false := by
        cases r with
        | false => rfl
        | true => exact absurd (hr.1 rfl).1 hm
      rw [this]
      exact CV_long w _ _ cap (by omega) hl
theorem pv_bool (ps : List Ins) : ∃ r : Bool, r = true ↔ PValid ps := by
  by_cases h : PValid ps
  · exact ⟨true, by simp [h]⟩
  · exact ⟨false, by simp [h]⟩
theorem PV_arg (w : World) (v : Value) (ps : List Ins) (b : Bool) (h : ArgP w v ps) (hl : ps.length ≤ 281474976710656) (hz : ∀ x ∈ ps, x.tree.length ≤ 281474976710656) (hb : b = true ↔ PValid ps) :
    Calls Try.prog 19 #[v] w fun e w' => e = .returned (.bool b) ∧ Below w.heap.size w w' := by
  rcases h with ⟨rfl, h⟩ | ⟨h0, b1, off, cap, rfl, hc⟩
  · obtain ⟨a, cap, rfl⟩ := empty_arg h
    have : b = true := hb.2 ⟨by simp, by simp [trees], fun k x h => by simp at h⟩
    subst this
    exact PV_none w a cap
  · rcases Nat.lt_or_ge 4000 ps.length with h1 | h1
    · have : b = false := by cases b with
        | false => rfl
        | true => have := (hb.1 rfl).1; omega
      subst this
      exact PV_long w _ _ cap h1 hl
    · rcases Nat.lt_or_ge 2000000 (trees ps) with h2 | h2
      · have : b = false := by cases b with
          | false => rfl
          | true => have := (hb.1 rfl).2.1; omega
        subst this
        exact PV_trees w b1 off cap ps hc h1 hz h2
      · exact PV_some w b1 off cap ps b hc h1 hz h2 (hb.trans ⟨fun h => h.2.2, fun h => ⟨h1, h2, h⟩⟩)
theorem twin_any (w : World) (v : Value) (ps : List Ins) (h : ArgP w v ps) (hz : ps.length * 48 ≤ 140737488355328) :
    Calls Try.prog 13 #[v] w fun e w' => ∃ v', e = .returned v' ∧ ArgP w' v' ps ∧ Below w.heap.size w w' :=
  (Twin_arg w v ps h hz).mono fun _ _ ⟨v', h1, h2, h3⟩ => ⟨v', h1, (own_prog h2).2.1, h3⟩
end Go.Proofs.Ytpiahjbpidcjpaa
