/- Words and decimals read back: mathematics alone. By an AI agent. -/
import Derived.Test.YtlfoigkpfooopaaGreatDoorInteger
namespace Go.Proofs.YtlfoigkpfooopaaGreatDoor
open Go.RowKit Pl

theorem sp_last {a : List UInt8} (h : (32 : UInt8) ∉ a) : ∀ cur, sp cur a = [cur ++ a] := by
  induction a with
  | nil => intro cur; simp [sp]
  | cons c a ih =>
    intro cur
    have hc : c ≠ 32 := fun e => h (by simp [e])
    have ha : (32 : UInt8) ∉ a := fun e => h (by simp [e])
    simp only [sp, if_neg hc, ih ha]; simp
theorem sp_word {a : List UInt8} (h : (32 : UInt8) ∉ a) (b : List UInt8) : ∀ cur, sp cur (a ++ 32 :: b) = (cur ++ a) :: sp [] b := by
  induction a with
  | nil => intro cur; simp [sp]
  | cons c a ih =>
    intro cur
    have hc : c ≠ 32 := fun e => h (by simp [e])
    have ha : (32 : UInt8) ∉ a := fun e => h (by simp [e])
    rw [List.cons_append, sp, if_neg hc, ih ha]; simp
theorem dg_step {n : Nat} (h : 10 ≤ n) : dg n = dg (n / 10) ++ [UInt8.ofNat (48 + n % 10)] := by rw [dg_big h, dg_small (n := n % 10) (by omega)]
theorem digit_nat {d : Nat} (h : d < 10) : (UInt8.ofNat (48 + d)).toNat = 48 + d := by rw [UInt8.toNat_ofNat']; omega
theorem dg_all (n : Nat) : allD (dg n) = true := by
  induction n using Nat.strongRecOn with
  | ind n ih =>
    rcases Nat.lt_or_ge n 10 with h | h
    · have := digit_nat h
      rw [dg_small h]; simp only [allD, List.all_cons, List.all_nil, Bool.and_true, this]; simp; omega
    · have := digit_nat (d := n % 10) (by omega)
      rw [dg_step h, allD_app, ih (n / 10) (by omega)]; simp only [allD, List.all_cons, List.all_nil, Bool.and_true, Bool.true_and, this]; simp; omega
theorem dg_numv (n : Nat) : numv (dg n) = (n : Int) := by
  induction n using Nat.strongRecOn with
  | ind n ih =>
    rcases Nat.lt_or_ge n 10 with h | h
    · have := digit_nat h
      rw [dg_small h]; simp only [numv, List.foldl_cons, List.foldl_nil, this]; omega
    · have := digit_nat (d := n % 10) (by omega)
      rw [dg_step h, numv_snoc, ih (n / 10) (by omega), this]; omega
theorem dg_pos (n : Nat) : 0 < (dg n).length := by
  rcases Nat.lt_or_ge n 10 with h | h
  · rw [dg_small h]; simp
  · rw [dg_step h]; simp
theorem dg_lt : ∀ (k n : Nat), n < 10 ^ (k + 1) → (dg n).length ≤ k + 1 := by
  intro k
  induction k with
  | zero => intro n h; rw [dg_small (by simpa using h)]; simp
  | succ k ih =>
    intro n h
    rcases Nat.lt_or_ge n 10 with h1 | h1
    · rw [dg_small h1]; simp
    · have := ih (n / 10) (by rw [Nat.pow_succ] at h; omega)
      rw [dg_step h1, List.length_append]; simp only [List.length_cons, List.length_nil]; omega
theorem allD_mem {l : List UInt8} (h : allD l = true) : ∀ c ∈ l, 48 ≤ c.toNat ∧ c.toNat ≤ 57 := by
  intro c hc
  have := List.all_eq_true.1 h c hc
  simpa using this
theorem dg_not {n : Nat} {c : UInt8} (hc : c.toNat < 48) : c ∉ dg n := fun h => by have := allD_mem (dg_all n) c h; omega
theorem dint_blank (n : Int) : (32 : UInt8) ∉ dint n := by
  unfold dint
  split
  · intro h
    rcases List.mem_cons.1 h with h | h
    · exact absurd h (by decide)
    · exact dg_not (by decide) h
  · exact dg_not (by decide)
theorem intd_dg (sg : Int) {n : Nat} (h : n ≤ 99999) : intd sg (dg n) = (sg * n, true) := by
  have hl := dg_lt 4 n (by omega)
  have he : (dg n).isEmpty = false := by rw [List.isEmpty_eq_false_iff]; intro e; have := dg_pos n; rw [e] at this; simp at this
  unfold intd
  rw [dg_all, dg_numv, he, if_pos (by simpa using hl)]; rfl
theorem intw_dint {n : Int} (h0 : -99999 ≤ n) (h : n ≤ 99999) : intw (dint n) = (n, true) := by
  unfold dint
  split
  · rename_i hn
    unfold intw
    rw [List.head?_cons, if_pos rfl, List.tail_cons, intd_dg (-1) (by omega)]
    congr 1; omega
  · rename_i hn
    unfold intw
    rw [if_neg, intd_dg 1 (by omega)]
    · congr 1; omega
    · intro e
      have := List.mem_of_mem_head? e
      exact dg_not (by decide) this
end Go.Proofs.YtlfoigkpfooopaaGreatDoor
