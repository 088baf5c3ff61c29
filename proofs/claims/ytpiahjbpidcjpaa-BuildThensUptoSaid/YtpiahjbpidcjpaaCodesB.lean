/- The reference's CodeOf of any right instruction, Code. By an AI agent. -/
import Derived.Test.YtpiahjbpidcjpaaCodes
import Derived.Test.YtpiahjbpidcjpaaItems
namespace Go.Proofs.Ytpiahjbpidcjpaa
open Go.RowKit Pl

theorem right_cases {x : Ins} {i n : Int} (h : right x i n = true) : reg x.a = true ∧
    ((x.op = 0 ∧ x.b = 0 ∧ x.c = 0 ∧ vld x.tree = true) ∨ ((x.op = 1 ∨ x.op = 3 ∨ x.op = 4) ∧ reg x.b = true ∧ x.c = 0 ∧ x.tree = []) ∨
     (x.op = 2 ∧ reg x.b = true ∧ reg x.c = true ∧ x.tree = []) ∨ (x.op = 5 ∧ x.c = 0 ∧ x.tree = [] ∧ -i ≤ x.b ∧ x.b ≤ n - i)) := by
  obtain ⟨op, a, b, c, t⟩ := x
  by_cases h0 : op = 0
  · subst h0; simp_all [right]
  by_cases h2 : op = 2
  · subst h2; simp_all [right]
  by_cases h1 : op = 1
  · subst h1; simp_all [right]
  by_cases h3 : op = 3
  · subst h3; simp_all [right]
  by_cases h4 : op = 4
  · subst h4; simp_all [right]
  by_cases h5 : op = 5
  · subst h5; simp_all [right]
  · simp [right, h0, h1, h2, h3, h4, h5] at h
theorem reg_nat {n : Int} (h : reg n = true) : ∃ k : Nat, n = (k : Int) ∧ k < 32 := by
  obtain ⟨h1, h2⟩ := reg_true h
  exact ⟨n.toNat, by omega, by omega⟩

theorem num_le {n k : Nat} (h : n ≤ k) : (num n).length ≤ 2 * k + 1 := by rw [num_len]; omega
theorem codeOf_len {x : Ins} {i n : Int} (h : right x i n = true) (hi0 : 0 ≤ i) (hi : i ≤ 4000) (hn : n ≤ 4000) : (codeOf x).length ≤ 9000 + x.tree.length := by
  obtain ⟨ha, hc⟩ := right_cases h
  have h1 := num_le (n := x.a.toNat) (k := 32) (by have := (reg_true ha).2; omega)
  unfold codeOf body
  rcases hc with ⟨ho, _⟩ | ⟨ho, hb, _⟩ | ⟨ho, hb, hc, _⟩ | ⟨ho, _, _, hb1, hb2⟩
  · have h2 := num_le (n := x.op.toNat) (k := 6) (by omega)
    rw [if_pos ho]; simp only [pr_len]; omega
  · have h2 := num_le (n := x.op.toNat) (k := 6) (by omega)
    have h3 := num_le (n := x.b.toNat) (k := 32) (by have := (reg_true hb).2; omega)
    rw [if_neg (by omega), if_neg (by omega), if_neg (by omega)]; simp only [pr_len]; omega
  · have h2 := num_le (n := x.op.toNat) (k := 6) (by omega)
    have h3 := num_le (n := x.b.toNat) (k := 32) (by have := (reg_true hb).2; omega)
    have h4 := num_le (n := x.c.toNat) (k := 32) (by have := (reg_true hc).2; omega)
    rw [if_neg (by omega), if_pos ho]; simp only [pr_len]; omega
  · have h2 := num_le (n := x.op.toNat) (k := 6) (by omega)
    have h3 := num_le (n := (-x.b).toNat) (k := 4000) (by omega)
    have h4 := num_le (n := x.b.toNat) (k := 4000) (by omega)
    rw [if_neg (by omega), if_neg (by omega), if_pos ho]
    split <;> simp only [pr_len, List.length_cons, List.length_nil] <;> omega
theorem enc_map_len {f : Ins → List UInt8} : ∀ {ps : List Ins}, (∀ x ∈ ps, (f x).length ≤ 9000 + x.tree.length) → (enc (ps.map f)).length ≤ 1 + ps.length * 9001 + trees ps := by
  intro ps
  induction ps with
  | nil => intro _; simp [enc]
  | cons x ps ih =>
    intro h
    have h1 := h x (by simp)
    have h2 := ih (fun y hy => h y (by simp [hy]))
    have h3 : trees (x :: ps) = x.tree.length + trees ps := by simp [trees]
    rw [List.map_cons, h3]
    simp only [enc, List.length_cons, List.length_append]
    omega
theorem AllR.mem {ps : List Ins} (h : AllR ps) (hm : ps.length ≤ 4000) : ∀ x ∈ ps, (codeOf x).length ≤ 9000 + x.tree.length := by
  intro x hx
  obtain ⟨k, hk, rfl⟩ := List.mem_iff_getElem.1 hx
  exact codeOf_len (h k _ (List.getElem?_eq_getElem hk)) (by omega) (by omega) (by omega)
def codes (ps : List Ins) : List (List UInt8) := ps.map codeOf
theorem codes_len (ps : List Ins) : (codes ps).length = ps.length := by simp [codes]
theorem codes_take {ps : List Ins} {k : Nat} {x : Ins} (h : ps[k]? = some x) : codes (ps.take (k + 1)) = codes (ps.take k) ++ [codeOf x] := by
  obtain ⟨hk, rfl⟩ := List.getElem?_eq_some_iff.1 h
  unfold codes
  rw [List.take_succ_eq_append_getElem hk, List.map_append]; rfl

end Go.Proofs.Ytpiahjbpidcjpaa
