/- Runs, step by step: plain mathematics. By an AI agent. -/
import Derived.Test.YtpiahjbpidcjpaaTr
namespace Go.Proofs.Ytpiahjbpidcjpaa
open Go.RowKit Pl

/-- the state after so many steps, none of them made behind the end -/
inductive Steps (ps : List Ins) (s0 : St) : Nat → St → Prop
  | zero : Steps ps s0 0 s0
  | succ {n : Nat} {s t : St} : Steps ps s0 n s → s.at_ ≠ ps.length → stepP ps s = some t → Steps ps s0 (n + 1) t
theorem Steps.ok {ps : List Ins} {s0 s : St} {n : Nat} (h : Steps ps s0 n s) (hv : PValid ps) (h0 : s0.ok ps.length) : s.ok ps.length := by
  induction h with
  | zero => exact h0
  | succ _ _ hs ih => exact stepP_ok hv ih hs
theorem Steps.det {ps : List Ins} {s0 s t : St} {n : Nat} (h : Steps ps s0 n s) (k : Steps ps s0 n t) : s = t := by
  induction h generalizing t with
  | zero => cases k; rfl
  | succ h1 _ hs ih =>
    cases k with
    | succ k1 _ ks => rw [ih k1] at hs; rw [hs] at ks; cases ks; rfl
theorem Steps.front {ps : List Ins} {s0 t s : St} {n : Nat} (h : Steps ps t n s) (he : s0.at_ ≠ ps.length) (ht : stepP ps s0 = some t) : Steps ps s0 (n + 1) s := by
  induction h with
  | zero => exact .succ .zero he ht
  | succ _ h5 h6 ih => exact .succ ih h5 h6
/-- at most k steps: the state, and how many steps; none: one is too large -/
noncomputable def runTo (ps : List Ins) : Nat → St → Option (St × Nat)
  | 0, s => some (s, 0)
  | k + 1, s => if s.at_ = ps.length then some (s, 0) else (stepP ps s).bind fun t => (runTo ps k t).map fun r => (r.1, r.2 + 1)
theorem runTo_end {ps : List Ins} {s : St} (h : s.at_ = ps.length) (k : Nat) : runTo ps k s = some (s, 0) := by
  cases k with
  | zero => rfl
  | succ k => rw [runTo, if_pos h]
theorem runTo_none {ps : List Ins} {s : St} (h : s.at_ ≠ ps.length) (hs : stepP ps s = none) {k : Nat} (hk : 0 < k) : runTo ps k s = none := by
  obtain ⟨k, rfl⟩ : ∃ q, k = q + 1 := ⟨k - 1, by omega⟩
  rw [runTo, if_neg h, hs]; rfl
theorem runTo_steps {ps : List Ins} {s0 s : St} {n : Nat} (h : Steps ps s0 n s) : ∀ {k : Nat}, n ≤ k → runTo ps k s0 = (runTo ps (k - n) s).map fun r => (r.1, r.2 + n) := by
  induction h with
  | zero => intro k _; simp
  | @succ n s t h1 h2 hs ih =>
    intro k hk
    rw [ih (by omega), show k - n = (k - (n + 1)) + 1 by omega, runTo, if_neg h2, hs]
    simp only [Option.bind_some, Option.map_map]
    congr 1
    funext r
    simp only [Function.comp, Prod.mk.injEq, true_and]
    omega
theorem runTo_is {ps : List Ins} {s0 s : St} {n k : Nat} (h : Steps ps s0 n s) (hn : n ≤ k) (he : n = k ∨ s.at_ = ps.length) : runTo ps k s0 = some (s, n) := by
  rw [runTo_steps h hn]
  rcases he with rfl | he
  · simp [runTo]
  · rw [runTo_end he]; simp
theorem runTo_large {ps : List Ins} {s0 s : St} {n k : Nat} (h : Steps ps s0 n s) (hn : n < k) (he : s.at_ ≠ ps.length) (hs : stepP ps s = none) : runTo ps k s0 = none := by
  rw [runTo_steps h (by omega), runTo_none he hs (by omega)]; rfl
/-- what has been found of a run is all that there is -/
theorem runTo_some {ps : List Ins} : ∀ {k : Nat} {s0 s : St} {n : Nat}, runTo ps k s0 = some (s, n) → Steps ps s0 n s ∧ n ≤ k ∧ (n = k ∨ s.at_ = ps.length) := by
  intro k
  induction k with
  | zero => intro s0 s n h; simp only [runTo, Option.some.injEq, Prod.mk.injEq] at h; obtain ⟨rfl, rfl⟩ := h; exact ⟨.zero, Nat.le_refl _, .inl rfl⟩
  | succ k ih =>
    intro s0 s n h
    rw [runTo] at h
    by_cases he : s0.at_ = ps.length
    · rw [if_pos he] at h; cases h; exact ⟨.zero, Nat.zero_le _, .inr he⟩
    · rw [if_neg he] at h
      obtain ⟨t, ht, h⟩ := Option.bind_eq_some_iff.1 h
      obtain ⟨⟨r, m⟩, hr, h⟩ := Option.map_eq_some_iff.1 h
      simp only [Prod.mk.injEq] at h
      obtain ⟨rfl, rfl⟩ := h
      obtain ⟨h1, h2, h3⟩ := ih hr
      exact ⟨h1.front he ht, by omega, by omega⟩
end Go.Proofs.Ytpiahjbpidcjpaa
