/- Plain facts on depths, from the right: no program. By an AI agent. -/
import Derived.Test.YtkodkimdhalpcaaMathC
namespace Go.Proofs.Ytkodkimdhalpcaa.Pl

theorem suffix {L : List UInt8} (h : fs L 1 = some L.length) : ∀ k, k ≤ L.length → ∃ m, fs (L.drop k) m = some (L.drop k).length := by
  intro k
  induction k with
  | zero => intro _; exact ⟨1, by simpa using h⟩
  | succ k ih =>
    intro hk
    obtain ⟨m, hm⟩ := ih (by omega)
    rw [drop_cons (by omega : k < L.length)] at hm
    rcases fs_whole hm with ⟨_, j, _, hj⟩ | ⟨_, j, _, hj⟩
    · exact ⟨j, hj⟩
    · exact ⟨j + 2, hj⟩
theorem ds_at {L : List UInt8} (h : fs L 1 = some L.length) {k : Nat} (hk : k < L.length) :
    (L[k] = 48 ∧ ds (L.drop k) = 0 :: ds (L.drop (k + 1))) ∨ (L[k] = 49 ∧ ∃ a b q, ds (L.drop (k + 1)) = a :: b :: q ∧ ds (L.drop k) = (1 + max a b) :: q) := by
  obtain ⟨m, hm⟩ := suffix h k (by omega)
  rw [drop_cons hk] at hm ⊢
  rcases fs_whole hm with ⟨hc, j, _, hj⟩ | ⟨hc, j, _, hj⟩
  · rw [hc, ds_48]; exact Or.inl ⟨rfl, rfl⟩
  · obtain ⟨a, b, q, hq, _⟩ := two_of (ds_len hj)
    rw [hc]
    exact Or.inr ⟨rfl, a, b, q, hq, ds_49 hq⟩
theorem ds_few {L : List UInt8} (h : fs L 1 = some L.length) (k : Nat) (hk : k ≤ L.length) : (ds (L.drop k)).length ≤ L.length := by
  obtain ⟨m, hm⟩ := suffix h k hk
  rw [ds_len hm]
  have := fs_ge hm
  rw [List.length_drop] at this
  omega
theorem ds_small {L : List UInt8} (k : Nat) : ∀ d, d ∈ ds (L.drop k) → d ≤ L.length := fun d hd => by
  have := ds_le d hd
  rw [List.length_drop] at this
  omega
end Go.Proofs.Ytkodkimdhalpcaa.Pl
