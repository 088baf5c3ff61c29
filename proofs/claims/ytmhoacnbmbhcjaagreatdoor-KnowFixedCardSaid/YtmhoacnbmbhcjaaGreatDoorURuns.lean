/- UnivRuns: its walk. By an AI agent. -/
import Derived.Test.YtmhoacnbmbhcjaaGreatDoorUPk
import Derived.Test.YtmhoacnbmbhcjaaGreatDoorREq
import Derived.Test.YtmhoacnbmbhcjaaGreatDoorUAwk
namespace Go.Proofs.YtmhoacnbmbhcjaaGreatDoor
open Go.RowKit Go.Maps Pl
theorem argp_lt6 {w : World} {v : Value} {ps : List Ins} (h : ArgP w v ps) : ∀ k, 0 < ps.length → v.ownBlock = some k → k < w.heap.size := by
  intro k h0 hk
  rcases h with ⟨h, _⟩ | ⟨_, b', off, cap, rfl, hc⟩
  · rw [h] at h0; simp at h0
  · cases hk; exact hc.1
/-- what one needs of the program's run -/
theorem runs_math {ps : List Ins} {x : Tr} {n most K : Nat} {st : St} (hv : PValid ps) (hz : (tx (.pair (lst (codeL ps)) x)).length ≤ 2000000) (h : Steps ps (first x) n st) (he : st.at_ = ps.length) (hT : ∀ j s, j ≤ n → Steps ps (first x) j s → totT s.regs ≤ most) (hK : K = 100 * (ps.length + 40) * (n + 1)) :
    (∃ v k, runTo univL K (first (.pair (lst (codeL ps)) x)) = some (v, k) ∧ v.at_ = univL.length ∧ v.reg 0 = st.reg 0) ∨ ((200000 < (tx (.pair (lst (codeL ps)) x)).length ∨ 200000 < most) ∧ runTo univL K (first (.pair (lst (codeL ps)) x)) = none) := by
  have hpl := tx_pair (lst (codeL ps)) x
  have hx : (tx x).length ≤ 2000000 := by omega
  have hB : ∀ m s, m ≤ n → Steps ps (first x) m s → Small (200000 < (tx (.pair (lst (codeL ps)) x)).length ∨ 200000 < most) ps s := fun m s hm hs hb => by
    have := hT m s hm hs
    exact ⟨by omega, by omega⟩
  obtain ⟨k, v, hk, hgo, hat, hr⟩ := univ_ends hv hx hz h he hB
  have hle : k ≤ K := by
    have e1 : 100 * (ps.length + 40) * (n + 1) = 100 * ((ps.length + 40) * n) + 100 * (ps.length + 40) := by
      rw [Nat.mul_assoc, Nat.mul_add, Nat.mul_add]; omega
    have e2 : (ps.length + 40) * n = n * ps.length + 40 * n := by rw [Nat.add_mul, Nat.mul_comm]
    have e3 : n * (5 * ps.length + 700) = 5 * (n * ps.length) + 700 * n := by
      rw [Nat.mul_add, Nat.mul_comm n (5 * ps.length), Nat.mul_assoc, Nat.mul_comm ps.length n, Nat.mul_comm n 700]
    omega
  rcases hgo with h1 | ⟨hb, m, u, hm, h1, h2, h3⟩
  · exact .inl ⟨v, k, runTo_is h1 hle (.inr hat), hat, hr⟩
  · exact .inr ⟨hb, runTo_large h1 (by omega) h2 h3⟩
end Go.Proofs.YtmhoacnbmbhcjaaGreatDoor
