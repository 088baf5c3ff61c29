/- The reference's Same of two programs. By an AI agent. -/
import Derived.Test.YtmhoacnbmbhcjaaGreatDoorPrg
namespace Go.Proofs.YtmhoacnbmbhcjaaGreatDoor
open Go.RowKit Pl

theorem PSame_arg (w : World) (v v2 : Value) (ps qs : List Ins) (b : Bool) (h : ArgP w v ps) (h2 : ArgP w v2 qs) (hm : ps.length ≤ 281474976710656) (hb : b = true ↔ ps = qs) :
    Calls Tryz.prog 21 #[v, v2] w fun e w' => e = .returned (.bool b) ∧ Below w.heap.size w w' := by
  rcases h with ⟨rfl, h⟩ | ⟨h0, b1, off, cap, rfl, hc⟩
  · obtain ⟨a, cap, rfl⟩ := empty_arg h
    rcases h2 with ⟨rfl, h2⟩ | ⟨h0, b2, off2, cap2, rfl, hc2⟩
    · obtain ⟨a2, cap2, rfl⟩ := empty_arg h2
      obtain rfl : b = true := hb.2 rfl
      exact (PSame_none a a2 cap cap2 w).mono fun e w' ⟨h1, h2⟩ => ⟨h1, h2 ▸ Below.refl _ _⟩
    · obtain rfl : b = false := by
        cases b with
        | false => rfl
        | true => rw [← hb.1 rfl] at h0; simp at h0
      exact (PSame_len _ _ _ _ _ _ w (by omega)).mono fun e w' ⟨h1, h2⟩ => ⟨h1, h2 ▸ Below.refl _ _⟩
  · rcases h2 with ⟨rfl, h2⟩ | ⟨h02, b2, off2, cap2, rfl, hc2⟩
    · obtain ⟨a2, cap2, rfl⟩ := empty_arg h2
      obtain rfl : b = false := by
        cases b with
        | false => rfl
        | true => rw [hb.1 rfl] at h0; simp at h0
      exact (PSame_len _ _ _ _ _ _ w (by omega)).mono fun e w' ⟨h1, h2⟩ => ⟨h1, h2 ▸ Below.refl _ _⟩
    · by_cases hl : ps.length = qs.length
      · have := PSame_some w b1 off cap b2 off2 cap2 ps qs b hc hc2 hl hm hb
        rw [hl] at this ⊢
        exact this
      · obtain rfl : b = false := by
          cases b with
          | false => rfl
          | true => exact absurd (by rw [hb.1 rfl]) hl
        exact (PSame_len _ _ _ _ _ _ w hl).mono fun e w' ⟨h1, h2⟩ => ⟨h1, h2 ▸ Below.refl _ _⟩
end Go.Proofs.YtmhoacnbmbhcjaaGreatDoor
