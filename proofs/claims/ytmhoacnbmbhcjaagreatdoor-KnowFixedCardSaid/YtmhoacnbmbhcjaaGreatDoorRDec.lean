/- The reference's Decode, by what it is given. By an AI agent. -/
import Derived.Test.YtmhoacnbmbhcjaaGreatDoorCodeMath
import Derived.Test.YtmhoacnbmbhcjaaGreatDoorMth
namespace Go.Proofs.YtmhoacnbmbhcjaaGreatDoor
open Go.RowKit Pl

theorem S_back9 (s : ByteArray) : S s.data.toList = s := by simp [S]
theorem rDecode_hit (s : ByteArray) (ps : List Ins) (w : World) (hv : vld s.data.toList = true) (hp : PValid ps) (he : enc (codes ps) = s.data.toList) :
    Calls Tryz.prog 37 #[.string s] w fun e w' => ∃ v, e = .returned (.tuple #[v, .bool true]) ∧ ArgP w' v ps ∧ Below w.heap.size w w' := by
  have hl := (vld_iff.1 hv).1
  have hi : itemsOf s.data.toList = codes ps := by rw [← he]; exact code_items hp (by rw [he]; exact hl)
  have hd : decs (itemsOf s.data.toList) = ps := by rw [hi]; exact decs_codes hp
  have hn := hp.1
  by_cases h0 : ps = []
  · subst h0
    have e1 : s = S [48] := by rw [← S_back9 s, ← he]; rfl
    rw [e1]
    exact (Decode_zero w).mono fun e w' ⟨h1, h2⟩ => ⟨_, h1, .inl ⟨rfl, .inl rfl⟩, h2⟩
  · have hlen : (itemsOf s.data.toList).length = ps.length := by rw [hi, codes_len]
    have h1 : 0 < ps.length := List.length_pos_iff.2 h0
    refine (Decode_few s w true hv (by omega) (by omega) (by rw [hd]; simp [hp, he])).mono fun e w' ⟨v, h1, h2, h3⟩ => ⟨v, h1, ?_, h3⟩
    rw [hd] at h2
    exact (own_prog h2).2.1
theorem rDecode_miss (s : ByteArray) (w : World) (hv : vld s.data.toList = true) (h : ∀ ps, PValid ps → enc (codes ps) ≠ s.data.toList) :
    Calls Tryz.prog 37 #[.string s] w fun e w' => ∃ v, e = .returned (.tuple #[v, .bool false]) ∧ Below w.heap.size w w' := by
  by_cases hn : (itemsOf s.data.toList).length ≤ 4000
  · have h0 : 0 < (itemsOf s.data.toList).length := by
      rcases Nat.eq_zero_or_pos (itemsOf s.data.toList).length with e | e
      · have e1 := items_enc hv
        rw [List.eq_nil_of_length_eq_zero e] at e1
        exact absurd e1 (h [] pvalid_nil)
      · exact e
    exact (Decode_few s w false hv h0 hn (by simp only [Bool.false_eq_true, false_iff]; rintro ⟨h1, h2⟩; exact h _ h1 h2)).mono fun e w' ⟨v, h1, _, h3⟩ => ⟨v, h1, h3⟩
  · exact (Decode_many s w hv (by omega)).mono fun e w' ⟨h1, h2⟩ => ⟨_, h1, h2⟩

end Go.Proofs.YtmhoacnbmbhcjaaGreatDoor
