/- A list of programs among a law's arguments, of any length. By an AI agent. -/
import Derived.Test.YtmhoacnbmbhcjaaGreatDoorTow
import Derived.Test.YtmhoacnbmbhcjaaGreatDoorOpenQ
import Derived.ProofKit
import Derived.SizedLaws
namespace Go.Proofs.YtmhoacnbmbhcjaaGreatDoor
open Go.ChangeShapes Go.WideShapes Go.Deep Go.RowKit Pl

theorem bytesProL : Tryz.prog.bytesOf 23 = 24 := by kernel_rfl
theorem cellsProL : Tryz.prog.cellsOf 23 = 1 := by kernel_rfl
theorem argP_lenL {w : World} {a0 : Option Addr} {len cap : Nat} {ps : List Ins} (h : ArgP w (.slice a0 len cap) ps) : ps.length = len := by
  rcases h with ⟨rfl, h | ⟨_, _, h⟩⟩ | ⟨_, _, _, _, h, _⟩ <;> simp at h <;> simp [h]
theorem trod_prog_formL {H : Type} {enc : TypeId × Value → H} {W : World} {fuel : Nat} {v : Value} {x : DataW H × List MemPlace}
    (h : DataW.trod enc Tryz.prog W 0 (fun _ => true) true fuel 23 [v] = some x) : ∃ a0 len cap, v = .slice a0 len cap := by
  rcases open_slice Tryz.underlying23 h with ⟨hcs, _⟩ | ⟨a, len', cap', m, n, D, Pl, hcs, _⟩
  · simp at hcs; exact ⟨_, _, _, hcs⟩
  · simp at hcs; exact ⟨_, _, _, hcs⟩
theorem open_progsL {H : Type} {enc : TypeId × Value → H} {W : World} {fuel : Nat} {a0 : Option Addr} {len cap : Nat} {x : DataW H × List MemPlace}
    (h : DataW.trod enc Tryz.prog W 0 (fun _ => true) true fuel 66 [.slice a0 len cap] = some x) (hlt : ∀ y ∈ x.2, y.block < W.heap.size)
    (hs : ∀ n ∈ x.1.weights Tryz.prog 66, n ≤ 140737488351232) :
    ∃ pss, pss.length = len ∧ LsA W a0 pss ∧ pss.length * 24 ≤ 140737488351232 ∧ SzL pss := by
  rcases open_slice Tryz.underlying66 h with ⟨hcs, _⟩ | ⟨a, len', cap', m, n, D, Pl, hcs, _, hlc, _, hm, rfl, hi⟩
  · simp at hcs
    exact ⟨[], by rw [hcs.2.1]; rfl, .inl rfl, by simp, fun p hp => by cases hp⟩
  · simp at hcs
    obtain ⟨rfl, rfl, rfl⟩ := hcs
    simp only [if_true] at hm
    by_cases hl0 : len = 0
    · exact ⟨[], by rw [hl0]; rfl, .inl rfl, by simp, fun p hp => by cases hp⟩
    have hw : ((len + (m - len)) * 24) ≤ 140737488351232 := by
      have := hs ((len + (m - len)) * 24) (by
        simp only [DataW.weights, Tryz.underlying66, List.length_map, List.length_range, bytesProL]
        exact List.mem_cons_self)
      exact this
    have key : ∀ i, ∃ (v : Value) (ps : List Ins), i < len → W.cells? 0 (a.add (i * 1)) 1 = some [v] ∧ ArgP W v ps ∧ ps.length * 48 ≤ 140737488351232 ∧ ∀ y ∈ ps, y.tree.length ≤ 140737488351232 := by
      intro i
      by_cases hlt' : i < len
      · obtain ⟨cs', h1, h2⟩ := hi i (by omega)
        rw [cellsProL] at h1
        obtain ⟨v, rfl⟩ : ∃ v, cs' = [v] := by
          have := (World.cells?_some h1).2.1
          rcases cs' with _ | ⟨v, _ | ⟨_, _⟩⟩ <;> simp at this
          exact ⟨v, rfl⟩
        obtain ⟨b0, l0, c0, rfl⟩ := trod_prog_formL h2
        obtain ⟨ps, h3, h4, h5⟩ := open_prog h2 (fun y hy => hlt y (List.mem_append_right _ (List.mem_flatMap.2 ⟨i, List.mem_range.2 (by omega), hy⟩))) (fun n hn => hs n (by
          simp only [DataW.weights, Tryz.underlying66]
          exact List.mem_cons_of_mem _ (List.mem_append_left _ (mem_weightsAll (d := D i) (List.mem_map.2 ⟨i, List.mem_range.2 hlt', rfl⟩) _ hn))))
        exact ⟨_, ps, fun _ => ⟨h1, h4, h3, h5⟩⟩
      · exact ⟨.int .i64 0, [], fun h => absurd h hlt'⟩
    obtain ⟨V, hV⟩ := Classical.axiomOfChoice key
    obtain ⟨f, hf⟩ := Classical.axiomOfChoice hV
    have hlen : ((List.range len).map f).length = len := by simp
    obtain ⟨b, off, spot⟩ := a
    have hc0 := (World.cells?_some (hf 0 (by omega)).1).2.2 0 (by omega)
    have hspot : spot = none := by
      simp [Addr.add] at hc0
      exact World.cell?_spot hc0
    subst hspot
    have hbW : b < W.heap.size := hlt (.cell b off) (List.mem_append_left _ (MemPlace.mem_row.2 ⟨0, by rw [cellsProL]; omega, by simp⟩))
    refine ⟨(List.range len).map f, hlen, .inr ⟨b, off, rfl, hbW, fun k p hp => ?_⟩, by rw [hlen]; omega, ?_⟩
    · have hk : k < len := by have := (List.getElem?_eq_some_iff.1 hp).1; rwa [hlen] at this
      obtain rfl : f k = p := by simpa [List.getElem?_map, List.getElem?_range hk] using hp
      have hc := (World.cells?_some (hf k hk).1).2.2 0 (by omega)
      have e : ((⟨b, off, none⟩ : Addr).add (k * 1)).add 0 = ⟨b, off + k, none⟩ := by
        unfold Addr.add; split <;> split <;> simp_all
      rw [e] at hc
      exact ⟨V k, by simpa using hc, (hf k hk).2.1⟩
    · intro p hp
      obtain ⟨i, hi', rfl⟩ := List.mem_map.1 hp
      have h9 := hf i (List.mem_range.1 hi')
      exact ⟨by have := h9.2.2.1; omega, fun y hy => by have := h9.2.2.2 y hy; omega⟩
end Go.Proofs.YtmhoacnbmbhcjaaGreatDoor
