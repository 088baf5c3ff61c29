/- A state that comes in: opened to its registers. By an AI agent. -/
import Derived.Test.YtkpfocgcnehajaaOpenQ
import Derived.Test.YtkpfocgcnehajaaVState
namespace Go.Proofs.Ytkpfocgcnehajaa
open Go.ChangeShapes Go.WideShapes Go.Deep Go.RowKit Pl

theorem cellsSls : Try.prog.cellsOf 76 = 1 := by kernel_rfl
theorem cellsSta : Try.prog.cellsOf 78 = 2 := by kernel_rfl
theorem bytesStr : Try.prog.bytesOf 9 = 16 := by kernel_rfl
theorem open_regs {H : Type} {enc : TypeId × Value → H} {W : World} {fuel : Nat} {v : Value} {x : DataW H × List MemPlace}
    (h : DataW.trod enc Try.prog W 0 (fun _ => true) true fuel 76 [v] = some x) (hlt : ∀ y ∈ x.2, y.block < W.heap.size)
    (hs : ∀ n ∈ x.1.weights Try.prog 76, n ≤ 140737488351232) :
    ∃ ls : List (List UInt8), RegsP W v ls ∧ ls.length * 16 ≤ 140737488351232 ∧ ∀ l ∈ ls, l.length ≤ 140737488351232 := by
  rcases open_slice1 Try.underlying76 cellsStr h with ⟨hcs, _⟩ | ⟨a, len, cap, m, n, V, D, Pl, hcs, _, hlc, _, hm, rfl, hi⟩
  · simp at hcs
    subst hcs
    exact ⟨[], .inl ⟨rfl, .inl rfl⟩, by simp, fun l hl => by cases hl⟩
  · simp at hcs
    subst hcs
    simp only [if_true] at hm
    have key : ∀ i, ∃ s : ByteArray, i < len → W.cell? (a.add i) = some (.string s) ∧ D i = .lit (.string s.data.toList) := by
      intro i
      by_cases hlt' : i < len
      · obtain ⟨h1, h2⟩ := hi i (by omega)
        obtain ⟨s, e4, hd, _⟩ := DataW.trod_string Try.underlying9 h2
        simp only [List.cons.injEq, and_true] at e4
        exact ⟨s, fun _ => ⟨by rw [h1, e4], by simpa using congrArg Prod.fst hd⟩⟩
      · exact ⟨.empty, fun h => absurd h hlt'⟩
    obtain ⟨f, hf⟩ := Classical.axiomOfChoice key
    have hlen : ((List.range len).map fun i => (f i).data.toList).length = len := by simp
    have hw : (len + (m - len)) * 16 ≤ 140737488351232 := hs _ (by
      simp only [DataW.weights, Try.underlying76, List.length_map, List.length_range, bytesStr]
      exact List.mem_cons_self)
    have hin : ∀ i, i < len → (f i).data.toList.length ≤ 140737488351232 := by
      intro i hil
      refine hs _ ?_
      simp only [DataW.weights, Try.underlying76]
      refine List.mem_cons_of_mem _ (List.mem_append_left _ (mem_weightsAll (d := D i) (List.mem_map.2 ⟨i, List.mem_range.2 hil, rfl⟩) _ ?_))
      rw [(hf i hil).2]
      simp [DataW.weights]
    refine ⟨(List.range len).map fun i => (f i).data.toList, ?_, by rw [hlen]; have : len * 16 ≤ (len + (m - len)) * 16 := Nat.mul_le_mul_right _ (by omega); omega, fun l hl => ?_⟩
    · by_cases hl0 : len = 0
      · subst hl0
        exact .inl ⟨rfl, .inr ⟨a, cap, rfl⟩⟩
      · obtain ⟨b, off, spot⟩ := a
        have hc0 := (hf 0 (by omega)).1
        have hspot : spot = none := by
          simp [Addr.add] at hc0
          exact World.cell?_spot hc0
        subst hspot
        have hbW : b < W.heap.size := hlt (.cell b off) (List.mem_append_left _ (MemPlace.mem_row.2 ⟨0, by omega, by simp⟩))
        refine .inr ⟨by rw [hlen]; omega, b, off, cap, by rw [hlen], hbW, fun k hk => ?_⟩
        rw [hlen] at hk
        have hc := (hf k hk).1
        rw [show ((⟨b, off, none⟩ : Addr).add k) = ⟨b, off + k, none⟩ from by unfold Addr.add; split <;> simp_all] at hc
        rw [hc]
        simp [List.getD, hk, S_back]
    · obtain ⟨i, hi', rfl⟩ := List.mem_map.1 hl
      exact hin i (List.mem_range.1 hi')
theorem open_state {H : Type} {enc : TypeId × Value → H} {W : World} {fuel : Nat} {cs : List Value} {x : DataW H × List MemPlace}
    (h : DataW.trod enc Try.prog W 0 (fun _ => true) true fuel 78 cs = some x) (hlt : ∀ y ∈ x.2, y.block < W.heap.size)
    (hs : ∀ n ∈ x.1.weights Try.prog 78, n ≤ 140737488351232) :
    ∃ (a : Int) (rg : Value) (ls : List (List UInt8)), cs = [.int .i64 a, rg] ∧ RegsP W rg ls ∧ ls.length * 16 ≤ 140737488351232 ∧ ∀ l ∈ ls, l.length ≤ 140737488351232 := by
  obtain ⟨xs, n, _, rfl, hl, hlen, hf⟩ := DataW.trod_struct Try.underlying78 h
  rw [cellsSta] at hl
  obtain ⟨c0, c1, rfl⟩ : ∃ c0 c1, cs = [c0, c1] := by
    rcases cs with _ | ⟨c0, _ | ⟨c1, _ | ⟨c2, r⟩⟩⟩ <;> simp at hl
    exact ⟨c0, c1, rfl⟩
  obtain ⟨x0, x1, rfl⟩ : ∃ x0 x1, xs = [x0, x1] := by
    rcases xs with _ | ⟨x0, _ | ⟨x1, _ | ⟨x2, r⟩⟩⟩ <;> simp at hlen
    exact ⟨x0, x1, rfl⟩
  have h0 := hf 0 { name := "At", type := 3, offset := 0, embedded := false, tag := "", pkgPath := "", byteOffset := 0 } rfl
  have h1 := hf 1 { name := "Regs", type := 76, offset := 1, embedded := false, tag := "", pkgPath := "", byteOffset := 8 } rfl
  simp only [cellsInt, cellsSls, List.drop_zero, List.drop_succ_cons, List.take_succ_cons, List.take_zero, List.getElem?_cons_zero, List.getElem?_cons_succ] at h0 h1
  obtain ⟨v0, e0, rfl, _⟩ := DataW.trod_int Try.underlying3 h0
  simp only [List.cons.injEq, and_true] at e0
  subst e0
  obtain ⟨ls, h2, h3, h4⟩ := open_regs h1 (fun y hy => hlt y (by simp [hy])) (fun n hn => hs n (by
    simp only [DataW.weights, Try.underlying78]
    simp [DataW.weightsEach, hn]))
  exact ⟨v0, c1, ls, rfl, h2, h3, h4⟩
end Go.Proofs.Ytkpfocgcnehajaa
