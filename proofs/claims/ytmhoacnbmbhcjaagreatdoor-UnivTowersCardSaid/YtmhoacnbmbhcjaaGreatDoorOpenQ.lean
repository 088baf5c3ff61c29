/- A program that comes in: opened to its instructions. By an AI agent. -/
import Derived.Test.YtmhoacnbmbhcjaaGreatDoorPrg
import Derived.ProofKit
import Derived.SizedLaws
import Derived.Deep.Slices
import Derived.SliceStrings
namespace Go.Proofs.YtmhoacnbmbhcjaaGreatDoor
open Go.ChangeShapes Go.WideShapes Go.Deep Go.RowKit Pl

theorem cellsStr : Tryz.prog.cellsOf 9 = 1 := by kernel_rfl
theorem S_back (s : ByteArray) : S s.data.toList = s := by simp [S]
theorem cellsIns : Tryz.prog.cellsOf 64 = 5 := by kernel_rfl
theorem cellsInt : Tryz.prog.cellsOf 3 = 1 := by kernel_rfl
theorem bytesIns : Tryz.prog.bytesOf 64 = 48 := by kernel_rfl
def Ins.datum {H : Type} (y : Ins) : DataW H := .agg [.lit (.int .i64 y.op), .lit (.int .i64 y.a), .lit (.int .i64 y.b), .lit (.int .i64 y.c), .lit (.string y.tree)]
theorem open_ins {H : Type} {enc : TypeId × Value → H} {W : World} {base : Nat} {spare : Nat → Bool} {held : Bool} {n : Nat} {cs : List Value} {x : DataW H × List MemPlace}
    (h : DataW.trod enc Tryz.prog W base spare held n 64 cs = some x) : ∃ y : Ins, cs = y.cells ∧ x.1 = y.datum := by
  obtain ⟨xs, n, _, rfl, hl, hlen, hf⟩ := DataW.trod_struct Tryz.underlying64 h
  rw [cellsIns] at hl
  obtain ⟨c0, c1, c2, c3, c4, rfl⟩ : ∃ c0 c1 c2 c3 c4, cs = [c0, c1, c2, c3, c4] := by
    rcases cs with _ | ⟨c0, _ | ⟨c1, _ | ⟨c2, _ | ⟨c3, _ | ⟨c4, _ | ⟨c5, r⟩⟩⟩⟩⟩⟩ <;> simp at hl
    exact ⟨c0, c1, c2, c3, c4, rfl⟩
  obtain ⟨x0, x1, x2, x3, x4, rfl⟩ : ∃ x0 x1 x2 x3 x4, xs = [x0, x1, x2, x3, x4] := by
    rcases xs with _ | ⟨x0, _ | ⟨x1, _ | ⟨x2, _ | ⟨x3, _ | ⟨x4, _ | ⟨x5, r⟩⟩⟩⟩⟩⟩ <;> simp at hlen
    exact ⟨x0, x1, x2, x3, x4, rfl⟩
  have h0 := hf 0 { name := "Op", type := 3, offset := 0, embedded := false, tag := "", pkgPath := "", byteOffset := 0 } rfl
  have h1 := hf 1 { name := "A", type := 3, offset := 1, embedded := false, tag := "", pkgPath := "", byteOffset := 8 } rfl
  have h2 := hf 2 { name := "B", type := 3, offset := 2, embedded := false, tag := "", pkgPath := "", byteOffset := 16 } rfl
  have h3 := hf 3 { name := "C", type := 3, offset := 3, embedded := false, tag := "", pkgPath := "", byteOffset := 24 } rfl
  have h4 := hf 4 { name := "Tree", type := 9, offset := 4, embedded := false, tag := "", pkgPath := "", byteOffset := 32 } rfl
  simp only [cellsInt, cellsStr, List.drop_zero, List.drop_succ_cons, List.take_succ_cons, List.take_zero, List.getElem?_cons_zero, List.getElem?_cons_succ] at h0 h1 h2 h3 h4
  obtain ⟨v0, e0, rfl, _⟩ := DataW.trod_int Tryz.underlying3 h0
  obtain ⟨v1, e1, rfl, _⟩ := DataW.trod_int Tryz.underlying3 h1
  obtain ⟨v2, e2, rfl, _⟩ := DataW.trod_int Tryz.underlying3 h2
  obtain ⟨v3, e3, rfl, _⟩ := DataW.trod_int Tryz.underlying3 h3
  obtain ⟨s, e4, rfl, _⟩ := DataW.trod_string Tryz.underlying9 h4
  simp only [List.cons.injEq, and_true] at e0 e1 e2 e3 e4
  subst e0; subst e1; subst e2; subst e3; subst e4
  exact ⟨⟨v0, v1, v2, v3, s.data.toList⟩, by simp [Ins.cells, S_back], rfl⟩
theorem mem_weightsAll {H : Type} {P : Program} {e : TypeId} : ∀ {l : List (DataW H)} {d : DataW H}, d ∈ l → ∀ n ∈ d.weights P e, n ∈ DataW.weightsAll P e l
  | d' :: r, d, hd, n, hn => by
    rw [DataW.weightsAll, List.mem_append]
    rcases List.mem_cons.1 hd with rfl | h
    · exact .inl hn
    · exact .inr (mem_weightsAll h n hn)
theorem open_prog {H : Type} {enc : TypeId × Value → H} {W : World} {fuel : Nat} {a0 : Option Addr} {len cap : Nat} {x : DataW H × List MemPlace}
    (h : DataW.trod enc Tryz.prog W 0 (fun _ => true) true fuel 23 [.slice a0 len cap] = some x) (hlt : ∀ y ∈ x.2, y.block < W.heap.size)
    (hs : ∀ n ∈ x.1.weights Tryz.prog 23, n ≤ 140737488351232) :
    ∃ ps : List Ins, ps.length * 48 ≤ 140737488351232 ∧ ArgP W (.slice a0 len cap) ps ∧ ∀ y ∈ ps, y.tree.length ≤ 140737488351232 := by
  rcases open_slice Tryz.underlying23 h with ⟨hcs, _⟩ | ⟨a, len', cap', m, n, D, Pl, hcs, _, hlc, _, hm, rfl, hi⟩
  · simp at hcs
    obtain ⟨rfl, rfl, rfl⟩ := hcs
    exact ⟨[], by simp, .inl ⟨rfl, .inl rfl⟩, fun y hy => by cases hy⟩
  · simp at hcs
    obtain ⟨rfl, rfl, rfl⟩ := hcs
    simp only [if_true] at hm
    have key : ∀ i, ∃ y : Ins, i < len → W.cells? 0 (a.add (i * 5)) 5 = some y.cells ∧ D i = y.datum := by
      intro i
      by_cases hlt : i < len
      · obtain ⟨cs', h1, h2⟩ := hi i (by omega)
        rw [cellsIns] at h1
        obtain ⟨y, rfl, h3⟩ := open_ins h2
        exact ⟨y, fun _ => ⟨h1, h3⟩⟩
      · exact ⟨⟨0, 0, 0, 0, []⟩, fun h => absurd h hlt⟩
    obtain ⟨f, hf⟩ := Classical.axiomOfChoice key
    have hlen : ((List.range len).map f).length = len := by simp
    have hw : ((len + (m - len)) * 48) ≤ 140737488351232 := by
      have := hs ((len + (m - len)) * 48) (by
        simp only [DataW.weights, Tryz.underlying23, List.length_map, List.length_range, bytesIns]
        exact List.mem_cons_self)
      exact this
    have hin : ∀ i, i < len → (f i).tree.length ≤ 140737488351232 := by
      intro i hil
      refine hs _ ?_
      simp only [DataW.weights, Tryz.underlying23]
      refine List.mem_cons_of_mem _ (List.mem_append_left _ (mem_weightsAll (d := D i) (List.mem_map.2 ⟨i, List.mem_range.2 hil, rfl⟩) _ ?_))
      rw [(hf i hil).2]
      simp [Ins.datum, DataW.weights, DataW.weightsEach, Tryz.underlying64]
    refine ⟨(List.range len).map f, by rw [hlen]; have : len * 48 ≤ (len + (m - len)) * 48 := Nat.mul_le_mul_right _ (by omega); omega, ?_, fun y hy => ?_⟩
    · by_cases hl0 : len = 0
      · subst hl0
        exact .inl ⟨rfl, .inr ⟨a, cap, rfl⟩⟩
      · obtain ⟨b, off, spot⟩ := a
        have hc0 := (World.cells?_some (hf 0 (by omega)).1).2.2 0 (by omega)
        have hspot : spot = none := by
          simp [Addr.add, Ins.cells] at hc0
          exact World.cell?_spot hc0
        subst hspot
        have hbW : b < W.heap.size := hlt (.cell b off) (List.mem_append_left _ (MemPlace.mem_row.2 ⟨0, by rw [cellsIns]; omega, by simp⟩))
        refine .inr ⟨by rw [hlen]; omega, b, off, cap, by rw [hlen], hbW, fun k x hx => ?_⟩
        have hk : k < len := by have := (List.getElem?_eq_some_iff.1 hx).1; rwa [hlen] at this
        obtain rfl : f k = x := by simpa [List.getElem?_map, List.getElem?_range hk] using hx
        have hc := (World.cells?_some (hf k hk).1).2.2
        have e : ∀ j, ((⟨b, off, none⟩ : Addr).add (k * 5)).add j = ⟨b, off + k * 5 + j, none⟩ := fun j => by
          unfold Addr.add; split <;> split <;> simp_all
        have g0 := hc 0 (by omega); have g1 := hc 1 (by omega); have g2 := hc 2 (by omega); have g3 := hc 3 (by omega); have g4 := hc 4 (by omega)
        rw [e] at g0 g1 g2 g3 g4
        exact ⟨g0, g1, g2, g3, g4⟩
    · obtain ⟨i, hi', rfl⟩ := List.mem_map.1 hy
      exact hin i (List.mem_range.1 hi')
end Go.Proofs.YtmhoacnbmbhcjaaGreatDoor
