/- slices.Backward over a part of a row of strings, whatever else the body writes. By an AI agent. -/
import Derived.Test.YtmhoacnbmbhcjaaGreatDoorNst
namespace Go.Proofs.YtmhoacnbmbhcjaaGreatDoor
open Go.RowKit Pl

/-- two blocks are as they were -/
def Kr (b Bs : Nat) (W W' : World) : Prop := W'.heap[b]? = W.heap[b]? ∧ W'.heap[Bs]? = W.heap[Bs]?
theorem Kr.refl (b Bs : Nat) (W : World) : Kr b Bs W W := ⟨rfl, rfl⟩
theorem Kr.trans {b Bs : Nat} {A B C : World} (h : Kr b Bs A B) (k : Kr b Bs B C) : Kr b Bs A C := ⟨k.1.trans h.1, k.2.trans h.2⟩
theorem Kr.cellb {b Bs : Nat} {A B : World} (h : Kr b Bs A B) (o : Nat) : B.cell? ⟨b, o, none⟩ = A.cell? ⟨b, o, none⟩ := by simp only [World.cell?, h.1]
theorem Kr.cell {b Bs : Nat} {A B : World} (h : Kr b Bs A B) (o : Nat) : B.cell? ⟨Bs, o, none⟩ = A.cell? ⟨Bs, o, none⟩ := by simp only [World.cell?, h.2]
theorem Kr.putObj {b Bs : Nat} {w : World} (hn : b < w.heap.size) (hb : Bs < w.heap.size) (W : World) (l : Nat) (o' : Obj) (hl : w.heap.size ≤ l) : Kr b Bs W (W.putObj l o') :=
  ⟨World.putObj_heap_other (by omega), World.putObj_heap_other (by omega)⟩
set_option maxRecDepth 100000 in
set_option maxHeartbeats 2000000 in
theorem bwd1_in (F : Fence) (n : Nat) (h7 : F.fn 157) (hro : F.round = none) (hn : 1 ≤ n) (l Bs b off cap : Nat) (xs : List (List UInt8)) (hlen : xs.length ≤ 1000) (J Jx : List Nat → World → Prop)
    (hY : ∀ pre x W, J pre W → pre.length < xs.length → YieldAt F (n - 1) Tryz.prog l (bwE xs x) W fun e W' =>
      (e = .returned (.bool true) ∧ J (pre ++ [x]) W' ∧ Kr b Bs W W') ∨ (e = .returned (.bool false) ∧ Jx (pre ++ [x]) W'))
    (W : World) (hBs : W.cell? ⟨Bs, 0, none⟩ = some (.slice (some ⟨b, off, none⟩) xs.length cap)) (hc : ∀ j, j < xs.length → W.cell? ⟨b, off + j, none⟩ = some (.string (S (xs[j]?.getD [48])))) (h0 : J [] W) :
    CallsIn F n Tryz.prog 157 #[.func (.yield l) #[] #[], .pointer (some ⟨Bs, 0, none⟩)] W fun e W' => (∃ v, e = .returned v) ∧
      ((∃ ys, ys = List.range xs.length ∧ J ys W') ∨ (∃ pre, (∃ k, k ≤ xs.length ∧ pre = List.range k) ∧ Jx pre W')) := by
  generalize hN : xs.length = N at *
  have HN := Lib.hid hN; clear hN
  have HC := Lib.hid hc; have HB := Lib.hid hBs; clear hc
  refine callsIn_of_wp Tryz.func157 rfl h7 ?_ hro
  simp only [Tryz.ntmps157, List.size_toArray, List.length_cons, List.length_nil, Nat.reduceAdd, Nat.reduceSub, Array.replicate_succ, Array.replicate_zero, List.push_toArray, List.append_toArray, List.nil_append, List.cons_append]
  gi_wp2
  clear hBs
  gi_loopw [3] (fun i wr => ∃ k : Nat, k ≤ N ∧ i = .int .i64 ((N : Int) - 1 - k) ∧ J (List.range k) wr ∧ Kr b Bs W wr)
    (fun i _ => (intOf i + 1).toNat)
  case atStart => exact ⟨0, Nat.zero_le _, by simp, h0, Kr.refl _ _ _⟩
  case round =>
    obtain ⟨k, hk, rfl, hJs, hnx⟩ := hrel
    have hBw : wr.cell? ⟨Bs, 0, none⟩ = some (.slice (some ⟨b, off, none⟩) N cap) := (hnx.cell 0).trans HB.out
    by_cases hlt : k < N
    · obtain ⟨m, hm⟩ : ∃ m, N = m + 1 + k := ⟨N - 1 - k, by omega⟩
      have e1 : (N : Int) - 1 - k = m := by omega
      have hcx := (hnx.cellb (off + m)).trans (HC.out m (by omega))
      obtain ⟨fn, tmps, assign, body, hy, hR⟩ := hY (List.range k) k wr hJs (by simpa using hlt)
      have e2 : xs.length - 1 - k = m := by have := HN.out; omega
      have e3 : (xs.length : Int) - 1 - k = m := by have := HN.out; omega
      unfold bwE at hy
      rw [e2, e3] at hy
      rw [e1]
      have hmN : m < N := by omega
      have HM := Lib.hid hm
      have E1 := Lib.hid e1
      clear e1 e2 e3 hm
      gi_wp2
      refine hR.mono ?_
      rintro e W3 (⟨rfl, hJ3, hk3⟩ | ⟨rfl, hJx3⟩)
      · gi_wp2
        go_roundw
        case rel => exact ⟨k + 1, by omega, by have := E1.out; congr 1; push_cast; omega, by rw [List.range_succ]; exact hJ3, hnx.trans hk3⟩
        case measure => simp [intOf]
      · gi_wp2
        refine bodyPost_ret (results_none rfl _ _ _) rfl ?_
        exact ⟨⟨_, rfl⟩, .inr ⟨_, ⟨k + 1, by omega, List.range_succ.symm⟩, hJx3⟩⟩
    · obtain rfl : k = N := by omega
      have e1 : (k : Int) - 1 - k = -1 := by omega
      rw [e1]
      clear e1
      gi_wp2
      go_end0
      exact ⟨⟨_, rfl⟩, .inl ⟨_, rfl, hJs⟩⟩
theorem bwd_stops (F : Fence) (n : Nat) (h7 : F.fn 157) (hro : F.round = none) (hn : 1 ≤ n) (Bs b off cap : Nat) (xs : List (List UInt8)) (hlen : xs.length ≤ 1000) (w : World) (hb : b < w.heap.size) (hBsn : Bs < w.heap.size)
    (hBs : w.cell? ⟨Bs, 0, none⟩ = some (.slice (some ⟨b, off, none⟩) xs.length cap)) (hc : ∀ j, j < xs.length → w.cell? ⟨b, off + j, none⟩ = some (.string (S (xs[j]?.getD [48])))) :
    SeqStopsK F n Tryz.prog 157 #[.pointer (some ⟨Bs, 0, none⟩)] (bwE xs) (Kr b Bs) (fun ys => ys = List.range xs.length) (fun pre => ∃ k, k ≤ xs.length ∧ pre = List.range k) xs.length w := fun l J Jx W hW _ _ hY h0 =>
  bwd1_in F n h7 hro hn l Bs b off cap xs hlen J Jx hY W ((hW.cell (p := ⟨Bs, 0, none⟩) hBsn).trans hBs) (fun j hj => (hW.cell (p := ⟨b, off + j, none⟩) hb).trans (hc j hj)) h0
end Go.Proofs.YtmhoacnbmbhcjaaGreatDoor
