/- The contract of Number of the reference; the walk of TreeNumbers. By an AI agent. -/
import Derived.Test.YtpiahjbpidcjpaaLawA
namespace Go.Proofs.Ytpiahjbpidcjpaa
open Go.RowKit Pl

theorem Try.infoByte : (Try.prog.info? 5).map (fun i => (i.zero, i.size, i.bytes)) = some (some (.int .u8 0), 1, 1) := by kernel_rfl
def numTo (k : Nat) : List UInt8 := (List.replicate k [49, 48]).flatten
theorem numTo_succ (k : Nat) : numTo (k + 1) = numTo k ++ [49, 48] := by unfold numTo; rw [List.replicate_succ']; simp
theorem num_to (k : Nat) : num k = numTo k ++ [48] := rfl
theorem numTo_len (k : Nat) : (numTo k).length = 2 * k := by
  induction k with
  | zero => rfl
  | succ k ih => rw [numTo_succ]; simp [ih]; omega

theorem app_below {B : Nat} {w wr w1 : World} {e : TypeId} {size : Nat} {v : Value} {n : Nat} {xs : List Value} {o : Obj} (hnx : Below B w wr) (hB : B ≤ wr.heap.size) (hown : wr.ownsRow B e size v n xs) (hgrow : (wr.alloc o).grownBy w1 v.ownBlock) : Below B w w1 :=
  (hnx.alloc hB o).grown hgrow (by simp; omega) (fun k h => (hown.lt k h).1)
theorem own_bytes {w : World} {base n : Nat} {e : TypeId} {v : Value} {l : List UInt8} (h : w.ownsRow base e 1 v n (Lib.byteCells l)) (hl : 0 < n) :
    ∃ g cap, v = .slice (some ⟨g, 0, none⟩) l.length cap ∧ n = l.length ∧ ∀ j (hj : j < l.length), w.cell? ((⟨g, 0, none⟩ : Addr).add j) = some (.int .u8 (l[j].toNat : Int)) := by
  have hc := fun (g : Nat) => h.cells (g := g)
  obtain ⟨h1, h2⟩ := h
  rw [Lib.byteCells_length, Nat.mul_one] at h1
  rcases h2 with ⟨_, h0⟩ | ⟨g, cap, cur, rfl, _⟩
  · omega
  · refine ⟨g, cap, by rw [h1], h1.symm, fun j hj => hc g (by simp [Value.ownBlock]) j _ (by simp [Lib.byteCells, hj])⟩

end Go.Proofs.Ytpiahjbpidcjpaa
