/- The contracts of Number and List (package tree). By an AI agent. -/
import Derived.Test.YtpiahjbpidcjpaaReads
import Derived.Test.YtpiahjbpidcjpaaMathB
namespace Go.Proofs.Ytpiahjbpidcjpaa
open Go.RowKit Pl

theorem rep_num (n : Nat) : Lib.repeatL [49, 48] n ++ [48] = num n := by
  induction n with
  | zero => rfl
  | succ n ih => rw [num_succ, ← ih]; rfl
/-- the list holds what is valid -/
def AllV (ls : List (List UInt8)) : Prop := ∀ l ∈ ls, vld l = true
theorem AllV.at {ls : List (List UInt8)} (h : AllV ls) {k : Nat} (hk : k < ls.length) : vld (ls.getD k []) = true := h _ (by simp [List.getD, hk])

/-- cells of a slice of strings -/
def StrAt (w : World) (b off : Nat) (ls : List (List UInt8)) : Prop := b < w.heap.size ∧ ∀ k, k < ls.length → w.cell? ⟨b, off + k, none⟩ = some (.string (S (ls.getD k [])))
theorem StrAt.below {w w1 : World} {b off : Nat} {ls : List (List UInt8)} (h : StrAt w b off ls) (hb : Below w.heap.size w w1) : StrAt w1 b off ls :=
  ⟨Nat.lt_of_lt_of_le h.1 hb.size, fun k hk => by rw [hb.cell (p := ⟨b, off + k, none⟩) h.1]; exact h.2 k hk⟩

theorem encTo_len (ls : List (List UInt8)) (k : Nat) (h : k < ls.length) : (encTo ls (k + 1)).length = (encTo ls k).length + (1 + (ls.getD k []).length) := by
  rw [encTo_succ ls k h]; simp; omega

theorem WS (B b : Nat) (l x : List UInt8) (w : World) (h : Lib.IsBuilder 160 5 B b (Lib.byteCells l) w) (hlen : l.length + x.length ≤ 140737488355328) (hBw : B ≤ w.heap.size) :
    Calls Try.prog 118 #[.pointer (some ⟨b, 0, none⟩), .string (S x)] w fun e w' => e = .returned (.tuple #[.int .i64 x.length, .nilIface]) ∧ Lib.IsBuilder 160 5 B b (Lib.byteCells (l ++ x)) w' ∧ Below B w w' := by
  refine (Try.Builder_WriteString B b _ (S x) w h (by rw [Lib.byteCells_length, S_size]; exact hlen) hBw).mono fun e w' ⟨h1, h2, h3⟩ => ⟨by rw [h1, S_size], ?_, h3⟩
  rw [Lib.byteCells_append]
  exact Or.inr h2

end Go.Proofs.Ytpiahjbpidcjpaa
