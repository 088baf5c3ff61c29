/- The contracts of Items (the reference), of the function inside Items and of Items (package tree). By an AI agent. -/
import Derived.Test.YtpiahjbpidcjpaaLists
import Derived.Test.YtpiahjbpidcjpaaMathD
import Derived.Deep.RegionLaw
import Derived.Deep.DrawnRows
namespace Go.Proofs.Ytpiahjbpidcjpaa
open Go.RowKit Pl

theorem strsV_snoc (a : List (List UInt8)) (x : List UInt8) : strsV (a ++ [x]) = strsV a ++ [.string (S x)] := by simp [strsV]
theorem strsV_app (a b : List (List UInt8)) : strsV (a ++ b) = strsV a ++ strsV b := by simp [strsV]

/-! the reference -/
theorem byte_at {s : ByteArray} {pos : Nat} (hp : pos < s.size) (hv : vld (s.data.toList.drop pos) = true) :
    (s.data.toList.drop pos = [48] ∧ s[pos] = 48) ∨ (s.data.toList.drop pos ≠ [48] ∧ s[pos] = 49) := by
  have hl : pos < s.data.toList.length := by rw [len_eq]; exact hp
  have hd : s.data.toList.drop pos = s[pos] :: s.data.toList.drop (pos + 1) := drop_cons hl
  by_cases h0 : s.data.toList.drop pos = [48]
  · rw [h0] at hd; exact Or.inl ⟨h0, by injection hd with h1 _; exact h1.symm⟩
  · obtain ⟨e, _, h2, _⟩ := vld_pair hv h0
    rw [hd] at h2
    injection h2 with h3 _
    exact Or.inr ⟨h0, h3⟩

theorem own_keep {w w1 : World} {base n : Nat} {e : TypeId} {size : Nat} {v : Value} {xs : List Value} (h : w.ownsRow base e size v n xs) (hb : Below w.heap.size w w1) : w1.ownsRow base e size v n xs :=
  h.kept (row := none) ⟨hb.os, hb.tape, hb.output, hb.size, fun k hk _ => hb.block k hk⟩ (by cases v.ownBlock <;> simp)

theorem far_cell {w w3 : World} {B : Nat} {v : Value} {ob : Option Nat} {o : Obj} (hg : (w.alloc o).grownBy w3 ob) (hB : B < w.heap.size) (hne : some B ≠ ob) (h1 : w.cell? ⟨B, 0, none⟩ = some v) : w3.cell? ⟨B, 0, none⟩ = some v := by
  rw [hg.cell_far _ (by simp; omega) hne, World.cell?_alloc_past _ _ _ hB]; exact h1
theorem far_frozen {w w3 : World} {B : Nat} {b : Bool} {ob : Option Nat} {o : Obj} (hg : (w.alloc o).grownBy w3 ob) (hB : B < w.heap.size) (hne : some B ≠ ob) (h1 : w.frozen? ⟨B, 0, none⟩ = b) : w3.frozen? ⟨B, 0, none⟩ = b := by
  rw [hg.frozen_far _ (by simp; omega) hne, World.frozen?_of_block (w := w) (Below.heap_alloc w o B hB)]; exact h1

/-! the function inside Items: what it captured lies in the blocks B (the list) and B + 1 (the function itself) -/
end Go.Proofs.Ytpiahjbpidcjpaa
