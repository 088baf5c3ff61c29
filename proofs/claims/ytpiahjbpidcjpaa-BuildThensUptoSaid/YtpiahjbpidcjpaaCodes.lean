/- The reference's pair, CodeOf. By an AI agent. -/
import Derived.Test.YtpiahjbpidcjpaaTwin
namespace Go.Proofs.Ytpiahjbpidcjpaa
open Go.RowKit Pl

def pr (a b : List UInt8) : List UInt8 := 49 :: (a ++ b)
theorem pr_len (a b : List UInt8) : (pr a b).length = 1 + a.length + b.length := by simp [pr]; omega
theorem boxed {w w1 : World} {v0 v1 v2 v3 v4 : Value} {ty : TypeId} {fr : Nat × Nat} (h : Below (w.alloc (.cells #[v0, v1, v2, v3, v4] ty fr)).heap.size (w.alloc (.cells #[v0, v1, v2, v3, v4] ty fr)) w1) :
    w1.cell? ⟨w.heap.size, 0, none⟩ = some v0 ∧ w1.cell? ⟨w.heap.size, 1, none⟩ = some v1 ∧ w1.cell? ⟨w.heap.size, 2, none⟩ = some v2 ∧ w1.cell? ⟨w.heap.size, 3, none⟩ = some v3 ∧ w1.cell? ⟨w.heap.size, 4, none⟩ = some v4 := by
  have e : ∀ o, w1.cell? ⟨w.heap.size, o, none⟩ = (w.alloc (.cells #[v0, v1, v2, v3, v4] ty fr)).cell? ⟨w.heap.size, o, none⟩ := fun o => h.cell (p := ⟨w.heap.size, o, none⟩) (by simp)
  rw [e, e, e, e, e]
  simp only [World.cell?, heap_alloc_new]
  exact ⟨rfl, rfl, rfl, rfl, rfl⟩

theorem keep2 {W w1 : World} {B : Nat} {u v : Value} (h : Below W.heap.size W w1) (hB : B < W.heap.size) (hc : W.cell? ⟨B, 2, none⟩ = some u ∧ W.cell? ⟨B, 3, none⟩ = some v) :
    w1.cell? ⟨B, 2, none⟩ = some u ∧ w1.cell? ⟨B, 3, none⟩ = some v := ⟨by rw [h.cell (p := ⟨B, 2, none⟩) hB]; exact hc.1, by rw [h.cell (p := ⟨B, 3, none⟩) hB]; exact hc.2⟩

/-- the second part of an instruction's code -/
def body (x : Ins) : List UInt8 :=
  if x.op = 0 then pr (num x.a.toNat) x.tree
  else if x.op = 2 then pr (num x.a.toNat) (pr (num x.b.toNat) (num x.c.toNat))
  else if x.op = 5 then (if x.b < 0 then pr (num x.a.toNat) (pr [49, 48, 48] (num (-x.b).toNat)) else pr (num x.a.toNat) (pr [48] (num x.b.toNat)))
  else pr (num x.a.toNat) (num x.b.toNat)
def codeOf (x : Ins) : List UInt8 := pr (num x.op.toNat) (body x)

end Go.Proofs.Ytpiahjbpidcjpaa
