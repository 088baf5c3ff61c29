/- The reference's Loops: true only where a state comes again. By an AI agent. -/
import Derived.Test.YtkpfocgcnehajabGreatDoorRAgn
import Derived.Deep.RegionHeld3
import Derived.Deep.AppendLies
namespace Go.Proofs.YtkpfocgcnehajabGreatDoor
open Go.RowKit Pl

/-- a state comes again within K steps -/
def Comes (ps : List Ins) (t : Tr) (K : Nat) : Prop := ∃ i j st, i < j ∧ j ≤ K ∧ Steps ps (first t) i st ∧ Steps ps (first t) j st
theorem RA.but {w w' : World} {s R o R' : Nat} {st : St} (h : RA w o R' st) (hb : But2 s R w w') (hk : KeepT 72 w w') (ho : o ≠ s ∧ o ≠ R ∧ R' ≠ s ∧ R' ≠ R) : RA w' o R' st := by
  have lt : ∀ {b i : Nat} {u : Value}, w.cell? ⟨b, i, none⟩ = some u → b < w.heap.size := fun h => cell_lt h
  refine ⟨(cell_same (hb.block o (lt h.place) ho.1 ho.2.1)).trans h.place, ?_, fun r hr => ?_⟩
  · obtain ⟨rc, h1⟩ := h.regsv
    exact ⟨rc, (cell_same (hb.block o (lt h.place) ho.1 ho.2.1)).trans h1⟩
  · obtain ⟨x, h1, h2⟩ := h.regs r hr
    exact ⟨x, (cell_same (hb.block R' (lt h1) ho.2.2.1 ho.2.2.2)).trans h1, NodeW.keep h2 hk⟩
/-- what is remembered: nothing yet, or a state that was n steps ago -/
def Old (ps : List Ins) (t : Tr) (s R : Nat) (wr : World) (o k n : Nat) : Prop :=
  (wr.cell? ⟨o, 0, none⟩ = some (.int .i64 (-1)) ∧ o ≠ s ∧ o ≠ R) ∨ ∃ R' i st, RA wr o R' st ∧ Steps ps (first t) i st ∧ i + n = k ∧ o ≠ s ∧ o ≠ R ∧ R' ≠ s ∧ R' ≠ R
theorem Old.below {ps : List Ins} {t : Tr} {s R : Nat} {w w' : World} {o k n : Nat} (h : Old ps t s R w o k n) (hb : Below w.heap.size w w') : Old ps t s R w' o k n := by
  rcases h with ⟨h, h1⟩ | ⟨R', i, st, h1, h2⟩
  · exact .inl ⟨cell_keep hb h, h1⟩
  · exact .inr ⟨R', i, st, h1.below hb, h2⟩
theorem Old.but {ps : List Ins} {t : Tr} {s R : Nat} {w w' : World} {o k n : Nat} (h : Old ps t s R w o k n) (hb : But2 s R w w') (hk : KeepT 72 w w') : Old ps t s R w' o (k + 1) (n + 1) := by
  rcases h with ⟨h, h1, h2⟩ | ⟨R', i, st, h1, h2, h3, h4⟩
  · exact .inl ⟨(cell_same (hb.block o (cell_lt h) h1 h2)).trans h, h1, h2⟩
  · exact .inr ⟨R', i, st, h1.but hb hk h4, h2, by omega, h4⟩
set_option maxHeartbeats 1000000 in
set_option maxRecDepth 100000 in
/-- where nothing is remembered yet -/
theorem rAgain_new (w : World) (o s : Nat) (at_ : Nat) (h1 : w.cell? ⟨o, 0, none⟩ = some (.int .i64 (-1))) (h2 : w.cell? ⟨s, 0, none⟩ = some (.int .i64 (at_ : Int))) :
    Calls Tryz.prog 90 #[.pointer (some ⟨o, 0, none⟩), .pointer (some ⟨s, 0, none⟩)] w fun e w' => e = .returned (.bool false) ∧ Below w.heap.size w w' := by
  have e0 : ((-1 : Int) != (at_ : Int)) = true := by rw [bne_iff_ne]; omega
  go_enter Tryz.func90, Tryz.ntmps90
  go_wp2_with fail
  go_quiet (fail)
  go_wp2
  go_ret
  exact ⟨rfl, bdrewN (Below.refl _ _) _⟩
end Go.Proofs.YtkpfocgcnehajabGreatDoor
