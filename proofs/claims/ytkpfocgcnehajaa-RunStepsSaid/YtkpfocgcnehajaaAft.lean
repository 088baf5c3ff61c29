/- Package run: After. By an AI agent. -/
import Derived.Test.YtkpfocgcnehajaaRunB
import Derived.Test.YtkpfocgcnehajaaLsts
import Derived.Laws.Rows
import Derived.Outline
namespace Go.Proofs.Ytkpfocgcnehajaa
open Go.RowKit Pl

section
variable {P : Program}
/-- an array's cells, read as a whole -/
theorem wpList_load_arr {ops : Array Oper} {rest : List Oper} {o : Oper} {a : Act} {w : World} {Q : Exit → Act → World → Prop} (hgd : o.guard = none) (ty : TypeId) (x : Operand) (ho : o.op = .load ty x)
    (a0 : Addr) (hx : a.eval x = .pointer (some a0)) (xs : List Value) (hc : ∀ j v, xs[j]? = some v → w.cell? (a0.add j) = some v) (m : Nat) (el : TypeId)
    (hu : P.underlying ty = some (.array m el)) (hi : (P.info? ty).map (·.size) = some xs.length)
    (h : wpList P ops Q rest (a.put o.dst (.agg xs.toArray)) w) : wpList P ops Q (o :: rest) a w := by
  refine wpList_plain hgd fun K hK => ?_
  have hl : (loadCells a0 xs.length).run P w = .ok xs.toArray w := run_loadCells_list (P := P) w a0 xs hc
  have hr : (loadVar ty a0).run P w = .ok (.agg xs.toArray) w := by
    cases hq : P.info? ty with
    | none => simp [hq] at hi
    | some i =>
      have hs : i.size = xs.length := by simpa [hq] using hi
      have hagg : (isAgg ty).run P w = .ok true w := by
        unfold isAgg
        rw [Sem.run_bind, run_underlying hu w]
        rfl
      simp [loadVar, Sem.run_bind, hagg, sizeOf, typeInfo, hq, hs, hl]
  unfold Oper.wp execOp
  simp only [ho, hx, Instr.loadAt, Instr.sureAddr, Sem.run_bind, Sem.run_pure, Result.andThen_ok, hr]
  exact hK _ _ h
/-- an element of an array that is at hand -/
theorem run_index_arr (t e : TypeId) (n : Nat) (cs : Array Value) (k : IntKind) (i : Nat) (v : Value) (h : P.underlying t = some (.array n e)) (ha : ∀ w, (isAgg e).run P w = .ok false w) (hi : i < n) (hs : (P.info? e).map (·.size) = some 1) (hv : cs[i]? = some v) (w : World) :
    (Instr.index t (.agg cs) (.int k (i : Int))).run P w = .ok v w := by
  cases hq : P.info? e with
  | none => simp [hq] at hs
  | some j =>
    have hj : j.size = 1 := by simpa [hq] using hs
    unfold Instr.index
    simp [asIntOf, Sem.run_bind, run_underlying h w, hi, sizeOf, typeInfo, hq, hj, part, ha, hv]
end
/-- the box of a state that is to be returned -/
structure StB (w : World) (W : World) : Prop where
  c0 : W.cell? ⟨w.heap.size, 0, none⟩ = some (.int .i64 0)
  c1 : W.cell? ⟨w.heap.size, 1, none⟩ = some (.slice none 0 0)
  f0 : W.frozen? ⟨w.heap.size, 0, none⟩ = false
  f1 : W.frozen? ⟨w.heap.size, 1, none⟩ = false
  size : w.heap.size < W.heap.size
  below : Below w.heap.size w W
def StB.put (w W : World) (a b : Value) : World := (W.setCell ⟨w.heap.size, 0, none⟩ a).setCell ⟨w.heap.size, 1, none⟩ b
theorem st0_new (w : World) : StB w (w.alloc (.cells #[.int .i64 0, .slice none 0 0] 78)) :=
  ⟨by rw [World.cell?_alloc_new]; rfl, by rw [World.cell?_alloc_new]; rfl, by simp, by simp, by simp, (Below.refl _ _).alloc (Nat.le_refl _) _⟩
theorem StB.later {w W W' : World} (h : StB w W) (hb : Below W.heap.size W W') : StB w W' :=
  ⟨cell_keep hb h.c0, cell_keep hb h.c1, (hb.frozen (p := ⟨w.heap.size, 0, none⟩) h.size).trans h.f0, (hb.frozen (p := ⟨w.heap.size, 1, none⟩) h.size).trans h.f1, Nat.lt_of_lt_of_le h.size hb.size, h.below.trans (hb.mono (Nat.le_of_lt h.size))⟩
theorem StB.set {w W : World} (h : StB w W) (a b : Value) : (StB.put w W a b).cell? ⟨w.heap.size, 0, none⟩ = some a ∧ (StB.put w W a b).cell? ⟨w.heap.size, 1, none⟩ = some b ∧ Below w.heap.size w (StB.put w W a b) := by
  unfold StB.put
  refine ⟨?_, ?_, (h.below.setCell (Nat.le_refl _) _).setCell (Nat.le_refl _) _⟩
  · rw [set_other (addr_ne (by omega)), set_same h.c0]
  · refine set_same (u := .slice none 0 0) ?_
    rw [set_other (addr_ne (by omega)), h.c1]
/-- the texts of a state's registers -/
def regTexts (s : St) : List (List UInt8) := s.regs.map tx
/-- strings in a slice's memory -/
def StrRow (w : World) (B o n : Nat) (ls : List (List UInt8)) : Prop := B < w.heap.size ∧ ∀ j, j < n → w.cell? ⟨B, o + j, none⟩ = some (.string (S (ls.getD j [])))
/-- what After returns -/
def AftOut (w : World) (ps : List Ins) (t : Tr) (K : Nat) (e : Ending) (w' : World) : Prop :=
  Below w.heap.size w w' ∧ match runTo ps K (first t) with
    | some (s, n) => ∃ B, e = .returned (.tuple #[.agg #[.int .i64 (s.at_ : Int), .slice (some ⟨B, 0, none⟩) 32 32], .int .i64 (n : Int), .int .i64 0]) ∧ w.heap.size ≤ B ∧ StrRow w' B 0 32 (regTexts s)
    | none => e = .returned (.tuple #[.agg #[.int .i64 0, .slice none 0 0], .int .i64 0, .int .i64 3])
theorem isAggNode : ∀ w, (isAgg 114).run Try.prog w = .ok false w := fun w => by
  unfold isAgg
  rw [Sem.run_bind, run_underlying Try.underlying114 w]
  rfl
theorem choose_regs {w : World} {n0 M C : Nat} {ps : List Ins} {s : St} (h : Mach w n0 M C ps s) : ∃ xs : List Value, xs.length = 32 ∧ (∀ j v, xs[j]? = some v → w.cell? ⟨M, 3 + j, none⟩ = some v) ∧ ∀ j, j < 32 → ∃ X, xs[j]? = some (.pointer X) ∧ NodeW 163 w (s.regs[j]?.getD .nil) (.pointer X) := by
  have key : ∀ j : Nat, ∃ X : Option Addr, j < 32 → w.cell? ⟨M, 3 + j, none⟩ = some (.pointer X) ∧ NodeW 163 w (s.regs[j]?.getD .nil) (.pointer X) := fun j => by
    by_cases hj : j < 32
    · obtain ⟨x, h1, h2⟩ := h.regs j hj
      obtain ⟨X, rfl⟩ := h2.one
      exact ⟨X, fun _ => ⟨h1, h2⟩⟩
    · exact ⟨none, fun h => absurd h hj⟩
  obtain ⟨f, hf⟩ := Classical.axiomOfChoice key
  refine ⟨(List.range 32).map fun j => .pointer (f j), by simp, fun j v hv => ?_, fun j hj => ⟨f j, by simp [hj], (hf j hj).2⟩⟩
  have hj : j < 32 := by have := (List.getElem?_eq_some_iff.1 hv).1; simpa using this
  have : v = .pointer (f j) := by simpa [hj] using hv.symm
  rw [this]
  exact (hf j hj).1
end Go.Proofs.Ytkpfocgcnehajaa
