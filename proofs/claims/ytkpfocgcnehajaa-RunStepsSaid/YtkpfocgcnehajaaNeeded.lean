/- Package run: the registers that a step needs. By an AI agent. -/
import Derived.Test.YtkpfocgcnehajaaSameS
namespace Go.Proofs.Ytkpfocgcnehajaa
open Go.RowKit Pl

/-- the registers that a step needs -/
def needs (x : Ins) : List Int := if x.op = 0 then [] else if x.op = 2 then [x.b, x.c] else if x.op = 5 then [x.a] else [x.b]
/-- numbers in a slice's memory -/
def IntRow (w : World) (G : Nat) (zs : List Int) : Prop := G < w.heap.size ∧ ∀ j, j < zs.length → w.cell? ⟨G, j, none⟩ = some (.int .i64 (zs.getD j 0))
def NeedOut (w : World) (x : Ins) (e : Ending) (w' : World) : Prop :=
  Below w.heap.size w w' ∧ ((needs x = [] ∧ e = .returned (.slice none 0 0)) ∨ ∃ G, 0 < (needs x).length ∧ e = .returned (.slice (some ⟨G, 0, none⟩) (needs x).length (needs x).length) ∧ w.heap.size ≤ G ∧ IntRow w' G (needs x))
theorem int_row (W : World) (zs : List Int) (vs : Array Value) (τ : TypeId) (h : vs = (zs.map fun z => Value.int .i64 z).toArray) : IntRow (W.alloc (.cells vs τ)) W.heap.size zs := by
  subst h
  refine ⟨by simp, fun j hj => ?_⟩
  rw [World.cell?_alloc_new]
  simp [List.getD, hj]
theorem need_two (w : World) (ob : Obj) (x : Ins) (h0 : 0 < (needs x).length) (vs : Array Value) (τ : TypeId) (h : vs = ((needs x).map fun z => Value.int .i64 z).toArray) (e : Ending) (he : e = .returned (.slice (some ⟨w.heap.size + 1, 0, none⟩) (needs x).length (needs x).length)) : NeedOut w x e ((w.alloc ob).alloc (.cells vs τ)) := by
  refine ⟨((Below.refl _ _).alloc (Nat.le_refl _) _).alloc (by simp) _, .inr ⟨w.heap.size + 1, h0, he, by omega, ?_⟩⟩
  have h1 := int_row (w.alloc ob) (needs x) vs τ h
  simpa using h1
set_option maxHeartbeats 1600000 in
set_option maxRecDepth 100000 in
theorem needed_any (w : World) (x : Ins) : Calls Try.prog 104 #[.agg #[.int .i64 x.op, .int .i64 x.a, .int .i64 x.b, .int .i64 x.c, .string (S x.tree)]] w (NeedOut w x) := by
  obtain ⟨op, a, b, c, tr⟩ := x
  by_cases h0 : op = 0
  · subst h0
    go_enter Try.func104, Try.ntmps104
    go_wp2
    go_ret
    exact ⟨(Below.refl _ _).alloc (Nat.le_refl _) _, .inl ⟨rfl, rfl⟩⟩
  · by_cases h2 : op = 2
    · subst h2
      go_enter Try.func104, Try.ntmps104
      go_wp2
      go_ret
      exact need_two w _ ⟨2, a, b, c, tr⟩ (by simp [needs]) _ _ rfl _ rfl
    · by_cases h5 : op = 5
      · subst h5
        go_enter Try.func104, Try.ntmps104
        go_wp2
        go_ret
        exact need_two w _ ⟨5, a, b, c, tr⟩ (by simp [needs]) _ _ rfl _ rfl
      · have e0 : (op == 0) = false := beq_eq_false_iff_ne.2 h0
        have e2 : (op == 2) = false := beq_eq_false_iff_ne.2 h2
        have e5 : (op == 5) = false := beq_eq_false_iff_ne.2 h5
        go_enter Try.func104, Try.ntmps104
        go_wp2
        go_ret
        have hn : needs ⟨op, a, b, c, tr⟩ = [b] := by simp [needs, h0, h2, h5]
        exact need_two w _ ⟨op, a, b, c, tr⟩ (by rw [hn]; exact Nat.one_pos) _ _ (by rw [hn]; rfl) _ (by rw [hn]; rfl)
end Go.Proofs.Ytkpfocgcnehajaa
