/- The law's peak and given. By an AI agent. -/
import Derived.Test.YtmhoacnbmbhcjaaGreatDoorRMc
import Derived.Test.YtmhoacnbmbhcjaaGreatDoorUnv
import Derived.StillTailTactics
namespace Go.Proofs.YtmhoacnbmbhcjaaGreatDoor
open Go.RowKit Pl

theorem results_tmp4 {fn : Func} {t u v x : Tmp} (h : fn.results = #[.tmp t, .tmp u, .tmp v, .tmp x]) (tmps : Array Value) (P : Program) (w : World) :
    (results fn tmps).run P w = .ok (.tuple #[tmps.getD t undef, tmps.getD u undef, tmps.getD v undef, tmps.getD x undef]) w := by
  simp [results, h]
theorem totT_cons1 (t : Tr) (ts : List Tr) : totT (t :: ts) = (tx t).length + totT ts := by simp [totT]
theorem totT_step : ∀ (l : List Tr) (r : Nat), r < l.length → totT (l.take (r + 1)) = totT (l.take r) + (tx (l[r]?.getD .nil)).length
  | [], r, h => by simp at h
  | t :: ts, 0, _ => by simp [totT]
  | t :: ts, r + 1, h => by
    simp only [List.take_succ_cons, totT_cons1, List.getElem?_cons_succ]
    rw [totT_step ts r (by simpa using h)]; omega
theorem totT_le : ∀ (l : List Tr), (∀ t ∈ l, (tx t).length ≤ 2000000) → totT l ≤ 2000000 * l.length
  | [], _ => by simp [totT]
  | t :: ts, h => by
    rw [totT_cons1, List.length_cons]
    have h1 := h t (by simp)
    have h2 := totT_le ts fun u hu => h u (by simp [hu])
    omega
theorem totT_take_le (l : List Tr) (r : Nat) (h : ∀ t ∈ l, (tx t).length ≤ 2000000) (hl : l.length = 32) : totT (l.take r) ≤ 64000000 := by
  have h1 := totT_take l r
  have h2 := totT_le l h
  rw [hl] at h2
  omega
/-- what peak returns -/
def RPeakOut (w : World) (ps : List Ins) (t : Tr) (K : Nat) (e : Ending) (w' : World) : Prop :=
  Below w.heap.size w w' ∧ ∃ most : Nat, most ≤ 64000000 ∧ match runTo ps K (first t) with
    | some (st, n) => (∀ j s, j ≤ n → Steps ps (first t) j s → totT s.regs ≤ most) ∧ ((st.at_ = ps.length ∧ ∃ x, e = .returned (.tuple #[x, .int .i64 (n : Int), .int .i64 0, .int .i64 (most : Int)]) ∧ NodeW 42 w' (st.reg 0) x) ∨ (st.at_ ≠ ps.length ∧ e = .returned (.tuple #[.pointer none, .int .i64 0, .int .i64 7, .int .i64 (most : Int)])))
    | none => e = .returned (.tuple #[.pointer none, .int .i64 0, .int .i64 3, .int .i64 (most : Int)])
/-- what given returns -/
def RGivenOut (w : World) (ps : List Ins) (t : Tr) (e : Ending) (w' : World) : Prop :=
  Below w.heap.size w w' ∧ ∃ v, e = .returned v ∧ ((2000000 < (tx (.pair (lst (codeL ps)) t)).length ∧ v = .pointer none) ∨ ((tx (.pair (lst (codeL ps)) t)).length ≤ 2000000 ∧ NodeW 42 w' (.pair (lst (codeL ps)) t) v))
theorem S_toList (l : List UInt8) : (S l).data.toList = l := by simp
end Go.Proofs.YtmhoacnbmbhcjaaGreatDoor
