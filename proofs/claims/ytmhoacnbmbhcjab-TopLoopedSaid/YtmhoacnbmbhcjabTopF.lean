/- narcissustop: follow. By an AI agent. -/
import Derived.Test.YtmhoacnbmbhcjabTopW
import Derived.Test.YtmhoacnbmbhcjabRunB
namespace Go.Proofs.Ytmhoacnbmbhcjab
open Go.RowKit Pl

/-- how many characters the registers have together -/
def tot (s : St) : Nat := (s.regs.map fun t => (tx t).length).sum
theorem sum_set : ∀ (l : List Tr) (a : Nat) (t : Tr) (h : a < l.length), (((l.set a t).map fun t => (tx t).length).sum : Int) = ((l.map fun t => (tx t).length).sum : Int) + ((tx t).length : Int) - ((tx l[a]).length : Int) := by
  intro l
  induction l with
  | nil => intro a t h; exact absurd h (by simp)
  | cons x l ih =>
    intro a t h
    cases a with
    | zero => simp; omega
    | succ a =>
      have h1 := ih a t (by simpa using h)
      simp only [List.set_cons_succ, List.map_cons, List.sum_cons, List.getElem_cons_succ]
      push_cast
      omega
theorem tot_put {s : St} {n : Nat} (hs : s.ok n) {a : Nat} (ha : a < 32) (t : Tr) (k : Nat) : (tot ⟨k, s.regs.set a t⟩ : Int) = (tot s : Int) + ((tx t).length : Int) - ((tx (s.regs[a]?.getD .nil)).length : Int) := by
  have hl : a < s.regs.length := by rw [hs.2.1]; exact ha
  have h1 := sum_set s.regs a t hl
  rw [List.getElem?_eq_getElem hl]
  exact h1
theorem sum_le : ∀ (l : List Tr) (B : Nat), (∀ t ∈ l, (tx t).length ≤ B) → (l.map fun t => (tx t).length).sum ≤ l.length * B := by
  intro l B
  induction l with
  | nil => intro _; simp
  | cons x l ih =>
    intro h
    have h1 := ih fun t ht => h t (by simp [ht])
    have h2 := h x (by simp)
    simp only [List.map_cons, List.sum_cons, List.length_cons]
    rw [Nat.add_mul]; omega
theorem tot_le {s : St} {n : Nat} (hs : s.ok n) : tot s ≤ 64000000 := by
  have h1 := sum_le s.regs 2000000 hs.2.2
  rw [hs.2.1] at h1
  exact h1
/-- a run, and the greatest number of characters that the registers have together in a state of it -/
inductive PeakS (ps : List Ins) (s0 : St) : Nat → St → Int → Prop
  | zero : PeakS ps s0 0 s0 (tot s0)
  | succ {n : Nat} {s t : St} {m : Int} (h : PeakS ps s0 n s m) (he : s.at_ ≠ ps.length) (hs : stepP ps s = some t) : PeakS ps s0 (n + 1) t (max m (tot t))
theorem PeakS.steps {ps : List Ins} {s0 s : St} {n : Nat} {m : Int} (h : PeakS ps s0 n s m) : Steps ps s0 n s := by
  induction h with
  | zero => exact .zero
  | succ _ he hs ih => exact .succ ih he hs
theorem PeakS.bound {ps : List Ins} {s0 s : St} {n : Nat} {m : Int} (h : PeakS ps s0 n s m) (hv : PValid ps) (h0 : s0.ok ps.length) : 0 ≤ m ∧ m ≤ 64000000 := by
  induction h with
  | zero => have := tot_le h0; omega
  | @succ n s t m h he hs ih =>
    have h1 := (Steps.succ h.steps he hs).ok hv h0
    have := tot_le h1
    omega
/-- what follow's registers and trees are in memory -/
structure TM (w : World) (R C : Nat) (ps : List Ins) (s : St) : Prop where
  regs : ∀ r, r < 32 → ∃ x, w.cell? ⟨R, r, none⟩ = some (.pointer x) ∧ NodeW 106 w (s.regs[r]?.getD .nil) (.pointer x)
  trees : ∀ k x, ps[k]? = some x → x.op = 0 → ∃ y, w.cell? ⟨C, k, none⟩ = some (.pointer y) ∧ NodeW 106 w (rd x.tree) (.pointer y)
  tagR : TagB w R 133
  free : ∀ o, w.frozen? ⟨R, o, none⟩ = false
  tagC : TagB w C 65
theorem TM.below {w w' : World} {R C : Nat} {ps : List Ins} {s : St} (h : TM w R C ps s) (hb : Below w.heap.size w w') : TM w' R C ps s where
  regs := fun r hr => by obtain ⟨x, h1, h2⟩ := h.regs r hr; exact ⟨x, cell_keep hb h1, NodeW.below h2 hb⟩
  trees := fun k x hx h0 => by obtain ⟨y, h1, h2⟩ := h.trees k x hx h0; exact ⟨y, cell_keep hb h1, NodeW.below h2 hb⟩
  tagR := by obtain ⟨D, fr, h1⟩ := h.tagR; exact ⟨D, fr, (hb.block R h.tagR.lt).trans h1⟩
  free := fun o => (hb.frozen (p := ⟨R, o, none⟩) h.tagR.lt).trans (h.free o)
  tagC := by obtain ⟨D, fr, h1⟩ := h.tagC; exact ⟨D, fr, (hb.block C h.tagC.lt).trans h1⟩
theorem TM.put {w : World} {R C : Nat} {ps : List Ins} {s : St} {n : Nat} (h : TM w R C ps s) (hs : s.ok n) {a : Nat} (ha : a < 32) {t : Tr} {Y : Option Addr} (hy : NodeW 106 w t (.pointer Y)) (k : Nat) : TM (w.setCell ⟨R, a, none⟩ (.pointer Y)) R C ps ⟨k, s.regs.set a t⟩ := by
  have hk : KeepT 106 w (w.setCell ⟨R, a, none⟩ (.pointer Y)) := KeepT.setCell (h.tagR.ne (by decide)) _
  have hRC : R ≠ C := fun e => by have h1 := h.tagC; rw [← e] at h1; exact h.tagR.ne (τ := 65) (by decide) h1
  refine ⟨fun r hr => ?_, fun k x hx h0 => ?_, tag_set h.tagR _ _, fun o => by rw [World.frozen?_setCell]; exact h.free o, tag_set h.tagC _ _⟩
  · by_cases e : r = a
    · subst e
      obtain ⟨x, h1, _⟩ := h.regs r hr
      refine ⟨Y, set_same h1, ?_⟩
      rw [List.getElem?_set_self (by rw [hs.2.1]; exact hr)]
      exact NodeW.keep hy hk
    · obtain ⟨x, h1, h2⟩ := h.regs r hr
      refine ⟨x, (set_other (addr_ne (fun e2 => e e2.symm))).trans h1, ?_⟩
      show NodeW _ _ (((s.regs.set a t)[r]?).getD .nil) _
      rw [List.getElem?_set_ne (fun e2 => e e2.symm)]
      exact NodeW.keep h2 hk
  · obtain ⟨y, h1, h2⟩ := h.trees k x hx h0
    exact ⟨y, (set_other (fun e => hRC (by injection e))).trans h1, NodeW.keep h2 hk⟩
/-- the trees of the first k instructions -/
def TTo (w : World) (ps : List Ins) (k : Nat) (ys : List Value) : Prop := ∀ j x, j < k → ps[j]? = some x → x.op = 0 → ∃ y, ys[j]? = some (.pointer y) ∧ NodeW 106 w (rd x.tree) (.pointer y)
def nil32 : Array Value := #[.pointer none, .pointer none, .pointer none, .pointer none, .pointer none, .pointer none, .pointer none, .pointer none, .pointer none, .pointer none, .pointer none, .pointer none, .pointer none, .pointer none, .pointer none, .pointer none, .pointer none, .pointer none, .pointer none, .pointer none, .pointer none, .pointer none, .pointer none, .pointer none, .pointer none, .pointer none, .pointer none, .pointer none, .pointer none, .pointer none, .pointer none, .pointer none]
theorem nil32_at : ∀ r, r < 32 → nil32[r]? = some (.pointer none) := by
  intro r hr
  match r, hr with
  | 0, _ | 1, _ | 2, _ | 3, _ | 4, _ | 5, _ | 6, _ | 7, _ | 8, _ | 9, _ | 10, _ | 11, _ | 12, _ | 13, _ | 14, _ | 15, _ | 16, _ | 17, _ | 18, _ | 19, _ | 20, _ | 21, _ | 22, _ | 23, _ | 24, _ | 25, _ | 26, _ | 27, _ | 28, _ | 29, _ | 30, _ | 31, _ => rfl
  | k + 32, h => exact absurd h (by omega)
/-- what follow returns -/
def FollowOut (w : World) (ps : List Ins) (x : Tr) (K : Nat) (e : Ending) (w' : World) : Prop :=
  Below w.heap.size w w' ∧
  ((∃ n s m Y, PeakS ps (first x) n s m ∧ n ≤ K ∧ s.at_ = ps.length ∧ e = .returned (.tuple #[.pointer Y, .int .i64 (n : Int), .int .i64 0, .int .i64 m]) ∧ NodeW 106 w' (s.reg 0) (.pointer Y)) ∨
   (∃ s m, PeakS ps (first x) K s m ∧ s.at_ ≠ ps.length ∧ e = .returned (.tuple #[.pointer none, .int .i64 (K : Int), .int .i64 1, .int .i64 m])) ∨
   (∃ n s m, PeakS ps (first x) n s m ∧ n < K ∧ s.at_ ≠ ps.length ∧ stepP ps s = none ∧ e = .returned (.tuple #[.pointer none, .int .i64 (n : Int), .int .i64 2, .int .i64 2000000])))
theorem tm_start {w wr : World} {R C : Nat} {ps : List Ins} {ys : List Value} {X : Option Addr} {x : Tr} (hR : wr.heap[R]? = some (.cells nil32 133 (0, 0))) (hC : wr.ownsRow (w.heap.size + 1) 65 1 (.slice (some ⟨C, 0, none⟩) ps.length ps.length) ps.length ys) (hT : TTo wr ps ps.length ys) (hX : NodeW 106 wr x (.pointer X)) :
    TM (wr.setCell ⟨R, 0, none⟩ (.pointer X)) R C ps (first x) := by
  have h0 : TM wr R C ps st0 := {
    regs := fun r hr => ⟨none, by rw [Lib.cell_of_heap hR r, nil32_at r hr], by
      show NodeW _ _ ((List.replicate 32 Tr.nil)[r]?.getD .nil) _
      rw [List.getElem?_replicate, if_pos hr]; rfl⟩
    trees := fun k x hx h0 => by
      have hk : k < ps.length := (List.getElem?_eq_some_iff.1 hx).1
      obtain ⟨y, h1, h2⟩ := hT k x hk hx h0
      exact ⟨y, by rw [hC.cellAt k (by omega), h1], h2⟩
    tagR := ⟨_, (), hR⟩
    free := fun o => Lib.frozen_of_heap hR o
    tagC := own_tag hC rfl }
  have h1 := h0.put (n := ps.length) ⟨Nat.zero_le _, st0_len, fun t ht => by have := List.eq_of_mem_replicate ht; subst this; simp [tx]⟩ (a := 0) (by omega) hX 0
  exact h1
theorem tot_first (x : Tr) : tot (first x) = (tx x).length + 31 := by
  unfold tot first
  simp [tx]
end Go.Proofs.Ytmhoacnbmbhcjab
