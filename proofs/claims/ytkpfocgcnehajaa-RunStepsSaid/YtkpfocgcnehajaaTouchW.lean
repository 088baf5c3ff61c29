/- RunTouches: its walk. By an AI agent. -/
import Derived.Test.YtkpfocgcnehajaaTouchM
import Derived.Test.YtkpfocgcnehajaaRegionInv
import Derived.Test.YtkpfocgcnehajaaLsts
namespace Go.Proofs.Ytkpfocgcnehajaa
open Go.RowKit Pl

theorem tou_alloc (w : World) (o : Obj) : Below w.heap.size w (w.alloc o) := (Below.refl _ _).alloc (Nat.le_refl _) _
theorem tou_form {w : World} {v : Value} {ps : List Ins} (h : ArgP w v ps) : ∃ a c, v = .slice a ps.length c := by
  rcases h with ⟨rfl, rfl | ⟨ad, cap, rfl⟩⟩ | ⟨_, b, off, cap, rfl, _⟩
  · exact ⟨_, _, rfl⟩
  · exact ⟨_, _, rfl⟩
  · exact ⟨_, _, rfl⟩
theorem tun {l : Nat → Bool} {i j : Nat} (h : l j = true → l i = true) (hn : l i = false) : l j = false := by
  cases hj : l j with
  | false => rfl
  | true => rw [h hj] at hn; cases hn
theorem rdepT {md : Region.Mode} {ops : Array Oper} {listed : Array Bool} {i : Nat} {o : Oper} (hi : i ∈ Region.ready md ops listed) (ho : ops[i]? = some o) (e : Edge) (he : e ∈ o.after) (hb : Region.binds md e = true) : listed.getD e.on false = true := by
  obtain ⟨_, o', ho', h⟩ := mem_ready.1 hi
  rw [ho] at ho'
  obtain rfl := Option.some.inj ho'
  exact h e he hb
theorem tstart {n j : Nat} (h : (Array.replicate n false).getD j false = true) : False := by
  rw [Array.getD_eq_getD_getElem?, Array.getElem?_replicate] at h
  split at h <;> simp at h
theorem all_listed2 {md : Region.Mode} {ops : Array Oper} {listed : Array Bool} (hs : listed.size = ops.size)
    (hback : ((List.range ops.size).all fun j => match ops[j]? with | some o => o.after.all (fun e => !(Region.binds md e) || decide (e.on < j)) | none => true) = true) (hr : Region.ready md ops listed = []) : ∀ j, j < ops.size → listed.getD j false = true := by
  have hback : ∀ (j : Nat) (o : Oper), ops[j]? = some o → ∀ e ∈ o.after, Region.binds md e = true → e.on < j := by
    intro j o ho e he hbi
    have h1 := List.all_eq_true.1 hback j (List.mem_range.2 (Array.getElem?_eq_some_iff.1 ho).1)
    rw [ho] at h1
    have h2 := Array.all_eq_true_iff_forall_mem.1 h1 e he
    simpa [hbi] using h2
  intro j
  induction j using Nat.strongRecOn with
  | ind j ih =>
    intro hj
    have hjl : j < listed.size := by omega
    rcases hv : listed[j] with _ | _
    · exfalso
      have : j ∈ Region.ready md ops listed := by
        refine mem_ready.2 ⟨by rw [Array.getD_eq_getD_getElem?, Array.getElem?_eq_getElem hjl]; exact hv, ops[j], Array.getElem?_eq_getElem hj, fun e he hbi => ?_⟩
        have h1 := hback j _ (Array.getElem?_eq_getElem hj) e he hbi
        exact ih e.on h1 (by omega)
      rw [hr] at this; cases this
    · rw [Array.getD_eq_getD_getElem?, Array.getElem?_eq_getElem hjl]; exact hv
def tupd (l : Nat → Bool) (i j : Nat) : Bool := Nat.beq j i || l j
def tput (v : Nat → Value) (s : Nat) (x : Value) (t : Nat) : Value := if t = s then x else v t
theorem tupd_eq {listed : Array Bool} {i : Nat} (hi : i < listed.size) : (fun j => (listed.setIfInBounds i true).getD j false) = tupd (fun j => listed.getD j false) i := by
  funext j
  unfold tupd
  by_cases h : j = i
  · subst h
    simp [Array.getD_eq_getD_getElem?, Array.getElem?_setIfInBounds_self_of_lt hi]
  · have hb : Nat.beq j i = false := by
      rw [Bool.eq_false_iff]; exact fun e => h (Nat.eq_of_beq_eq_true e)
    rw [getD_set_ne false (Ne.symm h), hb]; rfl
theorem tnot {listed : Array Bool} {i : Nat} (h : listed.getD i true = false) : listed.getD i false = false ∧ i < listed.size := by
  have hi : i < listed.size := by
    rcases Nat.lt_or_ge i listed.size with h' | h'
    · exact h'
    · rw [Array.getD_eq_getD_getElem?, Array.getElem?_eq_none h'] at h; cases h
  refine ⟨?_, hi⟩
  rw [Array.getD_eq_getD_getElem?, Array.getElem?_eq_getElem hi] at h ⊢
  exact h
/-- what holds within the region that calls Step, l: what has been carried out -/
structure Tch (W0 : World) (VA AG : Value) (a : Int) (ps : List Ins) (ls ts : List (List UInt8)) (E : Int) (k : Nat) (l : Nat → Bool) (w : World) (v : Nat → Value) : Prop where
  b : Below W0.heap.size W0 w
  f0 : l 0 = true → v 22 = VA
  f1 : l 1 = true → l 4 = false → ArgP w (v 23) ps
  f2 : l 2 = true → v 24 = AG
  f3 : l 3 = true → l 4 = false → ∃ g c, v 25 = .agg #[.int .i64 a, .slice (some ⟨g, 0, none⟩) ls.length c] ∧ StrAt w g 0 ls
  f4 : l 4 = true → ∃ x y, v 26 = .tuple #[.agg #[x, y], .int .i64 E] ∧ RT E k ts w x y ∧ SV x y ∧ (l 9 = true → ∃ g, v 5 = .pointer (some ⟨g, 0, none⟩) ∧ w.cell? ⟨g, 0, none⟩ = some x ∧ w.cell? ⟨g, 1, none⟩ = some y)
  f5 : l 5 = true → v 21 = v 26
  f6 : l 6 = true → ∃ x y e, v 27 = .agg #[x, y] ∧ v 26 = .tuple #[.agg #[x, y], e] ∧ SV x y
  f7 : l 7 = true → v 28 = .int .i64 E
  f8 : l 8 = true → l 9 = false → ∃ g, v 5 = .pointer (some ⟨g, 0, none⟩) ∧ W0.heap.size ≤ g ∧ w.cell? ⟨g, 0, none⟩ = some (.int .i64 0) ∧ w.cell? ⟨g, 1, none⟩ = some (.slice none 0 0) ∧ w.frozen? ⟨g, 0, none⟩ = false ∧ w.frozen? ⟨g, 1, none⟩ = false
  f10 : l 10 = true → v 6 = .int .i64 E
  g5 : l 5 = true → l 4 = true
  g6 : l 6 = true → l 4 = true
  g9 : l 9 = true → l 4 = true ∧ l 8 = true
section
variable {W0 : World} {VA AG : Value} {a : Int} {ps : List Ins} {ls ts : List (List UInt8)} {E : Int} {k : Nat} {l : Nat → Bool} {w : World} {v : Nat → Value}
theorem Tch.later (h : Tch W0 VA AG a ps ls ts E k l w v) {w' : World} (hb : Below w.heap.size w w') : Tch W0 VA AG a ps ls ts E k l w' v :=
  ⟨bstep h.b hb, h.f0, fun i j => (h.f1 i j).below hb, h.f2, fun i j => by
    obtain ⟨g, c, h1, h2⟩ := h.f3 i j
    exact ⟨g, c, h1, h2.below hb⟩, fun i => by
    obtain ⟨x, y, h1, h2, hv, h3⟩ := h.f4 i
    refine ⟨x, y, h1, h2.below hb, hv, fun j => ?_⟩
    obtain ⟨g, h4, h5, h6⟩ := h3 j
    exact ⟨g, h4, cell_keep hb h5, cell_keep hb h6⟩, h.f5, h.f6, h.f7, fun i j => by
    obtain ⟨g, h1, h2, h3, h4, h5, h6⟩ := h.f8 i j
    exact ⟨g, h1, h2, cell_keep hb h3, cell_keep hb h4, (hb.frozen (p := ⟨g, 0, none⟩) (cell_lt h3)).trans h5, (hb.frozen (p := ⟨g, 1, none⟩) (cell_lt h4)).trans h6⟩, h.f10, h.g5, h.g6, h.g9⟩
theorem Tch.s0 (h : Tch W0 VA AG a ps ls ts E k l w v) : Tch W0 VA AG a ps ls ts E k (tupd l 0) w (tput v 22 VA) :=
  ⟨h.b, fun _ => rfl, h.f1, h.f2, h.f3, h.f4, h.f5, h.f6, h.f7, h.f8, h.f10, h.g5, h.g6, h.g9⟩
theorem Tch.s1 (h : Tch W0 VA AG a ps ls ts E k l w v) {x : Value} (hx : ArgP w x ps) : Tch W0 VA AG a ps ls ts E k (tupd l 1) w (tput v 23 x) :=
  ⟨h.b, h.f0, fun _ _ => hx, h.f2, h.f3, h.f4, h.f5, h.f6, h.f7, h.f8, h.f10, h.g5, h.g6, h.g9⟩
theorem Tch.s2 (h : Tch W0 VA AG a ps ls ts E k l w v) : Tch W0 VA AG a ps ls ts E k (tupd l 2) w (tput v 24 AG) :=
  ⟨h.b, h.f0, h.f1, fun _ => rfl, h.f3, h.f4, h.f5, h.f6, h.f7, h.f8, h.f10, h.g5, h.g6, h.g9⟩
theorem Tch.s3 (h : Tch W0 VA AG a ps ls ts E k l w v) {g c : Nat} (hx : StrAt w g 0 ls) : Tch W0 VA AG a ps ls ts E k (tupd l 3) w (tput v 25 (.agg #[.int .i64 a, .slice (some ⟨g, 0, none⟩) ls.length c])) :=
  ⟨h.b, h.f0, h.f1, h.f2, fun _ _ => ⟨g, c, rfl, hx⟩, h.f4, h.f5, h.f6, h.f7, h.f8, h.f10, h.g5, h.g6, h.g9⟩
theorem Tch.s4 (h : Tch W0 VA AG a ps ls ts E k l w v) {x y : Value} (hx : RT E k ts w x y) (hv : SV x y) (h9 : l 9 = false) (h5 : l 5 = false) (h6 : l 6 = false) : Tch W0 VA AG a ps ls ts E k (tupd l 4) w (tput v 26 (.tuple #[.agg #[x, y], .int .i64 E])) :=
  ⟨h.b, h.f0, fun _ e => (by cases (show true = false from e)), h.f2, fun _ e => (by cases (show true = false from e)), fun _ => ⟨x, y, rfl, hx, hv, fun e => (by rw [show l 9 = true from e] at h9; cases h9)⟩, fun e => (by rw [show l 5 = true from e] at h5; cases h5), fun e => (by rw [show l 6 = true from e] at h6; cases h6), h.f7, h.f8, h.f10, fun _ => rfl, fun _ => rfl, fun e => ⟨rfl, (h.g9 e).2⟩⟩
theorem Tch.s5 (h : Tch W0 VA AG a ps ls ts E k l w v) (h4 : l 4 = true) {X : Value} (hX : v 26 = X) : Tch W0 VA AG a ps ls ts E k (tupd l 5) w (tput v 21 X) :=
  ⟨h.b, h.f0, h.f1, h.f2, h.f3, h.f4, fun _ => hX.symm, h.f6, h.f7, h.f8, h.f10, fun _ => h4, h.g6, h.g9⟩
theorem Tch.s6 (h : Tch W0 VA AG a ps ls ts E k l w v) (h4 : l 4 = true) {x y e : Value} (hx : v 26 = .tuple #[.agg #[x, y], e]) (hv : SV x y) : Tch W0 VA AG a ps ls ts E k (tupd l 6) w (tput v 27 (.agg #[x, y])) :=
  ⟨h.b, h.f0, h.f1, h.f2, h.f3, h.f4, h.f5, fun _ => ⟨x, y, e, rfl, hx, hv⟩, h.f7, h.f8, h.f10, h.g5, fun _ => h4, h.g9⟩
theorem Tch.s7 (h : Tch W0 VA AG a ps ls ts E k l w v) : Tch W0 VA AG a ps ls ts E k (tupd l 7) w (tput v 28 (.int .i64 E)) :=
  ⟨h.b, h.f0, h.f1, h.f2, h.f3, h.f4, h.f5, h.f6, fun _ => rfl, h.f8, h.f10, h.g5, h.g6, h.g9⟩
theorem Tch.s8 (h : Tch W0 VA AG a ps ls ts E k l w v) (h9 : l 9 = false) : Tch W0 VA AG a ps ls ts E k (tupd l 8) (w.alloc (.cells #[.int .i64 0, .slice none 0 0] 78)) (tput v 5 (.pointer (some ⟨w.heap.size, 0, none⟩))) := by
  have h' := h.later (tou_alloc w (.cells #[.int .i64 0, .slice none 0 0] 78))
  refine ⟨h'.b, h'.f0, h'.f1, h'.f2, h'.f3, fun i => ?_, h'.f5, h'.f6, h'.f7, fun _ _ => ⟨w.heap.size, rfl, h.b.size, ?_, ?_, ?_, ?_⟩, h'.f10, h'.g5, h'.g6, fun e => ⟨(h'.g9 e).1, rfl⟩⟩
  · obtain ⟨x, y, h1, h2, hv, h3⟩ := h'.f4 i
    exact ⟨x, y, h1, h2, hv, fun e => (by rw [show l 9 = true from e] at h9; cases h9)⟩
  · rw [World.cell?_alloc_new]; rfl
  · rw [World.cell?_alloc_new]; rfl
  · simp
  · simp
theorem Tch.s9 (h : Tch W0 VA AG a ps ls ts E k l w v) (ht : E = 0 → 0 < ts.length) (h4 : l 4 = true) (h8 : l 8 = true) {g : Nat} {x y e : Value} (h5 : v 5 = .pointer (some ⟨g, 0, none⟩)) (hg : W0.heap.size ≤ g) (c0 : w.cell? ⟨g, 0, none⟩ = some (.int .i64 0)) (c1 : w.cell? ⟨g, 1, none⟩ = some (.slice none 0 0)) (h26 : v 26 = .tuple #[.agg #[x, y], e]) :
    Tch W0 VA AG a ps ls ts E k (tupd l 9) ((w.setCell ⟨g, 0, none⟩ x).setCell ⟨g, 1, none⟩ y) v := by
  refine ⟨(h.b.setCell (p := ⟨g, 0, none⟩) hg _).setCell (p := ⟨g, 1, none⟩) hg _, h.f0, fun _ e => (by rw [show l 4 = false from e] at h4; cases h4), h.f2, fun _ e => (by rw [show l 4 = false from e] at h4; cases h4), fun _ => ?_, h.f5, h.f6, h.f7, fun _ e => (by cases (show true = false from e)), h.f10, h.g5, h.g6, fun _ => ⟨h4, h8⟩⟩
  obtain ⟨x', y', h1, h2, hv, h3⟩ := h.f4 h4
  rw [h26] at h1
  simp only [Value.tuple.injEq, Array.mk.injEq, List.cons.injEq, Value.agg.injEq, and_true] at h1
  obtain ⟨⟨rfl, rfl⟩, rfl⟩ := h1
  refine ⟨x, y, h26, h2.put ht c0, hv, fun _ => ⟨g, h5, ?_, ?_⟩⟩
  · rw [set_other (addr_ne (by omega)), set_same c0]
  · refine set_same (u := .slice none 0 0) ?_
    rw [set_other (addr_ne (by omega)), c1]
theorem Tch.s10 (h : Tch W0 VA AG a ps ls ts E k l w v) : Tch W0 VA AG a ps ls ts E k (tupd l 10) w (tput v 6 (.int .i64 E)) :=
  ⟨h.b, h.f0, h.f1, h.f2, h.f3, h.f4, h.f5, h.f6, h.f7, h.f8, fun _ => rfl, h.g5, h.g6, h.g9⟩
end
theorem Try.infoBool1 : (Try.prog.info? 4).map (fun i => (i.zero, i.size, i.bytes)) = some (some (.bool false), 1, 1) := by kernel_rfl
/-- a row of 32 truths -/
def BoolAt (w : World) (G : Nat) (bs : Nat → Bool) : Prop := G < w.heap.size ∧ (∀ j, j < 32 → w.cell? ⟨G, j, none⟩ = some (.bool (bs j))) ∧ ∀ j, w.frozen? ⟨G, j, none⟩ = false
theorem BoolAt.made {w : World} {G : Nat} {e : TypeId} (h : w.ownsRow G e 1 (.slice (some ⟨G, 0, none⟩) 32 32) 32 (madeCells (Value.cells (.bool false)) (32 * 1)).toList) : BoolAt w G (fun _ => false) := by
  refine ⟨(h.lt G rfl).2, fun j hj => ?_, fun j => ?_⟩
  · rw [h.cellAt j (by omega)]
    simp [madeCells, Value.cells, hj, Nat.mod_one]
  · rcases h.2 with ⟨h', _⟩ | ⟨g, cap, cur, h', hb, hg, _⟩
    · simp at h'
    · simp only [Value.slice.injEq, Option.some.injEq, Addr.mk.injEq, and_true, true_and] at h'
      obtain ⟨rfl, rfl⟩ := h'
      exact Lib.frozen_of_heap hg j
theorem BoolAt.set {w : World} {G q : Nat} {bs : Nat → Bool} (h : BoolAt w G bs) (hq : q < 32) : BoolAt (w.setCell ⟨G, q, none⟩ (.bool true)) G (fun j => decide (j = q) || bs j) := by
  refine ⟨by simpa using h.1, fun j hj => ?_, fun j => by rw [World.frozen?_setCell]; exact h.2.2 j⟩
  by_cases e : j = q
  · subst e; rw [set_same (h.2.1 j hj)]; simp
  · rw [set_other (addr_ne (Ne.symm e)), h.2.1 j hj]; simp [e]
/-- what is known of the registers that occur, behind n instructions -/
def Occ (ps : List Ins) (n : Nat) (bs : Nat → Bool) : Prop := ∀ (i : Nat) (x : Ins) (q : Nat), i < n → ps[i]? = some x → x.op ≠ 5 → x.a = (q : Int) → q < 32 → bs q = true
theorem tou_nth {ps : List Ins} {n : Nat} (h : n < ps.length) : ∃ x, ps[n]? = some x := ⟨ps[n], List.getElem?_eq_getElem h⟩
def AwkP (w : World) (e : Ending) (w' : World) : Prop := e = .returned (.bool true) ∧ Below w.heap.size w w'
end Go.Proofs.Ytkpfocgcnehajaa
