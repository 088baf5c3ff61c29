/- RunSteps: its walk. By an AI agent. -/
import Derived.Test.YtkpfocgcnehajaaFirst
import Derived.Test.YtkpfocgcnehajaaTouch
import Derived.Test.YtkpfocgcnehajaaTouchW
import Derived.Test.YtkpfocgcnehajaaRReadS
import Derived.Test.YtkpfocgcnehajaaRRun
import Derived.Test.YtkpfocgcnehajaaSameS
import Derived.Test.YtkpfocgcnehajaaSameP
import Derived.Test.YtkpfocgcnehajaaRegionInv
import Derived.Deep.Upon
namespace Go.Proofs.Ytkpfocgcnehajaa
open Go.RowKit Pl

theorem RegsP.form {w : World} {v : Value} {ls : List (List UInt8)} (h : RegsP w v ls) : ∃ A c, v = .slice A ls.length c := by
  rcases h with ⟨rfl, rfl | ⟨ad, cap, rfl⟩⟩ | ⟨_, b, off, cap, rfl, _⟩
  · exact ⟨_, _, rfl⟩
  · exact ⟨_, _, rfl⟩
  · exact ⟨_, _, rfl⟩
theorem box_far {w : World} {g b o : Nat} {s : ByteArray} {ty : TypeId} {fr : Nat × Nat} (hm : w.heap[g]? = some (Obj.cells #[.int .i64 0, .slice none 0 0] ty fr)) (h : w.cell? ⟨b, o, none⟩ = some (.string s)) : b ≠ g := by
  rintro rfl
  simp only [World.cell?, hm] at h
  rcases o with _ | _ | o <;> simp at h
theorem ArgP.box {w : World} {g : Nat} {v x y : Value} {ps : List Ins} {ty : TypeId} {fr : Nat × Nat} (h : ArgP w v ps) (hm : w.heap[g]? = Option.some (Obj.cells #[.int .i64 0, .slice none 0 0] ty fr)) : ArgP ((w.setCell ⟨g, 0, none⟩ x).setCell ⟨g, 1, none⟩ y) v ps := by
  rcases h with h | ⟨h0, b, off, cap, rfl, hc⟩
  · exact .inl h
  · refine .inr ⟨h0, b, off, cap, rfl, by simpa using hc.1, fun k z hk => ?_⟩
    have h1 := hc.2 k z hk
    have hne := box_far hm h1.2.2.2.2
    have e : ∀ o j, (⟨g, o, none⟩ : Addr) ≠ ⟨b, j, none⟩ := fun o j e => by injection e with e1; exact hne e1.symm
    simpa only [set_other (e _ _)] using h1
theorem RegsP.box {w : World} {g : Nat} {v x y : Value} {ls : List (List UInt8)} {ty : TypeId} {fr : Nat × Nat} (h : RegsP w v ls) (hm : w.heap[g]? = some (Obj.cells #[.int .i64 0, .slice none 0 0] ty fr)) : RegsP ((w.setCell ⟨g, 0, none⟩ x).setCell ⟨g, 1, none⟩ y) v ls := by
  rcases h with h | ⟨h0, b, off, cap, rfl, hc⟩
  · exact .inl h
  · have hne := box_far hm (hc.2 0 h0)
    have e : ∀ o j, (⟨g, o, none⟩ : Addr) ≠ ⟨b, j, none⟩ := fun o j e => by injection e with e1; exact hne e1.symm
    exact .inr ⟨h0, b, off, cap, rfl, by simpa using hc.1, fun k hk => by rw [set_other (e _ _), set_other (e _ _)]; exact hc.2 k hk⟩
theorem RegsP.keep {w w' : World} {v : Value} {ls : List (List UInt8)} (h : RegsP w v ls) (hb : Below w.heap.size w w') : RegsP w' v ls := h.below hb
/-- what holds within the region that keeps copies of the program and of the state, l: what has been carried out -/
structure Rg1 (W0 : World) (VA AG : Value) (a : Int) (ps : List Ins) (ls : List (List UInt8)) (l : Nat → Bool) (w : World) (v : Nat → Value) : Prop where
  b : Below W0.heap.size W0 w
  f0 : l 0 = true → v 15 = VA
  f1 : l 1 = true → ArgP w (v 16) ps
  f2 : l 2 = true → v 17 = AG
  f3 : l 3 = true → ∃ rg, v 18 = .agg #[.int .i64 a, rg] ∧ RegsP w rg ls
  f4 : l 4 = true → l 6 = false → ∃ g, v 8 = .pointer (some ⟨g, 0, none⟩) ∧ W0.heap.size ≤ g ∧ w.heap[g]? = some (.cells #[.int .i64 0, .slice none 0 0] 78 (0, 0))
  f5 : l 5 = true → v 7 = v 16
  f6 : l 6 = true → ∃ g rg, v 8 = .pointer (some ⟨g, 0, none⟩) ∧ w.cell? ⟨g, 0, none⟩ = some (.int .i64 a) ∧ w.cell? ⟨g, 1, none⟩ = some rg ∧ RegsP w rg ls
  g5 : l 5 = true → l 1 = true
  g6 : l 6 = true → l 3 = true ∧ l 4 = true
section
variable {W0 : World} {VA AG : Value} {a : Int} {ps : List Ins} {ls : List (List UInt8)} {l : Nat → Bool} {w : World} {v : Nat → Value}
theorem Rg1.later (h : Rg1 W0 VA AG a ps ls l w v) {w' : World} (hb : Below w.heap.size w w') : Rg1 W0 VA AG a ps ls l w' v :=
  ⟨bstep h.b hb, h.f0, fun i => (h.f1 i).below hb, h.f2, fun i => by
    obtain ⟨rg, h1, h2⟩ := h.f3 i
    exact ⟨rg, h1, h2.below hb⟩, fun i j => by
    obtain ⟨g, h1, h2, h3⟩ := h.f4 i j
    exact ⟨g, h1, h2, (hb.block g (Array.getElem?_eq_some_iff.1 h3).1).trans h3⟩, h.f5, fun i => by
    obtain ⟨g, rg, h1, h2, h3, h4⟩ := h.f6 i
    exact ⟨g, rg, h1, cell_keep hb h2, cell_keep hb h3, h4.below hb⟩, h.g5, h.g6⟩
theorem Rg1.s0 (h : Rg1 W0 VA AG a ps ls l w v) : Rg1 W0 VA AG a ps ls (tupd l 0) w (tput v 15 VA) :=
  ⟨h.b, fun _ => rfl, h.f1, h.f2, h.f3, h.f4, h.f5, h.f6, h.g5, h.g6⟩
theorem Rg1.s1 (h : Rg1 W0 VA AG a ps ls l w v) (h5 : l 5 = false) {x : Value} (hx : ArgP w x ps) : Rg1 W0 VA AG a ps ls (tupd l 1) w (tput v 16 x) :=
  ⟨h.b, h.f0, fun _ => hx, h.f2, h.f3, h.f4, fun e => (by rw [show l 5 = true from e] at h5; cases h5), h.f6, fun _ => rfl, h.g6⟩
theorem Rg1.s2 (h : Rg1 W0 VA AG a ps ls l w v) : Rg1 W0 VA AG a ps ls (tupd l 2) w (tput v 17 AG) :=
  ⟨h.b, h.f0, h.f1, fun _ => rfl, h.f3, h.f4, h.f5, h.f6, h.g5, h.g6⟩
theorem Rg1.s3 (h : Rg1 W0 VA AG a ps ls l w v) (h6 : l 6 = false) {rg : Value} (hx : RegsP w rg ls) : Rg1 W0 VA AG a ps ls (tupd l 3) w (tput v 18 (.agg #[.int .i64 a, rg])) :=
  ⟨h.b, h.f0, h.f1, h.f2, fun _ => ⟨rg, rfl, hx⟩, h.f4, h.f5, fun e => (by rw [show l 6 = true from e] at h6; cases h6), h.g5, fun e => ⟨rfl, (h.g6 e).2⟩⟩
theorem Rg1.s4 (h : Rg1 W0 VA AG a ps ls l w v) (h6 : l 6 = false) : Rg1 W0 VA AG a ps ls (tupd l 4) (w.alloc (.cells #[.int .i64 0, .slice none 0 0] 78)) (tput v 8 (.pointer (some ⟨w.heap.size, 0, none⟩))) := by
  have h' := h.later (tou_alloc w (.cells #[.int .i64 0, .slice none 0 0] 78))
  exact ⟨h'.b, h'.f0, h'.f1, h'.f2, h'.f3, fun _ _ => ⟨w.heap.size, rfl, h.b.size, heap_alloc_new w _⟩, h'.f5, fun e => (by rw [show l 6 = true from e] at h6; cases h6), h'.g5, fun e => ⟨(h'.g6 e).1, rfl⟩⟩
theorem Rg1.s5 (h : Rg1 W0 VA AG a ps ls l w v) (h1 : l 1 = true) {X : Value} (hX : v 16 = X) : Rg1 W0 VA AG a ps ls (tupd l 5) w (tput v 7 X) :=
  ⟨h.b, h.f0, h.f1, h.f2, h.f3, h.f4, fun _ => hX.symm, h.f6, fun _ => h1, h.g6⟩
theorem Rg1.s6 (h : Rg1 W0 VA AG a ps ls l w v) (h3 : l 3 = true) (h4 : l 4 = true) {g : Nat} {rg : Value} (h8 : v 8 = .pointer (some ⟨g, 0, none⟩)) (hg : W0.heap.size ≤ g) (hm : w.heap[g]? = some (Obj.cells #[.int .i64 0, .slice none 0 0] 78 (0, 0))) (h18 : v 18 = .agg #[.int .i64 a, rg]) :
    Rg1 W0 VA AG a ps ls (tupd l 6) ((w.setCell ⟨g, 0, none⟩ (.int .i64 a)).setCell ⟨g, 1, none⟩ rg) v := by
  obtain ⟨rg', e18, hr⟩ := h.f3 h3
  rw [h18] at e18
  simp only [Value.agg.injEq, Array.mk.injEq, List.cons.injEq, and_true, true_and] at e18
  subst e18
  have c0 := Lib.cell_of_heap hm 0; have c1 := Lib.cell_of_heap hm 1
  refine ⟨(h.b.setCell (p := ⟨g, 0, none⟩) hg _).setCell (p := ⟨g, 1, none⟩) hg _, h.f0, fun i => (h.f1 i).box hm, h.f2, fun i => ⟨rg, h18, hr.box hm⟩, fun _ e => (by cases (show true = false from e)), h.f5, fun _ => ⟨g, rg, h8, ?_, ?_, hr.box hm⟩, h.g5, fun _ => ⟨h3, h4⟩⟩
  · rw [set_other (addr_ne (by omega)), set_same c0]
  · refine set_same (u := .slice none 0 0) ?_
    rw [set_other (addr_ne (by omega)), c1]; rfl
end
theorem rsame_zero (w : World) (A A2 : Option Addr) (c c2 : Nat) :
    Calls Try.prog 107 #[.slice A 0 c, .slice A2 0 c2] w fun e w' => e = .returned (.bool true) ∧ Below w.heap.size w w' := by
  go_enter Try.func107, Try.ntmps107
  go_wp2
  go_loopw [5] (fun i wr => i = .int .i64 0 ∧ wr = w) (fun i _ => 0)
  case atStart => exact ⟨rfl, rfl⟩
  case round =>
    obtain ⟨rfl, rfl⟩ := hrel
    go_wp2
    go_ret
    exact ⟨rfl, Below.refl _ _⟩
theorem SameState_regs (w : World) (a : Int) (v1 v2 : Value) (ls : List (List UInt8)) (h1 : RegsP w v1 ls) (h2 : RegsP w v2 ls) (hm : ls.length ≤ 281474976710656) :
    Calls Try.prog 56 #[.agg #[.int .i64 a, v1], .agg #[.int .i64 a, v2]] w fun e w' => e = .returned (.bool true) ∧ Below w.heap.size w w' := by
  obtain ⟨A1, c1, e1⟩ := h1.form; obtain ⟨A2, c2, e2⟩ := h2.form
  rcases h1 with ⟨h0, _⟩ | ⟨h0, b, off, cap, rfl, hc⟩
  · subst h0; subst e1; subst e2
    clear h2 hm
    have HS := Lib.hid fun W => rsame_zero W A1 A2 c1 c2
    go_enter Try.func56, Try.ntmps56
    go_wp2_with fail
    have hb : Below w.heap.size w ((w.alloc (.cells #[.int .i64 a, .slice A1 0 c1] 78)).alloc (.cells #[.int .i64 a, .slice A2 0 c2] 78)) := ((Below.refl _ _).alloc (Nat.le_refl _) _).alloc (by simp) _
    refine (HS.out _).mono ?_
    rintro e w1 ⟨rfl, h1⟩
    have h2 := bstep hb h1
    clear hb h1
    go_wp2
    go_ret
    exact ⟨rfl, h2⟩
  · rcases h2 with ⟨h9, _⟩ | ⟨_, b2, off2, cap2, rfl, hc2⟩
    · rw [h9] at h0; simp at h0
    · exact SameState_yes w a b off cap b2 off2 cap2 ls hc hc2 hm
theorem step_append_nothing {P : Program} {ops : Array Oper} {o : Oper} {a : Act} {w : World} {K : Act → World → Prop} {Q : Exit → Act → World → Prop} {E : Prop} (hgd : o.guard = none) (sl x : Operand) (t u : TypeId)
    (ho : o.op = .call { callee := .builtin .append, args := #[sl, x], argTypes := #[t, u] })
    (e e' : TypeId) (i : TypeInfo) (ht : P.underlying t = some (.slice e)) (hu : P.underlying u = some (.slice e')) (hi : P.info? e = some i) (base : Option Addr) (sCap : Nat) (hs : a.eval sl = .slice base 0 sCap) (A : Option Addr) (c : Nat) (hx : a.eval x = .slice A 0 c)
    (h : K (a.put o.dst (.slice base 0 sCap)) w) :
    if Region.wanted o (yielded ops a.tmps) = true then Oper.wp P o a w K Q else E := by
  have hw : Region.wanted o (yielded ops a.tmps) = true := by simp [Region.wanted, hgd]
  rw [if_pos hw]
  have hr : (Builtin.append_ #[t, u] o.type #[.slice base 0 sCap, .slice A 0 c]).run P w = .ok (.slice base 0 sCap) w :=
    _root_.Go.run_append_nothing w t u o.type e i ht hi base 0 sCap (Nat.zero_le _) _ ⟨.inl ⟨e', hu⟩, fun w' => by cases A <;> simp [Builtin.lenOf], by cases A <;> simp [Builtin.firstCells, loadCells, loadCellsFrom], by cases A <;> simp [Builtin.firstCells, loadCells, loadCellsFrom], by simp, by simp⟩
  unfold Oper.wp execOp
  simp only [ho, resolve, invoke, builtin, Sem.run_bind, Sem.run_pure, Result.andThen_ok, List.map_toArray, List.map_cons, List.map_nil, hs, hx, hr]
  exact h
set_option maxHeartbeats 3200000 in
set_option maxRecDepth 100000 in
theorem copied3_nil (w : World) (a : Int) (A : Option Addr) (cap : Nat) :
    Calls Try.prog 53 #[.agg #[.int .i64 a, .slice A 0 cap]] w fun e w' => ∃ rg, e = .returned (.agg #[.int .i64 a, rg]) ∧ RegsP w' rg [] ∧ Below w.heap.size w w' := by
  obtain ⟨i0, hi, hz0, hz1, hz2⟩ := info_parts Try.infoStr
  have HN := Lib.hid (show ((w.alloc (.cells #[.int .i64 a, .slice A 0 cap] 78)).alloc (.cells #[.int .i64 0, .slice none 0 0] 78)).heap.size = w.heap.size + 2 by simp)
  have hb0 : Below w.heap.size w ((w.alloc (.cells #[.int .i64 a, .slice A 0 cap] 78)).alloc (.cells #[.int .i64 0, .slice none 0 0] 78)) := ((Below.refl _ _).alloc (Nat.le_refl _) _).alloc (by simp) _
  have HB := Lib.hid hb0
  have HBX := Lib.hid (bx_new w a (.slice A 0 cap))
  clear hb0
  go_enter Try.func53, Try.ntmps53
  go_wp2_with fail
  generalize ((w.alloc (.cells #[.int .i64 a, .slice A 0 cap] 78)).alloc (.cells #[.int .i64 0, .slice none 0 0] 78)) = w0 at *
  obtain ⟨s0, s1, c0, c1, f0, f1, hs2, hbw⟩ := HBX.out
  have hal : Below w0.heap.size w0 (w0.alloc (.cells #[] 9)) := (Below.refl _ _).alloc (Nat.le_refl _) _
  have p0 := cell_keep hal s0; have p1 := cell_keep hal s1
  have e0 := cell_keep hal c0; have e1 := cell_keep hal c1
  have q0 : (w0.alloc (.cells #[] 9)).frozen? ⟨w.heap.size + 1, 0, none⟩ = false := (hal.frozen (p := ⟨w.heap.size + 1, 0, none⟩) (by simp; omega)).trans f0
  have q1 : (w0.alloc (.cells #[] 9)).frozen? ⟨w.heap.size + 1, 1, none⟩ = false := (hal.frozen (p := ⟨w.heap.size + 1, 1, none⟩) (by simp; omega)).trans f1
  have HAL := Lib.hid (hbw.alloc (by omega) (.cells #[] 9))
  clear hal
  go_region_law (refine step_append_nothing (by rfl) _ _ _ _ (by rfl) 9 9 i0 Try.underlying76 Try.underlying76 hi _ 0 (by rfl) A cap (by rfl) ?_)
  all_goals
    have r0 : (((w0.alloc (.cells #[] 9)).setCell ⟨w.heap.size + 1, 0, none⟩ (.int .i64 a)).setCell ⟨w.heap.size + 1, 1, none⟩ (.slice (some ⟨w0.heap.size, 0, none⟩) 0 0)).cell? ⟨w.heap.size + 1, 0, none⟩ = some (.int .i64 a) := by rw [set_other (addr_ne (by omega)), set_same e0]
    have r1 : (((w0.alloc (.cells #[] 9)).setCell ⟨w.heap.size + 1, 0, none⟩ (.int .i64 a)).setCell ⟨w.heap.size + 1, 1, none⟩ (.slice (some ⟨w0.heap.size, 0, none⟩) 0 0)).cell? ⟨w.heap.size + 1, 1, none⟩ = some (.slice (some ⟨w0.heap.size, 0, none⟩) 0 0) := by
      refine set_same (u := .slice none 0 0) ?_
      rw [set_other (addr_ne (by omega)), e1]
    have RB := Lib.hid ((HAL.out.setCell (p := ⟨w.heap.size + 1, 0, none⟩) (Nat.le_succ _) (.int .i64 a)).setCell (p := ⟨w.heap.size + 1, 1, none⟩) (Nat.le_succ _) (.slice (some ⟨w0.heap.size, 0, none⟩) 0 0))
    have R0 := Lib.hid r0; have R1 := Lib.hid r1
    clear r0 r1
    go_wp2
    exact bodyPost_ret (v := .agg #[.int .i64 a, .slice (some ⟨w0.heap.size, 0, none⟩) 0 0]) (by simp [results, Try.f53, go_sem, R0.out, R1.out]) rfl ⟨_, rfl, .inl ⟨rfl, .inr ⟨_, _, rfl⟩⟩, RB.out.drew⟩
theorem copied3_any (w : World) (a : Int) (v : Value) (ls : List (List UInt8)) (h : RegsP w v ls) (hz : ls.length * 16 ≤ 140737488355328) :
    Calls Try.prog 53 #[.agg #[.int .i64 a, v]] w fun e w' => ∃ rg, e = .returned (.agg #[.int .i64 a, rg]) ∧ RegsP w' rg ls ∧ Below w.heap.size w w' := by
  obtain ⟨A1, c1, e1⟩ := h.form
  rcases h with ⟨h0, _⟩ | ⟨h0, b, off, cap, rfl, hc⟩
  · subst h0; subst e1
    exact copied3_nil w a A1 c1
  · refine (copied3_some w a b off ls.length cap ls rfl h0 hz hc).mono ?_
    rintro e w' ⟨g, c, rfl, hs, _, hb⟩
    exact ⟨_, rfl, .inr ⟨h0, g, 0, c, rfl, hs⟩, hb⟩
/-- what First and Step return -/
def FRes (w : World) (a e1 : Int) (la : List (List UInt8)) (e : Ending) (w' : World) : Prop := Below w.heap.size w w' ∧ ∃ A c, e = .returned (.tuple #[.agg #[.int .i64 a, .slice A la.length c], .int .i64 e1]) ∧ RegsP w' (.slice A la.length c) la ∧ (la = [] → a = 0 ∧ A = none ∧ c = 0)
theorem fres_none {w : World} {k : Int} {e : Ending} {w' : World} (h : SNone w k e w') : FRes w 0 k [] e w' := ⟨h.2, none, 0, h.1, .inl ⟨rfl, .inl rfl⟩, fun _ => ⟨rfl, rfl, rfl⟩⟩
theorem none3_regs (w : World) : Calls Try.prog 57 #[.agg #[.int .i64 0, .slice none 0 0]] w fun e w' => e = .returned (.bool true) ∧ Below w.heap.size w w' := none3_any w
theorem argp_lt {w : World} {v : Value} {ps : List Ins} (h : ArgP w v ps) : ∀ k, 0 < ps.length → v.ownBlock = some k → k < w.heap.size := by
  intro k h0 hk
  rcases h with ⟨h, _⟩ | ⟨_, b', off, cap, rfl, hc⟩
  · rw [h] at h0; simp at h0
  · cases hk; exact hc.1
theorem rReadS_regs (w : World) (a : Int) (ra : Option Addr) (rc n : Nat) (ls : List (List UInt8)) (h : RegsP w (.slice ra ls.length rc) ls) (hf : SFits a ls n) :
    Calls Try.prog 64 #[.agg #[.int .i64 a, .slice ra ls.length rc]] w (ReadSOut w (stOf a.toNat ls)) := by
  obtain ⟨h0, h1, h32, h4⟩ := hf
  rcases h with ⟨h, _⟩ | ⟨_, b, off, cap, e, hc⟩
  · rw [h] at h32; simp at h32
  · injection e with e1 e2 e3
    subst e1; subst e3
    obtain ⟨k, rfl⟩ : ∃ k : Nat, a = (k : Int) := ⟨a.toNat, by omega⟩
    rw [h32]
    exact rReadS_any w k b off rc ls hc h32 h4
theorem cell_far {w w' : World} {B b o : Nat} {v : Value} (h : Below B w w') (hB : b < B) (hc : w.cell? ⟨b, o, none⟩ = some v) : w'.cell? ⟨b, o, none⟩ = some v := (h.cell (p := ⟨b, o, none⟩) hB).trans hc
theorem RegsP.far {w w' : World} {B : Nat} {v : Value} {ls : List (List UInt8)} (h : RegsP w v ls) (hb : Below B w w') (hlt : ∀ b, v.ownBlock = some b → 0 < ls.length → b < B) : RegsP w' v ls := by
  rcases h with h | ⟨h0, b, off, cap, rfl, hc⟩
  · exact .inl h
  · have hB := hlt b rfl h0
    exact .inr ⟨h0, b, off, cap, rfl, Nat.lt_of_lt_of_le hc.1 hb.size, fun k hk => by rw [hb.cell (p := ⟨b, off + k, none⟩) hB]; exact hc.2 k hk⟩
theorem RegsP.own_lt {w : World} {v : Value} {ls : List (List UInt8)} (h : RegsP w v ls) : ∀ b, v.ownBlock = some b → 0 < ls.length → b < w.heap.size := by
  intro b hb h0
  rcases h with ⟨h, _⟩ | ⟨_, b', off, cap, rfl, hc⟩
  · rw [h] at h0; simp at h0
  · cases hb; exact hc.1
def StOut (w : World) (e : Ending) (w' : World) : Prop := e = .returned (.bool true) ∧ Below w.heap.size w w'
/-- how the cases lie: the program's validity, the string's, the state's, what First and Step return -/
structure Lie (ps : List Ins) (a : Int) (ls : List (List UInt8)) (x : ByteArray) (e1 a2 e2 : Int) (la lb : List (List UInt8)) : Prop where
  form : ¬ PValid ps → e1 = 1 ∧ la = [] ∧ e2 = 1 ∧ lb = [] ∧ a2 = 0
  bad : PValid ps → vld x.data.toList = false → e1 = 1 ∧ la = []
  good : PValid ps → vld x.data.toList = true → e1 = 0 ∧ la = x.data.toList :: List.replicate 31 [48]
  unfit : PValid ps → ¬ SFits a ls ps.length → e2 = 1 ∧ lb = [] ∧ a2 = 0
  ended : PValid ps → SFits a ls ps.length → a = ps.length → e2 = 6 ∧ lb = [] ∧ a2 = 0
  large : PValid ps → SFits a ls ps.length → a ≠ ps.length → stepP ps (stOf a.toNat ls) = none → e2 = 3 ∧ lb = [] ∧ a2 = 0
  step : PValid ps → SFits a ls ps.length → a ≠ ps.length → ∀ s, stepP ps (stOf a.toNat ls) = some s → e2 = 0 ∧ lb = regTexts s ∧ a2 = s.at_
set_option maxHeartbeats 6400000 in
set_option maxRecDepth 100000 in
theorem steps_all (w : World) (pa ra : Option Addr) (pc rc : Nat) (x : ByteArray) (a : Int) (ps : List Ins) (ls : List (List UInt8)) (e1 a2 e2 : Int) (la lb : List (List UInt8)) (hA : ArgP w (.slice pa ps.length pc) ps) (hl : ps.length * 48 ≤ 140737488355328) (hz : ∀ x ∈ ps, x.tree.length ≤ 281474976710656) (hx : x.size ≤ 281474976710656) (hr : RegsP w (.slice ra ls.length rc) ls) (hl2 : ls.length * 16 ≤ 140737488355328) (hs : ∀ l ∈ ls, l.length ≤ 281474976710656)
    (hF : ∀ W, Below w.heap.size w W → Calls Try.prog 54 #[.slice pa ps.length pc, .string x] W (FRes W 0 e1 la))
    (hS : ∀ W, Below w.heap.size w W → Calls Try.prog 55 #[.slice pa ps.length pc, .agg #[.int .i64 a, .slice ra ls.length rc]] W (FRes W a2 e2 lb)) (hlie : Lie ps a ls x e1 a2 e2 la lb) :
    Calls Try.prog 12 #[.slice pa ps.length pc, .string x, .agg #[.int .i64 a, .slice ra ls.length rc]] w (StOut w) := by
  have hb0 : Below w.heap.size w (w.alloc (.cells #[.int .i64 a, .slice ra ls.length rc] 78)) := tou_alloc _ _
  have c0 : (w.alloc (.cells #[.int .i64 a, .slice ra ls.length rc] 78)).cell? ⟨w.heap.size, 0, none⟩ = some (.int .i64 a) := by rw [World.cell?_alloc_new]; rfl
  have c1 : (w.alloc (.cells #[.int .i64 a, .slice ra ls.length rc] 78)).cell? ⟨w.heap.size, 1, none⟩ = some (.slice ra ls.length rc) := by rw [World.cell?_alloc_new]; rfl
  have HT := Lib.hid (fun W (hb : Below w.heap.size w W) => twin_any W _ ps (hA.below hb) hl)
  have HCP := Lib.hid (fun W (hb : Below w.heap.size w W) => copied3_any W a _ ls (hr.below hb) hl2)
  have HF := Lib.hid hF; have HS := Lib.hid hS
  have HSAME := Lib.hid (fun W v2 (hb : Below w.heap.size w W) h2 => PSame_arg W (.slice pa ps.length pc) v2 ps ps true (hA.below hb) h2 (by omega) (by simp))
  have HSS := Lib.hid (fun W v1 v2 h1 h2 => SameState_regs W a v1 v2 ls h1 h2 (by omega))
  obtain ⟨pv, hpv⟩ := pv_bool ps
  have HPV := Lib.hid (fun W (hb : Below w.heap.size w W) => PV_arg W (.slice pa ps.length pc) ps pv (hA.below hb) (by omega) hz hpv)
  obtain ⟨vx, hvx⟩ : ∃ b, vld x.data.toList = b := ⟨_, rfl⟩
  have HX := Lib.hid (fun W => rValid_eq vx x W hx hvx)
  obtain ⟨fs, hfs⟩ : ∃ b : Bool, b = true ↔ SFits a ls ps.length := by
    by_cases h : SFits a ls ps.length
    · exact ⟨true, by simp [h]⟩
    · exact ⟨false, by simp [h]⟩
  have HRF := Lib.hid (fun W (hb : Below w.heap.size w W) => rfits_any W pa ps.length pc a (.slice ra ls.length rc) ls fs (hr.below hb) hs hfs)
  have HA := Lib.hid hA; have HR := Lib.hid hr; have HLIE := Lib.hid hlie; have HPVI := Lib.hid hpv; have HVX := Lib.hid hvx; have HFS := Lib.hid hfs
  have HB := Lib.hid hb0
  clear hA hr hl hz hx hl2 hs hF hS hlie hpv hvx hfs hb0
  go_enter Try.func12, Try.ntmps12
  go_wp2_with fail
  refine wp_region_inv (P := Try.prog) (fun listed a' w' => ∃ v : Nat → Value, a' = { tmps := #[(.slice pa ps.length pc), .string x, (.agg #[.int .i64 a, .slice ra ls.length rc]), undef, undef, .pointer (some ⟨w.heap.size, 0, none⟩), .bool false, v 7, v 8, undef, undef, undef, undef, undef, undef, v 15, v 16, v 17, v 18, undef, undef, undef, undef, undef, undef, undef, undef, undef, undef, undef, undef, undef, undef, undef, undef, undef, undef, undef, undef, undef, undef, undef, undef, undef, undef, undef, undef, undef, undef, undef, undef, undef, undef, undef, undef, undef, undef, undef, undef, undef, undef, undef, undef, undef, undef, undef, undef, undef, undef, undef, undef, undef, undef, undef, undef, undef, undef, undef, undef, undef, undef, undef, undef, undef, undef, undef, undef, undef, undef, undef, undef, undef, undef, undef, undef, undef, undef, undef, undef, undef, undef, undef, undef, undef, undef, undef, undef, undef, undef, undef, undef, undef, undef, undef, undef, undef, undef, undef, undef, undef, undef, undef, undef, undef, undef, undef, undef, undef, undef, undef, undef, undef, undef, undef], defers := [] } ∧ Rg1 (w.alloc (.cells #[.int .i64 a, .slice ra ls.length rc] 78)) (.slice pa ps.length pc) (.agg #[.int .i64 a, .slice ra ls.length rc]) a ps ls (fun j => listed.getD j false) w' v) (by kernel_rfl) ?start ?step ?done
  case start =>
    have hno : ∀ {P : Prop} {j : Nat}, (Array.replicate 7 false).getD j false = true → P := fun h => (tstart h).elim
    exact ⟨fun _ => undef, rfl, (Below.refl _ _).drew, fun h => hno h, fun h => hno h, fun h => hno h, fun h => hno h, fun h => hno h, fun h => hno h, fun h => hno h, fun h => hno h, fun h => hno h⟩
  case step =>
    rintro listed a' w' i hs ⟨v, rfl, h⟩ hi
    have q0 := cell_keep h.b c0; have q1 := cell_keep h.b c1
    obtain ⟨hnl, hil⟩ := tnot (mem_ready.1 hi).1
    have hlt : i = 0 ∨ i = 1 ∨ i = 2 ∨ i = 3 ∨ i = 4 ∨ i = 5 ∨ i = 6 := by
      obtain ⟨_, o, ho, _⟩ := mem_ready.1 hi
      have := (Array.getElem?_eq_some_iff.1 ho).1
      simp at this; omega
    rcases hlt with rfl | rfl | rfl | rfl | rfl | rfl | rfl
    · refine wpOp_step rfl (fun K' hK => ?_)
      go_simp
      exact hK _ _ ⟨tput v 15 (.slice pa ps.length pc), rfl, tupd_eq hil ▸ h.s0⟩
    · have d0 := h.f0 (rdepT hi rfl ⟨0, .data⟩ (by simp) rfl)
      refine wpOp_step rfl (fun K' hK => ?_)
      go_simp
      refine (HT.out _ (bstep HB.out h.b)).mono ?_
      rintro e w4 ⟨x1, rfl, a1, h4⟩
      exact hK _ _ ⟨tput v 16 x1, by simp [tput, d0], tupd_eq hil ▸ (h.later h4).s1 (tun (l := fun j => listed.getD j false) (i := 1) (j := 5) h.g5 hnl) a1⟩
    · refine wpOp_step rfl (fun K' hK => ?_)
      go_simp
      exact hK _ _ ⟨tput v 17 (.agg #[.int .i64 a, .slice ra ls.length rc]), rfl, tupd_eq hil ▸ h.s2⟩
    · have d2 := h.f2 (rdepT hi rfl ⟨2, .data⟩ (by simp) rfl)
      refine wpOp_step rfl (fun K' hK => ?_)
      go_simp
      refine (HCP.out _ (bstep HB.out h.b)).mono ?_
      rintro e w4 ⟨rg, rfl, s4, h4⟩
      exact hK _ _ ⟨tput v 18 (.agg #[.int .i64 a, rg]), by simp [tput, d2], tupd_eq hil ▸ (h.later h4).s3 (tun (l := fun j => listed.getD j false) (i := 3) (j := 6) (fun e => (h.g6 e).1) hnl) s4⟩
    · refine wpOp_step rfl (fun K' hK => ?_)
      go_simp
      exact hK _ _ ⟨tput v 8 (.pointer (some ⟨w'.heap.size, 0, none⟩)), rfl, tupd_eq hil ▸ h.s4 (tun (l := fun j => listed.getD j false) (i := 4) (j := 6) (fun e => (h.g6 e).2) hnl)⟩
    · have d1 := rdepT hi rfl ⟨1, .data⟩ (by simp) rfl
      refine wpOp_step rfl (fun K' hK => ?_)
      go_simp
      exact hK _ _ ⟨tput v 7 (v 16), rfl, tupd_eq hil ▸ h.s5 d1 rfl⟩
    · have d3 := rdepT hi rfl ⟨3, .data⟩ (by simp) rfl
      have d4 := rdepT hi rfl ⟨4, .data⟩ (by simp) rfl
      obtain ⟨g, d8, hg, hm⟩ := h.f4 d4 hnl
      obtain ⟨rg, d18, hrg⟩ := h.f3 d3
      obtain ⟨A9, c9, rfl⟩ := hrg.form
      have k0 := Lib.cell_of_heap hm 0; have k1 := Lib.cell_of_heap hm 1
      have f0 := Lib.frozen_of_heap hm 0; have f1 := Lib.frozen_of_heap hm 1
      refine wpOp_step rfl (fun K' hK => ?_)
      go_simp
      exact hK _ _ ⟨v, by simp [d8, d18], tupd_eq hil ▸ h.s6 d3 d4 d8 hg hm d18⟩
  case done =>
    rintro listed a' w1 hs hr ⟨v, rfl, h⟩
    have al : ∀ j, j < 7 → listed.getD j false = true := fun j hj => all_listed2 hs (by kernel_rfl) hr j hj
    have q0 := cell_keep h.b c0; have q1 := cell_keep h.b c1
    have v7 := h.f5 (al 5 (by omega))
    have hA1 := h.f1 (al 1 (by omega))
    obtain ⟨g, rg, v8, g0, g1, hrg⟩ := h.f6 (al 6 (by omega))
    rw [← v7] at hA1
    have B1 := Lib.hid (bstep HB.out h.b)
    obtain ⟨A9, c9, e9⟩ := tou_form hA1
    rw [e9] at hA1
    obtain ⟨G9, k9, rfl⟩ := hrg.form
    have HA1 := Lib.hid hA1; have HRG := Lib.hid hrg
    have Q0 := Lib.hid q0; have Q1 := Lib.hid q1; have G0 := Lib.hid g0; have G1 := Lib.hid g1
    rw [v8, e9]
    generalize v 15 = z15 at *
    generalize v 16 = z16 at *
    generalize v 17 = z17 at *
    generalize v 18 = z18 at *
    clear al h hs hr v7 v8 e9 hA1 hrg c0 c1 q0 q1 g0 g1
    go_wp2_with fail
    refine (HF.out _ B1.out).mono ?_
    rintro e w2 ⟨h2, FA, FC, rfl, hra, hna⟩
    have ca : Below w2.heap.size w2 (w2.alloc (.cells #[.int .i64 0, .slice FA la.length FC] 78)) := tou_alloc _ _
    have b0 : (w2.alloc (.cells #[.int .i64 0, .slice FA la.length FC] 78)).cell? ⟨w2.heap.size, 0, none⟩ = some (.int .i64 0) := by rw [World.cell?_alloc_new]; rfl
    have b1 : (w2.alloc (.cells #[.int .i64 0, .slice FA la.length FC] 78)).cell? ⟨w2.heap.size, 1, none⟩ = some (.slice FA la.length FC) := by rw [World.cell?_alloc_new]; rfl
    have D2 := Lib.hid (bstep h2 ca); have B2 := Lib.hid (bstep (bstep B1.out h2) ca); have FR := Lib.hid (hra.below ca); have FN := Lib.hid hna
    have q0 := cell_keep D2.out Q0.out; have q1 := cell_keep D2.out Q1.out
    clear h2 ca hra hna
    go_wp2_with fail
    generalize (w2.alloc (.cells #[.int .i64 0, .slice FA la.length FC] 78)) = wa at *
    generalize w2.heap.size = X9 at *
    have BA0 := Lib.hid b0; have BA1 := Lib.hid b1
    refine (HS.out _ B2.out).mono ?_
    rintro e w3 ⟨h3, SA, SC, rfl, hrb, hnb⟩
    have cb : Below w3.heap.size w3 (w3.alloc (.cells #[.int .i64 a2, .slice SA lb.length SC] 78)) := tou_alloc _ _
    have e0 : (w3.alloc (.cells #[.int .i64 a2, .slice SA lb.length SC] 78)).cell? ⟨w3.heap.size, 0, none⟩ = some (.int .i64 a2) := by rw [World.cell?_alloc_new]; rfl
    have e1' : (w3.alloc (.cells #[.int .i64 a2, .slice SA lb.length SC] 78)).cell? ⟨w3.heap.size, 1, none⟩ = some (.slice SA lb.length SC) := by rw [World.cell?_alloc_new]; rfl
    have DA3 := Lib.hid (bstep h3 cb); have D3 := Lib.hid (bstep D2.out (bstep h3 cb)); have B3 := Lib.hid (bstep (bstep B2.out h3) cb); have SR := Lib.hid (hrb.below cb); have SN := Lib.hid hnb
    clear h3 cb hrb hnb b0 b1 q0 q1
    go_wp2_with fail
    generalize (w3.alloc (.cells #[.int .i64 a2, .slice SA lb.length SC] 78)) = wb at *
    generalize w3.heap.size = X11 at *
    have SB0 := Lib.hid e0; have SB1 := Lib.hid e1'
    clear e0 e1'
    refine (HSAME.out _ _ B3.out (HA1.out.below D3.out)).mono ?_
    rintro e w4 ⟨rfl, h4⟩
    rename_i hK
    have D4 := Lib.hid (bstep D3.out h4); have B4 := Lib.hid (bstep B3.out h4); have DB4 := Lib.hid h4
    have q0 := cell_keep D4.out Q0.out; have q1 := cell_keep D4.out Q1.out; have g0 := cell_keep D4.out G0.out; have g1 := cell_keep D4.out G1.out
    clear h4
    dsimp only
    apply hK
    clear hK
    go_wp2_with fail
    refine (HSS.out _ _ _ (HR.out.below B4.out) (HRG.out.below D4.out)).mono ?_
    rintro e w5 ⟨rfl, h5⟩
    rename_i hK
    have D5 := Lib.hid (bstep DB4.out h5); have B5 := Lib.hid (bstep B4.out h5)
    clear h5 q0 q1 g0 g1
    dsimp only
    apply hK
    clear hK
    go_wp2_with fail
    refine (HPV.out _ B5.out).mono ?_
    rintro e w6 ⟨rfl, h6⟩
    have D6 := Lib.hid (bstep D5.out h6); have B6 := Lib.hid (bstep B5.out h6)
    clear h6
    have S0 := Lib.hid (cell_keep (bstep D3.out D6.out) Q0.out); have S1 := Lib.hid (cell_keep (bstep D3.out D6.out) Q1.out)
    have U0 := Lib.hid (cell_keep (bstep DA3.out D6.out) BA0.out); have U1 := Lib.hid (cell_keep (bstep DA3.out D6.out) BA1.out)
    have V0 := Lib.hid (cell_keep D6.out SB0.out); have V1 := Lib.hid (cell_keep D6.out SB1.out)
    have FR6 := Lib.hid (FR.out.below (bstep DA3.out D6.out)); have SR6 := Lib.hid (SR.out.below D6.out)
    clear B1 B2 B3 B4 B5 D2 D3 D4 D5 D6 DA3 DB4 BA0 BA1 SB0 SB1 FR SR Q0 Q1 G0 G1 HA1 HRG HSAME HPV HF HS HT HCP HSS HB
    cases pv with
    | false =>
      clear HX HRF HVX HFS
      obtain ⟨hq1, hq2, hq3, hq4, hq5⟩ := HLIE.out.form (fun h => by have := HPVI.out.2 h; cases this)
      subst hq1; subst hq2; subst hq3; subst hq4; subst hq5
      obtain ⟨_, rfl, rfl⟩ := FN.out rfl
      obtain ⟨_, rfl, rfl⟩ := SN.out rfl
      clear HLIE FR6 SR6 FN SN S0 S1
      have u0 := U0.out; have u1 : w6.cell? ⟨X9, 1, none⟩ = some (.slice none 0 0) := U1.out
      go_wp2_with fail
      refine (none3_any _).mono ?_
      rintro e w7 ⟨rfl, h7⟩
      rename_i hK
      have B7 := Lib.hid (bstep B6.out h7)
      have v0 := cell_keep h7 V0.out; have v1 : w7.cell? ⟨X11, 1, none⟩ = some (.slice none 0 0) := cell_keep h7 V1.out
      clear h7 u0 u1
      dsimp only
      apply hK
      clear hK
      go_wp2_with fail
      refine (none3_any _).mono ?_
      rintro e w8 ⟨rfl, h8⟩
      rename_i hK
      have B8 := Lib.hid (bstep B7.out h8)
      clear h8 v0 v1
      dsimp only
      apply hK
      clear hK
      go_wp2_with fail
      refine (awake3_any _).mono ?_
      rintro e w9 ⟨rfl, h9⟩
      rename_i hK
      have B9 := Lib.hid (bstep B8.out h9)
      clear h9
      dsimp only
      apply hK
      clear hK
      go_wp2_with fail
      go_ret
      exact ⟨rfl, B9.out⟩
    | true =>
      have HPV2 := Lib.hid (HPVI.out.1 rfl)
      go_wp2_with fail
      refine (HX.out _).mono ?_
      rintro e w' ⟨rfl, rfl⟩
      clear HX
      go_upto_if 62 with fail
      go_cut [] (fun wx => Below w6.heap.size w6 wx)
      case first => as_aux_lemma =>
        clear HRF HFS S0 S1 V0 V1 SR6 SN HA HR
        cases vx with
        | false =>
          obtain ⟨hq1, hq2⟩ := HLIE.out.bad HPV2.out HVX.out
          subst hq1; subst hq2
          obtain ⟨_, rfl, rfl⟩ := FN.out rfl
          have u0 := U0.out; have u1 : w6.cell? ⟨X9, 1, none⟩ = some (.slice none 0 0) := U1.out
          clear HLIE FN FR6
          go_wp2_with fail
          refine (none3_any _).mono ?_
          rintro e w7 ⟨rfl, h7⟩
          rename_i hK
          have B7 := Lib.hid h7
          clear h7 u0 u1
          dsimp only
          apply hK
          clear hK
          go_wp2_with fail
          go_meet
          exact B7.out
        | true =>
          obtain ⟨hq1, hq2⟩ := HLIE.out.good HPV2.out HVX.out
          subst hq1
          have HRD := Lib.hid (fun W => rRead_any x W HVX.out)
          have HTE := Lib.hid (fun W s R (hRS : RS W s R (first (rd x.data.toList))) => rTextS_any W s R 0 (first (rd x.data.toList)) hRS.place hRS.regsv hRS.regs (first_ok _ (by rw [tx_rd HVX.out]; exact (vld_iff.1 HVX.out).1)))
          have htl : regTexts (first (rd x.data.toList)) = la := by rw [hq2]; simp [regTexts, first, tx_rd HVX.out, tx]
          have hl32 : la.length = 32 := by rw [hq2]; simp
          have HSS : Hid (∀ (W : World) (B cap : Nat), RegsP W (.slice FA la.length FC) la → StrAt W B 0 (regTexts (first (rd x.data.toList))) → Calls Try.prog 56 #[.agg #[.int .i64 0, .slice FA la.length FC], .agg #[.int .i64 (((first (rd x.data.toList)).at_ : Nat) : Int), .slice (some ⟨B, 0, none⟩) 32 cap]] W fun e w' => e = .returned (.bool true) ∧ Below W.heap.size W w') := Lib.hid (fun W B cap g1 g2 => by
            rw [htl] at g2
            have h := SameState_regs W 0 _ (.slice (some ⟨B, 0, none⟩) la.length cap) la g1 (.inr ⟨by omega, B, 0, cap, rfl, g2⟩) (by omega)
            rw [hl32] at h ⊢
            exact h)
          clear HLIE FN hq2 htl hl32
          go_wp2_with fail
          go_region_held3 (fun w' => w'.cell? ⟨X9, 0, none⟩ = some (.int .i64 0) ∧ w'.cell? ⟨X9, 1, none⟩ = some (.slice FA la.length FC)) (first | exact ⟨U0.out, U1.out⟩ | exact ⟨i0, i1⟩ | exact ⟨j0, j1⟩ | exact ⟨l0, l1⟩ | exact ⟨k0, k1⟩ | go_keep)
            (first
              | (go_simp; go_at_call 61; refine (HRD.out _).mono ?_; rintro e w7 ⟨y, rfl, hy, c7⟩; have i0 := cell_keep c7 U0.out; have i1 := cell_keep c7 U1.out)
              | (go_simp; go_at_call 60; refine (rFirst3_any _ _ _ hy).mono ?_; rintro e w8 ⟨s8, R8, rfl, hRS, _, _, c8⟩; have j0 := cell_keep c8 i0; have j1 := cell_keep c8 i1)
              | (go_simp; go_at_call 59; refine (HTE.out _ _ _ hRS).mono ?_; rintro e w9 ⟨B9, cap9, rfl, hs9, c9⟩; have l0 := cell_keep c9 j0; have l1 := cell_keep c9 j1)
              | (go_simp; go_at_call 56; refine (HSS.out _ _ _ (((RegsP.below (w := w6.drew) FR6.out c7).below c8).below c9) hs9).mono ?_; rintro e w10 ⟨rfl, c10⟩; have k0 := cell_keep c10 l0; have k1 := cell_keep c10 l1))
          have h9 := bstep (bstep (bstep (bstep (Below.refl _ w6).drew c7) c8) c9) c10
          have H9 := Lib.hid h9
          go_wp2
          go_meet
          exact H9.out
      case rest => as_aux_lemma =>
        rename World => w7
        have B7 := Lib.hid (bstep B6.out hcut)
        have T0 := Lib.hid (cell_keep hcut S0.out); have T1 := Lib.hid (cell_keep hcut S1.out)
        have Y0 := Lib.hid (cell_keep hcut V0.out); have Y1 := Lib.hid (cell_keep hcut V1.out); have SR7 := Lib.hid (SR6.out.below hcut)
        clear hcut B6 S0 S1 U0 U1 V0 V1 FR6 SR6 FN HVX
        have t0 := T0.out; have t1 := T1.out
        cases fs with
        | false =>
          obtain ⟨hq1, hq2, hq3⟩ := HLIE.out.unfit HPV2.out (fun h => by have := HFS.out.2 h; cases this)
          subst hq1; subst hq2; subst hq3
          obtain ⟨_, rfl, rfl⟩ := SN.out rfl
          clear HLIE SN HFS SR7
          go_wp2_with fail
          refine (HRF.out _ B7.out).mono ?_
          rintro e w8 ⟨rfl, h8⟩
          have B8 := Lib.hid (bstep B7.out h8)
          have y0 := cell_keep h8 Y0.out; have y1 : w8.cell? ⟨X11, 1, none⟩ = some (.slice none 0 0) := cell_keep h8 Y1.out
          clear h8 t0 t1
          go_wp2_with fail
          refine (none3_any _).mono ?_
          rintro e w9 ⟨rfl, h9⟩
          rename_i hK
          have B9 := Lib.hid (bstep B8.out h9)
          clear h9 y0 y1
          dsimp only
          apply hK
          clear hK
          go_wp2_with fail
          refine (awake3_any _).mono ?_
          rintro e w10 ⟨rfl, h10⟩
          rename_i hK
          have B10 := Lib.hid (bstep B9.out h10)
          clear h10
          dsimp only
          apply hK
          clear hK
          go_wp2_with fail
          go_ret
          exact ⟨rfl, B10.out⟩
        | true =>
          have FIT := Lib.hid (HFS.out.1 rfl)
          clear HFS
          go_wp2_with fail
          refine (HRF.out _ B7.out).mono ?_
          rintro e w8 ⟨rfl, h8⟩
          have B8 := Lib.hid (bstep B7.out h8)
          have y0 := cell_keep h8 Y0.out; have y1 := cell_keep h8 Y1.out
          have Y80 := Lib.hid y0; have Y81 := Lib.hid y1; have SR8 := Lib.hid (SR7.out.below h8)
          have t80 := cell_keep h8 t0; have t81 := cell_keep h8 t1
          have T80 := Lib.hid t80; have T81 := Lib.hid t81
          clear h8 t0 t1 y0 y1 Y0 Y1 SR7 T0 T1 HRF B7
          have HLD := Lib.hid (fun W (hb : Below w.heap.size w W) => Load_any W _ ps (HA.out.below hb) HPV2.out)
          have HRS := Lib.hid (fun W (hb : Below w.heap.size w W) => rReadS_regs W a ra rc ps.length ls (HR.out.below hb) FIT.out)
          go_wp2_with fail
          go_region_held3 (fun w' => w'.cell? ⟨w.heap.size, 0, none⟩ = some (.int .i64 a) ∧ w'.cell? ⟨w.heap.size, 1, none⟩ = some (.slice ra ls.length rc)) (first | exact ⟨T80.out, T81.out⟩ | exact ⟨i0, i1⟩ | exact ⟨j0, j1⟩ | go_keep)
            (first
              | (go_simp; go_at_call 63; refine (HLD.out _ B8.out.drew).mono ?_; rintro e w9 ⟨m, C, rfl, hL, c9⟩; have i0 := cell_keep c9 T80.out; have i1 := cell_keep c9 T81.out)
              | (go_simp; go_at_call 64; refine (HRS.out _ (bstep B8.out.drew c9)).mono ?_; rintro e w10 ⟨s, R, rfl, hRS, hs1, hR1, c10⟩; have j0 := cell_keep c10 i0; have j1 := cell_keep c10 i1))
          have k9 : Below w8.heap.size w8 w9 := bstep (Below.refl _ w8).drew c9
          have k10 : Below w8.heap.size w8 w10 := bstep k9 c10
          have hz9 := k9.size
          have hm : RM w10 w8.heap.size m C s R ps (stOf a.toNat ls) := RM.of (hL.below c10) hRS (argp_lt (HA.out.below B8.out)) (by omega) (by omega) k10.size (by have := hL.tagC.lt; omega)
          have HM := Lib.hid hm
          have hsR : w8.heap.size ≤ s ∧ w8.heap.size ≤ R := ⟨by omega, by omega⟩
          have HSR := Lib.hid hsR
          have E0 := Lib.hid (cell_keep k10 Y80.out); have E1 := Lib.hid (cell_keep k10 Y81.out); have SR10 := Lib.hid (SR8.out.below k10)
          have B10 := Lib.hid (bstep B8.out k10)
          have XL := Lib.hid (cell_lt Y80.out)
          have SL := Lib.hid SR8.out.own_lt
          have hz10 := k10.size
          have Z10 := Lib.hid hz10
          have Z8 := Lib.hid B8.out.size
          have hok : (stOf a.toNat ls).ok ps.length := stOf_ok (by have h1 := FIT.out.1; have h2 := FIT.out.2.1; omega) FIT.out.2.2.1 FIT.out.2.2.2
          have HOK := Lib.hid hok
          clear hm hsR hok hL hRS hs1 hR1 c9 c10 k9 k10 hz9 hz10 i0 i1 j0 j1 t80 t81 T80 T81 Y80 Y81 SR8 HLD HRS HA HR B8
          obtain ⟨r, hr⟩ : ∃ r, ((stOf a.toNat ls).at_ == ps.length) = r := ⟨_, rfl⟩
          have HE := Lib.hid (rended_is HM.out HPV2.out HOK.out)
          rw [hr] at HE
          cases r with
          | true =>
            obtain ⟨hq1, hq2, hq3⟩ := HLIE.out.ended HPV2.out FIT.out (by have h1 := FIT.out.1; have h2 := beq_iff_eq.1 hr; simp only [stOf] at h2; omega)
            subst hq1; subst hq2; subst hq3
            obtain ⟨_, rfl, rfl⟩ := SN.out rfl
            clear HLIE SN hr HOK HM SR10 FIT SL
            go_wp2_with fail
            refine HE.out.mono ?_
            rintro e w11 ⟨rfl, q, rfl⟩
            have g0 := cell_keep (bdrewN (Below.refl _ w10) q) E0.out; have g1 : (w10.drewN q).cell? ⟨X11, 1, none⟩ = some (.slice none 0 0) := cell_keep (bdrewN (Below.refl _ w10) q) E1.out
            have B11 := Lib.hid (bdrewN B10.out q)
            clear HE
            go_wp2_with fail
            refine (none3_any _).mono ?_
            rintro e w13 ⟨rfl, h13⟩
            rename_i hK
            have B13 := Lib.hid (bstep B11.out h13)
            clear h13 g0 g1
            dsimp only
            apply hK
            clear hK
            go_wp2_with fail
            refine (awake3_any _).mono ?_
            rintro e w14 ⟨rfl, h14⟩
            rename_i hK
            have B14 := Lib.hid (bstep B13.out h14)
            clear h14
            dsimp only
            apply hK
            clear hK
            go_wp2_with fail
            go_ret
            exact ⟨rfl, B14.out⟩
          | false =>
            have hne : (stOf a.toNat ls).at_ ≠ ps.length := by intro h; rw [h] at hr; simp at hr
            have hna : a ≠ ps.length := by intro h; apply hne; simp only [stOf]; omega
            go_wp2_with fail
            refine HE.out.mono ?_
            rintro e w11 ⟨rfl, q, rfl⟩
            have g0 := cell_keep (bdrewN (Below.refl _ w10) q) E0.out; have g1 := cell_keep (bdrewN (Below.refl _ w10) q) E1.out
            have G0 := Lib.hid g0; have G1 := Lib.hid g1
            have B11 := Lib.hid (bdrewN B10.out q)
            have SR11 := Lib.hid (SR10.out.below (bdrewN (Below.refl _ w10) q))
            have HM11 := HM.out.below (bdrewN (Below.refl _ w10) q)
            clear g0 g1 E0 E1 HE B10 SR10 hr
            cases hstp : stepP ps (stOf a.toNat ls) with
            | none =>
              obtain ⟨hq1, hq2, hq3⟩ := HLIE.out.large HPV2.out FIT.out hna hstp
              subst hq1; subst hq2; subst hq3
              obtain ⟨_, rfl, rfl⟩ := SN.out rfl
              have HST := Lib.hid (rstep_no HM11 HPV2.out HOK.out hne hstp)
              clear HLIE SN HM11 HM hstp hne hna FIT HOK SL SR11
              go_wp2_with fail
              refine HST.out.mono ?_
              rintro e w12 ⟨rfl, _, hbut⟩
              have k12 : Below w8.heap.size (w10.drewN q) w12 := hbut.below HSR.out.1 HSR.out.2 Z10.out
              have g0 := cell_far k12 XL.out G0.out; have g1 : w12.cell? ⟨X11, 1, none⟩ = some (.slice none 0 0) := cell_far k12 XL.out G1.out
              have B12 := Lib.hid (B11.out.trans (hbut.below (Nat.le_trans Z8.out HSR.out.1) (Nat.le_trans Z8.out HSR.out.2) (Nat.le_trans Z8.out Z10.out)))
              clear k12 hbut HST
              go_wp2_with fail
              refine (none3_any _).mono ?_
              rintro e w13 ⟨rfl, h13⟩
              rename_i hK
              have B13 := Lib.hid (bstep B12.out h13)
              clear h13 g0 g1
              dsimp only
              apply hK
              clear hK
              go_wp2_with fail
              refine (awake3_any _).mono ?_
              rintro e w14 ⟨rfl, h14⟩
              rename_i hK
              have B14 := Lib.hid (bstep B13.out h14)
              clear h14
              dsimp only
              apply hK
              clear hK
              go_wp2_with fail
              go_ret
              exact ⟨rfl, B14.out⟩
            | some st =>
              obtain ⟨hq1, hq2, hq3⟩ := HLIE.out.step HPV2.out FIT.out hna st hstp
              subst hq1; subst hq3
              have HST := Lib.hid (rstep_yes HM11 HPV2.out HOK.out hne hstp)
              have hok2 := stepP_ok HPV2.out HOK.out hstp
              have HOK2 := Lib.hid hok2
              have hl32 : lb.length = 32 := by rw [hq2]; simp [regTexts, hok2.2.1]
              have HSS : Hid (∀ (W : World) (B cap : Nat), RegsP W (.slice SA lb.length SC) lb → StrAt W B 0 (regTexts st) → Calls Try.prog 56 #[.agg #[.int .i64 (st.at_ : Int), .slice SA lb.length SC], .agg #[.int .i64 (st.at_ : Int), .slice (some ⟨B, 0, none⟩) 32 cap]] W fun e w' => e = .returned (.bool true) ∧ Below W.heap.size W w') := Lib.hid (fun W B cap g1 g2 => by
                rw [← hq2] at g2
                have h := SameState_regs W (st.at_ : Int) _ (.slice (some ⟨B, 0, none⟩) lb.length cap) lb g1 (.inr ⟨by omega, B, 0, cap, rfl, g2⟩) (by omega)
                rw [hl32] at h ⊢
                exact h)
              clear HLIE SN HM11 HM hstp hne hna FIT HOK hok2 hq2 hl32
              go_wp2_with fail
              refine HST.out.mono ?_
              rintro e w12 ⟨rfl, hM, hbut⟩
              have k12 : Below w8.heap.size (w10.drewN q) w12 := hbut.below HSR.out.1 HSR.out.2 Z10.out
              have P0 := Lib.hid (cell_far k12 XL.out G0.out); have P1 := Lib.hid (cell_far k12 XL.out G1.out)
              have SR12 := Lib.hid (SR11.out.far k12 SL.out)
              have B12 := Lib.hid (B11.out.trans (hbut.below (Nat.le_trans Z8.out HSR.out.1) (Nat.le_trans Z8.out HSR.out.2) (Nat.le_trans Z8.out Z10.out)))
              have HTS := Lib.hid (fun W (hb : Below w12.heap.size w12 W) => rTextS_any W s R _ st (hM.below hb).place (hM.below hb).regsv (hM.below hb).regs HOK2.out)
              clear k12 hbut HST hM SR11 G0 G1
              go_wp2_with fail
              go_region_held3 (fun w' => w'.cell? ⟨X11, 0, none⟩ = some (.int .i64 (st.at_ : Int)) ∧ w'.cell? ⟨X11, 1, none⟩ = some (.slice SA lb.length SC)) (first | exact ⟨P0.out, P1.out⟩ | exact ⟨i0, i1⟩ | exact ⟨j0, j1⟩ | exact ⟨l0, l1⟩ | go_keep)
                (first
                  | (go_simp; go_at_call 59; refine (HTS.out _ (by first | exact Below.refl _ _ | exact (Below.refl _ _).drew)).mono ?_; rintro e w13 ⟨B9, cap9, rfl, hs9, c9⟩; have i0 := cell_keep c9 P0.out; have i1 := cell_keep c9 P1.out)
                  | (go_simp; go_at_call 56; refine (HSS.out _ _ _ (RegsP.below (w := w12.drew) SR12.out c9) hs9).mono ?_; rintro e w14 ⟨rfl, c10⟩; have j0 := cell_keep c10 i0; have j1 := cell_keep c10 i1)
                  | (go_simp; go_at_call 58; refine (awake3_any _).mono ?_; rintro e w15 ⟨rfl, c11⟩; have l0 := cell_keep c11 j0; have l1 := cell_keep c11 j1))
              have h11 := bstep (bstep (bstep B12.out.drew c9) c10) c11
              clear c9 c10 c11 hs9 i0 i1 j0 j1 l0 l1
              go_wp2
              go_ret
              exact ⟨rfl, h11⟩
open Classical in
theorem steps_lie (ps : List Ins) (a : Int) (ls : List (List UInt8)) (x : ByteArray) (w : World) (pa ra : Option Addr) (pc rc : Nat) (hA : ArgP w (.slice pa ps.length pc) ps) (hl : ps.length * 48 ≤ 140737488355328) (hz : ∀ x ∈ ps, x.tree.length ≤ 281474976710656) (hx : x.size ≤ 281474976710656) (hr : RegsP w (.slice ra ls.length rc) ls) (hs : ∀ l ∈ ls, l.length ≤ 281474976710656) :
    ∃ e1 a2 e2 la lb, (∀ W, Below w.heap.size w W → Calls Try.prog 54 #[.slice pa ps.length pc, .string x] W (FRes W 0 e1 la)) ∧
      (∀ W, Below w.heap.size w W → Calls Try.prog 55 #[.slice pa ps.length pc, .agg #[.int .i64 a, .slice ra ls.length rc]] W (FRes W a2 e2 lb)) ∧ Lie ps a ls x e1 a2 e2 la lb := by
  obtain ⟨e1, la, h1, f1, f2, f3⟩ : ∃ e1 la, (∀ W, Below w.heap.size w W → Calls Try.prog 54 #[.slice pa ps.length pc, .string x] W (FRes W 0 e1 la)) ∧ (¬ PValid ps → e1 = 1 ∧ la = []) ∧ (PValid ps → vld x.data.toList = false → e1 = 1 ∧ la = []) ∧ (PValid ps → vld x.data.toList = true → e1 = 0 ∧ la = x.data.toList :: List.replicate 31 [48]) := by
    by_cases h : PValid ps ∧ vld x.data.toList = true
    · refine ⟨0, _, fun W hb => (First_some W _ x ps (hA.below hb) h.1 h.2).mono ?_, fun hn => absurd h.1 hn, fun _ hv => (by rw [h.2] at hv; cases hv), fun _ _ => ⟨rfl, rfl⟩⟩
      rintro e w' ⟨hb, B, rfl, _, hs⟩
      exact ⟨hb, some ⟨B, 0, none⟩, 32, by simp, .inr ⟨by simp, B, 0, 32, rfl, hs⟩, fun h => by cases h⟩
    · have hn : ¬ PValid ps ∨ vld x.data.toList = false := by
        by_cases hp : PValid ps
        · right; cases hv : vld x.data.toList with
          | false => rfl
          | true => exact absurd ⟨hp, hv⟩ h
        · exact .inl hp
      exact ⟨1, [], fun W hb => (First_form W _ x ps (hA.below hb) (by omega) hz hx hn).mono fun e w' h => fres_none h, fun _ => ⟨rfl, rfl⟩, fun _ _ => ⟨rfl, rfl⟩, fun hp hv => absurd ⟨hp, hv⟩ h⟩
  obtain ⟨a2, e2, lb, h2, g1, g2, g3, g4, g5⟩ : ∃ a2 e2 lb, (∀ W, Below w.heap.size w W → Calls Try.prog 55 #[.slice pa ps.length pc, .agg #[.int .i64 a, .slice ra ls.length rc]] W (FRes W a2 e2 lb)) ∧
      (¬ PValid ps → e2 = 1 ∧ lb = [] ∧ a2 = 0) ∧ (PValid ps → ¬ SFits a ls ps.length → e2 = 1 ∧ lb = [] ∧ a2 = 0) ∧ (PValid ps → SFits a ls ps.length → a = ps.length → e2 = 6 ∧ lb = [] ∧ a2 = 0) ∧
      (PValid ps → SFits a ls ps.length → a ≠ ps.length → stepP ps (stOf a.toNat ls) = none → e2 = 3 ∧ lb = [] ∧ a2 = 0) ∧ (PValid ps → SFits a ls ps.length → a ≠ ps.length → ∀ s, stepP ps (stOf a.toNat ls) = some s → e2 = 0 ∧ lb = regTexts s ∧ a2 = s.at_) := by
    by_cases h : PValid ps ∧ SFits a ls ps.length
    · obtain ⟨hp, hf⟩ := h
      by_cases he : a = ps.length
      · refine ⟨0, 6, [], fun W hb => ?_, fun hn => absurd hp hn, fun _ hn => absurd hf hn, fun _ _ _ => ⟨rfl, rfl, rfl⟩, fun _ _ hn => absurd he hn, fun _ _ hn => absurd he hn⟩
        subst he
        exact (Step_end W _ _ ps ls (hA.below hb) hp (hr.below hb) hf).mono fun e w' h => fres_none h
      · have hlt : a.toNat < ps.length := by have h1 := hf.1; have h2 := hf.2.1; omega
        have ha : ((a.toNat : Nat) : Int) = a := by have h1 := hf.1; omega
        have hM : ∀ W, Below w.heap.size w W → Calls Try.prog 55 #[.slice pa ps.length pc, .agg #[.int .i64 a, .slice ra ls.length rc]] W (SOut W ps a.toNat ls) := by
          intro W hb
          rcases hA.below hb with ⟨h0, _⟩ | ⟨_, b, off, cap, ep, hP⟩
          · rw [h0] at hlt; simp at hlt
          · rcases hr.below hb with ⟨h0, _⟩ | ⟨_, b2, off2, cap2, es, hS⟩
            · have := hf.2.2.1; rw [h0] at this; simp at this
            · rw [ep, es]
              have h9 := Step_main W b off cap b2 off2 cap2 a.toNat ps ls hP hp hS hf.2.2.1 hf.2.2.2 hlt
              rw [ha, ← hf.2.2.1] at h9
              exact h9
        cases hst : stepP ps (stOf a.toNat ls) with
        | none =>
          refine ⟨0, 3, [], fun W hb => (hM W hb).mono fun e w' h => ?_, fun hn => absurd hp hn, fun _ hn => absurd hf hn, fun _ _ hn => absurd hn he, fun _ _ _ _ => ⟨rfl, rfl, rfl⟩, fun _ _ _ s h => (by cases h)⟩
          unfold SOut at h
          rw [hst] at h
          exact fres_none h
        | some s =>
          have hok : s.ok ps.length := stepP_ok hp (stOf_ok (by omega) hf.2.2.1 hf.2.2.2) hst
          have h32 : (regTexts s).length = 32 := by simp [regTexts, hok.2.1]
          refine ⟨s.at_, 0, regTexts s, fun W hb => (hM W hb).mono fun e w' h => ?_, fun hn => absurd hp hn, fun _ hn => absurd hf hn, fun _ _ hn => absurd hn he, fun _ _ _ h => (by cases h), fun _ _ _ s' h => (by cases h; exact ⟨rfl, rfl, rfl⟩)⟩
          unfold SOut at h
          rw [hst] at h
          obtain ⟨hb2, B, rfl, _, hrow⟩ := h
          refine ⟨hb2, some ⟨B, 0, none⟩, 32, by rw [h32], .inr ⟨by omega, B, 0, 32, by rw [h32], hrow.1, fun j hj => hrow.2 j (by omega)⟩, fun h => by rw [h] at h32; simp at h32⟩
    · have hn : ¬ PValid ps ∨ ¬ SFits a ls ps.length := by
        by_cases hp : PValid ps
        · exact .inr fun hf => h ⟨hp, hf⟩
        · exact .inl hp
      exact ⟨0, 1, [], fun W hb => (Step_form W _ _ ps a ls (hA.below hb) (by omega) hz (hr.below hb) hs hn).mono fun e w' h => fres_none h, fun _ => ⟨rfl, rfl, rfl⟩, fun _ _ => ⟨rfl, rfl, rfl⟩, fun hp hf => absurd ⟨hp, hf⟩ h, fun hp hf => absurd ⟨hp, hf⟩ h, fun hp hf => absurd ⟨hp, hf⟩ h⟩
  exact ⟨e1, a2, e2, la, lb, h1, h2, fun hn => ⟨(f1 hn).1, (f1 hn).2, (g1 hn).1, (g1 hn).2.1, (g1 hn).2.2⟩, f2, f3, g2, g3, g4, g5⟩
theorem RunSteps_any (w : World) (v : Value) (x : ByteArray) (a : Int) (rg : Value) (ps : List Ins) (ls : List (List UInt8)) (hA : ArgP w v ps) (hl : ps.length * 48 ≤ 140737488355328) (hz : ∀ x ∈ ps, x.tree.length ≤ 281474976710656) (hr : RegsP w rg ls) (hl2 : ls.length * 16 ≤ 140737488355328) (hs : ∀ l ∈ ls, l.length ≤ 281474976710656) (hx : x.size ≤ 281474976710656) :
    Calls Try.prog 12 #[v, .string x, .agg #[.int .i64 a, rg]] w (StOut w) := by
  obtain ⟨pa, pc, rfl⟩ := tou_form hA
  obtain ⟨ra, rc, rfl⟩ := hr.form
  obtain ⟨e1, a2, e2, la, lb, h1, h2, h3⟩ := steps_lie ps a ls x w pa ra pc rc hA hl hz hx hr hs
  exact steps_all w pa ra pc rc x a ps ls e1 a2 e2 la lb hA hl hz hx hr hl2 hs h1 h2 h3
end Go.Proofs.Ytkpfocgcnehajaa

