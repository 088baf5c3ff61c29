/- What Universal returns: the universal program, in new memory. By an AI agent. -/
import Derived.Test.YtkpfocgcnehajabGreatDoorPlanG
namespace Go.Proofs.YtkpfocgcnehajabGreatDoor
open Go.RowKit Go.Maps Pl

def Pl3.nil : Pl3 := ⟨[], [], []⟩
def totalS : Pl3 := Pl3.nil.start.operations.jump.store.next
theorem total_is : finL totalS.M totalS.L totalS.ps = univL := by kernel_rfl
theorem total_len : 0 < totalS.L.length := by
  have h : decide (0 < totalS.L.length) = true := by kernel_rfl
  exact of_decide_eq_true h
def okL (s : Pl3) : Bool := s.L.all fun e => decide (e.1 < s.ps.length) && decide (0 ≤ toOf s.M e.2) && decide (toOf s.M e.2 ≤ 5000) && decide (e.2.length ≤ 1000000)
theorem total_ok : okL totalS = true := by kernel_rfl
theorem total_all : ∀ e ∈ totalS.L, e.1 < totalS.ps.length ∧ 0 ≤ toOf totalS.M e.2 ∧ toOf totalS.M e.2 ≤ 5000 ∧ e.2.length ≤ 1000000 := by
  intro e he
  have h := List.all_eq_true.1 total_ok e he
  simp only [Bool.and_eq_true, decide_eq_true_eq] at h
  exact ⟨h.1.1.1, h.1.1.2, h.1.2, h.2⟩
theorem Ok.start {n : Nat} {s : Pl3} (h : Ok n s) : Ok (n + 5) s.start := ((((h.wr _).wr _).wr _).wr _).jumpTo _ _
theorem Ok.operations {n : Nat} {s : Pl3} (h : Ok n s) : Ok (n + 72) s.operations := (((((h.opsHead.opsStep 0 Ok.op1).opsStep 1 Ok.op2).opsStep 2 Ok.op3).opsStep 3 Ok.op4).opsStep 4 Ok.op5).mono (by omega)
theorem Ok.jump {n : Nat} {s : Pl3} (h : Ok n s) : Ok (n + 40) s.jump := (((((((((((h.read 3 4).jumpTo _ _).jumpTo _ _).place _).wr _).wr _).jumpTo _ _).rep 1 Ok.jumpB1).jumpTo _ _).place _).rep 1 Ok.jumpB2).jumpTo _ _ |>.mono (by omega)
theorem Ok.store {n : Nat} {s : Pl3} (h : Ok n s) : Ok (n + 30) s.store := ((((h.place _).rep 4 Ok.storeB1).wr _).wr _).rep 6 Ok.storeB2 |>.mono (by omega)
theorem Ok.next {n : Nat} {s : Pl3} (h : Ok n s) : Ok (n + 10) s.next := ((((h.place _).shift 7 5).place _).jumpTo _ _).wr _ |>.mono (by omega)
def UOut (w : World) (e : Ending) (w' : World) : Prop := ∃ g cap, e = .returned (.slice (some ⟨g, 0, none⟩) 104 cap) ∧ w'.ownsRow w.heap.size 43 5 (.slice (some ⟨g, 0, none⟩) 104 cap) 104 (progV univL) ∧ Below w.heap.size w w'
set_option maxHeartbeats 3200000 in
set_option maxRecDepth 100000 in
theorem Universal_any (w : World) (hE : TabE w) : Calls Tryz.prog 42 #[] w (UOut w) := by
  have hmm := @run_makeMap Tryz.prog
  have b1 := alloc_belowW w (.map #[] 0)
  have b2 := alloc_belowW (w.alloc (.map #[] 0)) (.cells #[.slice none 0 0, .map (some w.heap.size), .slice none 0 0] 138)
  have h0 : PlanS w ((w.alloc (.map #[] 0)).alloc (.cells #[.slice none 0 0, .map (some w.heap.size), .slice none 0 0] 138)) (w.heap.size + 1) w.heap.size Unit Pl3.nil := by
    refine ⟨⟨.slice none 0 0, .slice none 0 0, ?_, World.ownsRow_nil _ _ _ _, World.ownsRow_nil _ _ _ _, ?_, Nat.lt_succ_self _⟩, bstep b1 b2, Nat.le_refl _, hE⟩
    · have e := heap_alloc_new (w.alloc (.map #[] 0)) (.cells #[.slice none 0 0, .map (some w.heap.size), .slice none 0 0] 138)
      simpa using e
    · exact (World.ownsMap_made w Tryz.prog 9 (plainElem Tryz.prog 3)).alloc _
  have H0 := Lib.hid h0
  have o0 : Ok 0 Pl3.nil := ⟨Nat.le_refl _, Nat.le_refl _, Nat.le_refl _⟩
  have O0 := Lib.hid o0
  clear h0 o0 b1 b2 hE
  go_enter Tryz.func42, Tryz.ntmps42
  go_wp2_with fail
  generalize ((w.alloc (.map #[] 0)).alloc (.cells #[.slice none 0 0, .map (some w.heap.size), .slice none 0 0] 138)) = w1 at *
  refine (c_startW H0.out (O0.out.mono (by omega))).mono ?_
  rintro e w2 ⟨rfl, h, _⟩
  have H2 := Lib.hid h
  clear h H0
  go_wp2_with fail
  refine (c_operationsW H2.out (O0.out.start.mono (by omega))).mono ?_
  rintro e w3 ⟨rfl, h, _⟩
  have H3 := Lib.hid h
  clear h H2
  go_wp2_with fail
  refine (c_jumpW H3.out (O0.out.start.operations.mono (by omega))).mono ?_
  rintro e w4 ⟨rfl, h, _⟩
  have H4 := Lib.hid h
  clear h H3
  go_wp2_with fail
  refine (c_storeW H4.out (O0.out.start.operations.jump.mono (by omega))).mono ?_
  rintro e w5 ⟨rfl, h, _⟩
  have H5 := Lib.hid h
  clear h H4
  go_wp2_with fail
  refine (c_nextW H5.out (O0.out.start.operations.jump.store.mono (by omega))).mono ?_
  rintro e w6 ⟨rfl, h, _⟩
  have H6 : Hid (PlanS w w6 (w.heap.size + 1) w.heap.size Unit totalS) := Lib.hid h
  clear h H5
  go_wp2_with fail
  refine (c_finish H6.out (O0.out.start.operations.jump.store.next.mono (by omega)) total_len total_all).mono ?_
  rintro e w7 ⟨v, rfl, ho, hb⟩
  rw [total_is] at ho
  obtain ⟨g, cap, cur, rfl, hg1, hg2⟩ : ∃ g cap cur, v = .slice (some ⟨g, 0, none⟩) 104 cap ∧ w.heap.size + 1 + 1 ≤ g ∧ _ := by
    rcases ho.2 with ⟨_, h9⟩ | ⟨g, cap, cur, e, h1, h2⟩
    · exact absurd h9 (by decide)
    · exact ⟨g, cap, cur, e, h1, h2⟩
  have ho2 : w7.ownsRow w.heap.size 43 5 (.slice (some ⟨g, 0, none⟩) 104 cap) 104 (progV univL) := ⟨ho.1, .inr ⟨g, cap, cur, rfl, by omega, hg2⟩⟩
  have HO := Lib.hid ho2; have HB := Lib.hid hb
  clear ho ho2 hb hg1 hg2
  go_wp2_with fail
  go_ret
  exact ⟨_, _, rfl, HO.out, HB.out⟩
end Go.Proofs.YtkpfocgcnehajabGreatDoor
