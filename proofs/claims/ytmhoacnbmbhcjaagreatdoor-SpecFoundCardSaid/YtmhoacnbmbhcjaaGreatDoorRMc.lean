/- The reference's machine: Step and Ended. By an AI agent. -/
import Derived.Test.YtmhoacnbmbhcjaaGreatDoorRunA
import Derived.Test.YtmhoacnbmbhcjaaGreatDoorMth
import Derived.Test.YtmhoacnbmbhcjaaGreatDoorRunB
import Derived.Outline
namespace Go.Proofs.YtmhoacnbmbhcjaaGreatDoor
open Go.RowKit Pl

/-- a register and the place have been written -/
def RStepTo (w : World) (s R a : Nat) (t : Tr) (k : Nat) (e : Ending) (w' : World) : Prop :=
  e = .returned (.bool true) ∧ ∃ w1 v, Below w.heap.size w w1 ∧ NodeW 42 w1 t v ∧ w' = (w1.setCell ⟨R, a, none⟩ v).setCell ⟨s, 0, none⟩ (.int .i64 (k : Int))
/-- the place has been written -/
def RStepGo (w : World) (s : Nat) (k : Int) (e : Ending) (w' : World) : Prop :=
  e = .returned (.bool true) ∧ ∃ w1, Below w.heap.size w w1 ∧ w' = w1.setCell ⟨s, 0, none⟩ (.int .i64 k)
theorem rhead_val {w : World} {t : Tr} {v : Value} (h : NodeW 42 w t v) : ∃ y, NodeW 42 w (hdT t) y ∧ ∀ W : World, KeepT 42 w W → Calls Tryz.prog 137 #[v] W fun e w' => e = .returned y ∧ w' = W := by
  cases t with
  | nil =>
    obtain rfl : v = .pointer none := h
    exact ⟨.pointer none, rfl, fun W _ => (rFirst_any 42 W .nil _ rfl).mono (by rintro e w' ⟨y, rfl, h1, h2⟩; exact ⟨by rw [show y = .pointer none from h1], h2.symm⟩)⟩
  | pair a b =>
    obtain ⟨B, o, x, y, rfl, h1, h2, h3, h4, h5⟩ := h
    refine ⟨x, h4, fun W hk => ?_⟩
    have c1 := (h1.keep hk).2
    go_enter Tryz.func137, Tryz.ntmps137
    go_wp2
    go_ret
    exact ⟨rfl, rfl⟩
theorem rtail_val {w : World} {t : Tr} {v : Value} (h : NodeW 42 w t v) : ∃ y, NodeW 42 w (tlT t) y ∧ ∀ W : World, KeepT 42 w W → Calls Tryz.prog 138 #[v] W fun e w' => e = .returned y ∧ w' = W := by
  cases t with
  | nil =>
    obtain rfl : v = .pointer none := h
    exact ⟨.pointer none, rfl, fun W _ => (rRest_any 42 W .nil _ rfl).mono (by rintro e w' ⟨y, rfl, h1, h2⟩; exact ⟨by rw [show y = .pointer none from h1], h2.symm⟩)⟩
  | pair a b =>
    obtain ⟨B, o, x, y, rfl, h1, h2, h3, h4, h5⟩ := h
    refine ⟨y, h5, fun W hk => ?_⟩
    have c1 := (h2.keep hk).2
    go_enter Tryz.func138, Tryz.ntmps138
    go_wp2
    go_ret
    exact ⟨rfl, rfl⟩
set_option maxHeartbeats 3200000 in
set_option maxRecDepth 100000 in
theorem rstep_set (w : World) (m C b off n cap k a s R rc : Nat) (t : Tr) (X : Option Addr) (d c : Int) (tr : ByteArray) (old : Value) (hk : k < n) (hn : n ≤ 4000) (ha : a < 32) (hRs : R ≠ s)
    (m0 : w.cell? ⟨m, 0, none⟩ = some (.slice (some ⟨b, off, none⟩) n cap)) (m1 : w.cell? ⟨m, 1, none⟩ = some (.slice (some ⟨C, 0, none⟩) n n)) (s0 : w.cell? ⟨s, 0, none⟩ = some (.int .i64 k)) (s1 : w.cell? ⟨s, 1, none⟩ = some (.slice (some ⟨R, 0, none⟩) 32 rc))
    (i0 : w.cell? ⟨b, off + k * 5, none⟩ = some (.int .i64 0)) (i1 : w.cell? ⟨b, off + k * 5 + 1, none⟩ = some (.int .i64 a)) (i2 : w.cell? ⟨b, off + k * 5 + 2, none⟩ = some (.int .i64 d)) (i3 : w.cell? ⟨b, off + k * 5 + 3, none⟩ = some (.int .i64 c)) (i4 : w.cell? ⟨b, off + k * 5 + 4, none⟩ = some (.string tr))
    (ho : w.cell? ⟨R, a, none⟩ = some old) (f1 : w.frozen? ⟨R, a, none⟩ = false) (f2 : w.frozen? ⟨s, 0, none⟩ = false)
    (hc : w.cell? ⟨C, k, none⟩ = some (.pointer X)) (hN : NodeW 42 w t (.pointer X)) :
    Calls Tryz.prog 88 #[.pointer (some ⟨m, 0, none⟩), .pointer (some ⟨s, 0, none⟩)] w (RStepTo w s R a t (k + 1)) := by
  have k0 : (0 : Int) ≤ (k : Int) := by omega
  have k1 : (k : Int) < (n : Int) := by omega
  have a0 : (0 : Int) ≤ (a : Int) := by omega
  have a1 : (a : Int) < 32 := by omega
  have hRs' : s ≠ R := fun e => hRs e.symm
  go_enter Tryz.func88, Tryz.ntmps88
  go_wp2
  go_region_held3 (fun w' => w'.cell? ⟨m, 0, none⟩ = some (.slice (some ⟨b, off, none⟩) n cap) ∧ w'.cell? ⟨s, 0, none⟩ = some (.int .i64 k) ∧ w'.cell? ⟨b, off + k * 5, none⟩ = some (.int .i64 0) ∧ w'.cell? ⟨b, off + k * 5 + 1, none⟩ = some (.int .i64 a) ∧ w'.cell? ⟨b, off + k * 5 + 2, none⟩ = some (.int .i64 d) ∧ w'.cell? ⟨b, off + k * 5 + 3, none⟩ = some (.int .i64 c) ∧ w'.cell? ⟨b, off + k * 5 + 4, none⟩ = some (.string tr)) (go_keep) (fail)
  have hb1 : Below w.heap.size w ((w.alloc (.cells #[.int .i64 0, .int .i64 a, .int .i64 d, .int .i64 c, .string tr] 64)).drew) := ((Below.refl _ _).alloc (Nat.le_refl _) _).drew
  have q1 : ((w.alloc (.cells #[.int .i64 0, .int .i64 a, .int .i64 d, .int .i64 c, .string tr] 64)).drew).cell? ⟨w.heap.size, 1, none⟩ = some (.int .i64 a) := by show (w.alloc _).cell? _ = _; rw [World.cell?_alloc_new]; rfl
  have q2 : ((w.alloc (.cells #[.int .i64 0, .int .i64 a, .int .i64 d, .int .i64 c, .string tr] 64)).drew).cell? ⟨w.heap.size, 2, none⟩ = some (.int .i64 d) := by show (w.alloc _).cell? _ = _; rw [World.cell?_alloc_new]; rfl
  have q3 : ((w.alloc (.cells #[.int .i64 0, .int .i64 a, .int .i64 d, .int .i64 c, .string tr] 64)).drew).cell? ⟨w.heap.size, 3, none⟩ = some (.int .i64 c) := by show (w.alloc _).cell? _ = _; rw [World.cell?_alloc_new]; rfl
  have q0 : ((w.alloc (.cells #[.int .i64 0, .int .i64 a, .int .i64 d, .int .i64 c, .string tr] 64)).drew).cell? ⟨w.heap.size, 0, none⟩ = some (.int .i64 0) := by show (w.alloc _).cell? _ = _; rw [World.cell?_alloc_new]; rfl
  have M1 := cell_keep hb1 m1; have S0 := cell_keep hb1 s0; have S1 := cell_keep hb1 s1; have HO := cell_keep hb1 ho
  have F1 := (hb1.frozen (p := ⟨R, a, none⟩) (cell_lt ho)).trans f1
  have F2 := (hb1.frozen (p := ⟨s, 0, none⟩) (cell_lt s0)).trans f2
  have HC := cell_keep hb1 hc
  have HN := Lib.hid (NodeW.below hN hb1)
  have HB1 := Lib.hid hb1
  clear m0 m1 s0 s1 i0 i1 i2 i3 i4 ho f1 f2 hb1 hc hN
  generalize ((w.alloc (.cells #[.int .i64 0, .int .i64 a, .int .i64 d, .int .i64 c, .string tr] 64)).drew) = w1 at *
  go_wp2_with fail
  refine wp_region_still_tail 17 (by kernel_rfl) (by kernel_rfl) ?_
  change wpStill _ _ w1.drew (fun a' => wpList _ _ _ _ a' w1.drew) _ _
  simp only [List.take_succ_cons, List.take_zero, List.drop_succ_cons, List.drop_zero]
  repeat still_step
  refine wpStill_nil ?_
  go_wp2
  go_ret
  exact ⟨rfl, _, _, HB1.out.drew, NodeW.keep HN.out (KeepT.drewN _ w1 1), by rw [num_succ']; rfl⟩
set_option maxHeartbeats 3200000 in
set_option maxRecDepth 100000 in
theorem rstep_move (w : World) (m C b off n cap k a s R rc : Nat) (t : Tr) (X : Option Addr) (d c : Int) (tr : ByteArray) (old : Value) (hk : k < n) (hn : n ≤ 4000) (ha : a < 32) (hRs : R ≠ s)
    (m0 : w.cell? ⟨m, 0, none⟩ = some (.slice (some ⟨b, off, none⟩) n cap)) (m1 : w.cell? ⟨m, 1, none⟩ = some (.slice (some ⟨C, 0, none⟩) n n)) (s0 : w.cell? ⟨s, 0, none⟩ = some (.int .i64 k)) (s1 : w.cell? ⟨s, 1, none⟩ = some (.slice (some ⟨R, 0, none⟩) 32 rc))
    (i0 : w.cell? ⟨b, off + k * 5, none⟩ = some (.int .i64 1)) (i1 : w.cell? ⟨b, off + k * 5 + 1, none⟩ = some (.int .i64 a)) (i2 : w.cell? ⟨b, off + k * 5 + 2, none⟩ = some (.int .i64 d)) (i3 : w.cell? ⟨b, off + k * 5 + 3, none⟩ = some (.int .i64 c)) (i4 : w.cell? ⟨b, off + k * 5 + 4, none⟩ = some (.string tr))
    (ho : w.cell? ⟨R, a, none⟩ = some old) (f1 : w.frozen? ⟨R, a, none⟩ = false) (f2 : w.frozen? ⟨s, 0, none⟩ = false)
    (B : Nat) (hB : B < 32) (hd : d = (B : Int)) (hb : w.cell? ⟨R, B, none⟩ = some (.pointer X)) (hN : NodeW 42 w t (.pointer X)) :
    Calls Tryz.prog 88 #[.pointer (some ⟨m, 0, none⟩), .pointer (some ⟨s, 0, none⟩)] w (RStepTo w s R a t (k + 1)) := by
  have k0 : (0 : Int) ≤ (k : Int) := by omega
  have k1 : (k : Int) < (n : Int) := by omega
  have a0 : (0 : Int) ≤ (a : Int) := by omega
  have a1 : (a : Int) < 32 := by omega
  have hRs' : s ≠ R := fun e => hRs e.symm
  subst hd
  have b0 : (0 : Int) ≤ (B : Int) := by omega
  have b1 : (B : Int) < 32 := by omega
  go_enter Tryz.func88, Tryz.ntmps88
  go_wp2
  go_region_held3 (fun w' => w'.cell? ⟨m, 0, none⟩ = some (.slice (some ⟨b, off, none⟩) n cap) ∧ w'.cell? ⟨s, 0, none⟩ = some (.int .i64 k) ∧ w'.cell? ⟨b, off + k * 5, none⟩ = some (.int .i64 1) ∧ w'.cell? ⟨b, off + k * 5 + 1, none⟩ = some (.int .i64 a) ∧ w'.cell? ⟨b, off + k * 5 + 2, none⟩ = some (.int .i64 (B : Int)) ∧ w'.cell? ⟨b, off + k * 5 + 3, none⟩ = some (.int .i64 c) ∧ w'.cell? ⟨b, off + k * 5 + 4, none⟩ = some (.string tr)) (go_keep) (fail)
  have hb1 : Below w.heap.size w ((w.alloc (.cells #[.int .i64 1, .int .i64 a, .int .i64 (B : Int), .int .i64 c, .string tr] 64)).drew) := ((Below.refl _ _).alloc (Nat.le_refl _) _).drew
  have q1 : ((w.alloc (.cells #[.int .i64 1, .int .i64 a, .int .i64 (B : Int), .int .i64 c, .string tr] 64)).drew).cell? ⟨w.heap.size, 1, none⟩ = some (.int .i64 a) := by show (w.alloc _).cell? _ = _; rw [World.cell?_alloc_new]; rfl
  have q2 : ((w.alloc (.cells #[.int .i64 1, .int .i64 a, .int .i64 (B : Int), .int .i64 c, .string tr] 64)).drew).cell? ⟨w.heap.size, 2, none⟩ = some (.int .i64 (B : Int)) := by show (w.alloc _).cell? _ = _; rw [World.cell?_alloc_new]; rfl
  have q3 : ((w.alloc (.cells #[.int .i64 1, .int .i64 a, .int .i64 (B : Int), .int .i64 c, .string tr] 64)).drew).cell? ⟨w.heap.size, 3, none⟩ = some (.int .i64 c) := by show (w.alloc _).cell? _ = _; rw [World.cell?_alloc_new]; rfl
  have q0 : ((w.alloc (.cells #[.int .i64 1, .int .i64 a, .int .i64 (B : Int), .int .i64 c, .string tr] 64)).drew).cell? ⟨w.heap.size, 0, none⟩ = some (.int .i64 1) := by show (w.alloc _).cell? _ = _; rw [World.cell?_alloc_new]; rfl
  have M1 := cell_keep hb1 m1; have S0 := cell_keep hb1 s0; have S1 := cell_keep hb1 s1; have HO := cell_keep hb1 ho
  have F1 := (hb1.frozen (p := ⟨R, a, none⟩) (cell_lt ho)).trans f1
  have F2 := (hb1.frozen (p := ⟨s, 0, none⟩) (cell_lt s0)).trans f2
  have HBX := cell_keep hb1 hb
  have HN := Lib.hid (NodeW.below hN hb1)
  have HB1 := Lib.hid hb1
  clear m0 m1 s0 s1 i0 i1 i2 i3 i4 ho f1 f2 hb1 hb hN
  generalize ((w.alloc (.cells #[.int .i64 1, .int .i64 a, .int .i64 (B : Int), .int .i64 c, .string tr] 64)).drew) = w1 at *
  go_wp2_with fail
  refine wp_region_still_tail 15 (by kernel_rfl) (by kernel_rfl) ?_
  change wpStill _ _ w1.drew (fun a' => wpList _ _ _ _ a' w1.drew) _ _
  simp only [List.take_succ_cons, List.take_zero, List.drop_succ_cons, List.drop_zero]
  repeat still_step
  refine wpStill_nil ?_
  go_wp2
  go_ret
  exact ⟨rfl, _, _, HB1.out.drew, NodeW.keep HN.out (KeepT.drewN _ w1 1), by rw [num_succ']; rfl⟩
set_option maxHeartbeats 3200000 in
set_option maxRecDepth 100000 in
theorem rstep_head (w : World) (m C b off n cap k a s R rc : Nat) (t : Tr) (X : Option Addr) (d c : Int) (tr : ByteArray) (old : Value) (hk : k < n) (hn : n ≤ 4000) (ha : a < 32) (hRs : R ≠ s)
    (m0 : w.cell? ⟨m, 0, none⟩ = some (.slice (some ⟨b, off, none⟩) n cap)) (m1 : w.cell? ⟨m, 1, none⟩ = some (.slice (some ⟨C, 0, none⟩) n n)) (s0 : w.cell? ⟨s, 0, none⟩ = some (.int .i64 k)) (s1 : w.cell? ⟨s, 1, none⟩ = some (.slice (some ⟨R, 0, none⟩) 32 rc))
    (i0 : w.cell? ⟨b, off + k * 5, none⟩ = some (.int .i64 3)) (i1 : w.cell? ⟨b, off + k * 5 + 1, none⟩ = some (.int .i64 a)) (i2 : w.cell? ⟨b, off + k * 5 + 2, none⟩ = some (.int .i64 d)) (i3 : w.cell? ⟨b, off + k * 5 + 3, none⟩ = some (.int .i64 c)) (i4 : w.cell? ⟨b, off + k * 5 + 4, none⟩ = some (.string tr))
    (ho : w.cell? ⟨R, a, none⟩ = some old) (f1 : w.frozen? ⟨R, a, none⟩ = false) (f2 : w.frozen? ⟨s, 0, none⟩ = false)
    (B : Nat) (hB : B < 32) (hd : d = (B : Int)) (hb : w.cell? ⟨R, B, none⟩ = some (.pointer X)) (hN : NodeW 42 w t (.pointer X)) :
    Calls Tryz.prog 88 #[.pointer (some ⟨m, 0, none⟩), .pointer (some ⟨s, 0, none⟩)] w (RStepTo w s R a (hdT t) (k + 1)) := by
  have k0 : (0 : Int) ≤ (k : Int) := by omega
  have k1 : (k : Int) < (n : Int) := by omega
  have a0 : (0 : Int) ≤ (a : Int) := by omega
  have a1 : (a : Int) < 32 := by omega
  have hRs' : s ≠ R := fun e => hRs e.symm
  subst hd
  have b0 : (0 : Int) ≤ (B : Int) := by omega
  have b1 : (B : Int) < 32 := by omega
  obtain ⟨y, hy, hcall⟩ := rhead_val hN
  obtain ⟨Y, rfl⟩ := hy.one
  go_enter Tryz.func88, Tryz.ntmps88
  go_wp2
  go_region_held3 (fun w' => w'.cell? ⟨m, 0, none⟩ = some (.slice (some ⟨b, off, none⟩) n cap) ∧ w'.cell? ⟨s, 0, none⟩ = some (.int .i64 k) ∧ w'.cell? ⟨b, off + k * 5, none⟩ = some (.int .i64 3) ∧ w'.cell? ⟨b, off + k * 5 + 1, none⟩ = some (.int .i64 a) ∧ w'.cell? ⟨b, off + k * 5 + 2, none⟩ = some (.int .i64 (B : Int)) ∧ w'.cell? ⟨b, off + k * 5 + 3, none⟩ = some (.int .i64 c) ∧ w'.cell? ⟨b, off + k * 5 + 4, none⟩ = some (.string tr)) (go_keep) (fail)
  have hb1 : Below w.heap.size w ((w.alloc (.cells #[.int .i64 3, .int .i64 a, .int .i64 (B : Int), .int .i64 c, .string tr] 64)).drew) := ((Below.refl _ _).alloc (Nat.le_refl _) _).drew
  have q1 : ((w.alloc (.cells #[.int .i64 3, .int .i64 a, .int .i64 (B : Int), .int .i64 c, .string tr] 64)).drew).cell? ⟨w.heap.size, 1, none⟩ = some (.int .i64 a) := by show (w.alloc _).cell? _ = _; rw [World.cell?_alloc_new]; rfl
  have q2 : ((w.alloc (.cells #[.int .i64 3, .int .i64 a, .int .i64 (B : Int), .int .i64 c, .string tr] 64)).drew).cell? ⟨w.heap.size, 2, none⟩ = some (.int .i64 (B : Int)) := by show (w.alloc _).cell? _ = _; rw [World.cell?_alloc_new]; rfl
  have q3 : ((w.alloc (.cells #[.int .i64 3, .int .i64 a, .int .i64 (B : Int), .int .i64 c, .string tr] 64)).drew).cell? ⟨w.heap.size, 3, none⟩ = some (.int .i64 c) := by show (w.alloc _).cell? _ = _; rw [World.cell?_alloc_new]; rfl
  have q0 : ((w.alloc (.cells #[.int .i64 3, .int .i64 a, .int .i64 (B : Int), .int .i64 c, .string tr] 64)).drew).cell? ⟨w.heap.size, 0, none⟩ = some (.int .i64 3) := by show (w.alloc _).cell? _ = _; rw [World.cell?_alloc_new]; rfl
  have M1 := cell_keep hb1 m1; have S0 := cell_keep hb1 s0; have S1 := cell_keep hb1 s1; have HO := cell_keep hb1 ho
  have F1 := (hb1.frozen (p := ⟨R, a, none⟩) (cell_lt ho)).trans f1
  have F2 := (hb1.frozen (p := ⟨s, 0, none⟩) (cell_lt s0)).trans f2
  have HBX := cell_keep hb1 hb
  have HY := Lib.hid (NodeW.below hy hb1)
  have HCA := Lib.hid (hcall _ ((KeepT.below hb1).trans (KeepT.drewN _ _ 1)))
  have HB1 := Lib.hid hb1
  clear m0 m1 s0 s1 i0 i1 i2 i3 i4 ho f1 f2 hb1 hb hN hy hcall
  generalize ((w.alloc (.cells #[.int .i64 3, .int .i64 a, .int .i64 (B : Int), .int .i64 c, .string tr] 64)).drew) = w1 at *
  go_wp2_with fail
  refine wp_region_still_tail 16 (by kernel_rfl) (by kernel_rfl) ?_
  change wpStill _ _ w1.drew (fun a' => wpList _ _ _ _ a' w1.drew) _ _
  simp only [List.take_succ_cons, List.take_zero, List.drop_succ_cons, List.drop_zero]
  repeat still_step
  still_call HCA.out
  repeat still_step
  refine wpStill_nil ?_
  go_wp2
  go_ret
  exact ⟨rfl, _, _, HB1.out.drew, NodeW.keep HY.out (KeepT.drewN _ w1 1), by rw [num_succ']; rfl⟩
set_option maxHeartbeats 3200000 in
set_option maxRecDepth 100000 in
theorem rstep_tail (w : World) (m C b off n cap k a s R rc : Nat) (t : Tr) (X : Option Addr) (d c : Int) (tr : ByteArray) (old : Value) (hk : k < n) (hn : n ≤ 4000) (ha : a < 32) (hRs : R ≠ s)
    (m0 : w.cell? ⟨m, 0, none⟩ = some (.slice (some ⟨b, off, none⟩) n cap)) (m1 : w.cell? ⟨m, 1, none⟩ = some (.slice (some ⟨C, 0, none⟩) n n)) (s0 : w.cell? ⟨s, 0, none⟩ = some (.int .i64 k)) (s1 : w.cell? ⟨s, 1, none⟩ = some (.slice (some ⟨R, 0, none⟩) 32 rc))
    (i0 : w.cell? ⟨b, off + k * 5, none⟩ = some (.int .i64 4)) (i1 : w.cell? ⟨b, off + k * 5 + 1, none⟩ = some (.int .i64 a)) (i2 : w.cell? ⟨b, off + k * 5 + 2, none⟩ = some (.int .i64 d)) (i3 : w.cell? ⟨b, off + k * 5 + 3, none⟩ = some (.int .i64 c)) (i4 : w.cell? ⟨b, off + k * 5 + 4, none⟩ = some (.string tr))
    (ho : w.cell? ⟨R, a, none⟩ = some old) (f1 : w.frozen? ⟨R, a, none⟩ = false) (f2 : w.frozen? ⟨s, 0, none⟩ = false)
    (B : Nat) (hB : B < 32) (hd : d = (B : Int)) (hb : w.cell? ⟨R, B, none⟩ = some (.pointer X)) (hN : NodeW 42 w t (.pointer X)) :
    Calls Tryz.prog 88 #[.pointer (some ⟨m, 0, none⟩), .pointer (some ⟨s, 0, none⟩)] w (RStepTo w s R a (tlT t) (k + 1)) := by
  have k0 : (0 : Int) ≤ (k : Int) := by omega
  have k1 : (k : Int) < (n : Int) := by omega
  have a0 : (0 : Int) ≤ (a : Int) := by omega
  have a1 : (a : Int) < 32 := by omega
  have hRs' : s ≠ R := fun e => hRs e.symm
  subst hd
  have b0 : (0 : Int) ≤ (B : Int) := by omega
  have b1 : (B : Int) < 32 := by omega
  obtain ⟨y, hy, hcall⟩ := rtail_val hN
  obtain ⟨Y, rfl⟩ := hy.one
  go_enter Tryz.func88, Tryz.ntmps88
  go_wp2
  go_region_held3 (fun w' => w'.cell? ⟨m, 0, none⟩ = some (.slice (some ⟨b, off, none⟩) n cap) ∧ w'.cell? ⟨s, 0, none⟩ = some (.int .i64 k) ∧ w'.cell? ⟨b, off + k * 5, none⟩ = some (.int .i64 4) ∧ w'.cell? ⟨b, off + k * 5 + 1, none⟩ = some (.int .i64 a) ∧ w'.cell? ⟨b, off + k * 5 + 2, none⟩ = some (.int .i64 (B : Int)) ∧ w'.cell? ⟨b, off + k * 5 + 3, none⟩ = some (.int .i64 c) ∧ w'.cell? ⟨b, off + k * 5 + 4, none⟩ = some (.string tr)) (go_keep) (fail)
  have hb1 : Below w.heap.size w ((w.alloc (.cells #[.int .i64 4, .int .i64 a, .int .i64 (B : Int), .int .i64 c, .string tr] 64)).drew) := ((Below.refl _ _).alloc (Nat.le_refl _) _).drew
  have q1 : ((w.alloc (.cells #[.int .i64 4, .int .i64 a, .int .i64 (B : Int), .int .i64 c, .string tr] 64)).drew).cell? ⟨w.heap.size, 1, none⟩ = some (.int .i64 a) := by show (w.alloc _).cell? _ = _; rw [World.cell?_alloc_new]; rfl
  have q2 : ((w.alloc (.cells #[.int .i64 4, .int .i64 a, .int .i64 (B : Int), .int .i64 c, .string tr] 64)).drew).cell? ⟨w.heap.size, 2, none⟩ = some (.int .i64 (B : Int)) := by show (w.alloc _).cell? _ = _; rw [World.cell?_alloc_new]; rfl
  have q3 : ((w.alloc (.cells #[.int .i64 4, .int .i64 a, .int .i64 (B : Int), .int .i64 c, .string tr] 64)).drew).cell? ⟨w.heap.size, 3, none⟩ = some (.int .i64 c) := by show (w.alloc _).cell? _ = _; rw [World.cell?_alloc_new]; rfl
  have q0 : ((w.alloc (.cells #[.int .i64 4, .int .i64 a, .int .i64 (B : Int), .int .i64 c, .string tr] 64)).drew).cell? ⟨w.heap.size, 0, none⟩ = some (.int .i64 4) := by show (w.alloc _).cell? _ = _; rw [World.cell?_alloc_new]; rfl
  have M1 := cell_keep hb1 m1; have S0 := cell_keep hb1 s0; have S1 := cell_keep hb1 s1; have HO := cell_keep hb1 ho
  have F1 := (hb1.frozen (p := ⟨R, a, none⟩) (cell_lt ho)).trans f1
  have F2 := (hb1.frozen (p := ⟨s, 0, none⟩) (cell_lt s0)).trans f2
  have HBX := cell_keep hb1 hb
  have HY := Lib.hid (NodeW.below hy hb1)
  have HCA := Lib.hid (hcall _ ((KeepT.below hb1).trans (KeepT.drewN _ _ 1)))
  have HB1 := Lib.hid hb1
  clear m0 m1 s0 s1 i0 i1 i2 i3 i4 ho f1 f2 hb1 hb hN hy hcall
  generalize ((w.alloc (.cells #[.int .i64 4, .int .i64 a, .int .i64 (B : Int), .int .i64 c, .string tr] 64)).drew) = w1 at *
  go_wp2_with fail
  refine wp_region_still_tail 16 (by kernel_rfl) (by kernel_rfl) ?_
  change wpStill _ _ w1.drew (fun a' => wpList _ _ _ _ a' w1.drew) _ _
  simp only [List.take_succ_cons, List.take_zero, List.drop_succ_cons, List.drop_zero]
  repeat still_step
  still_call HCA.out
  repeat still_step
  refine wpStill_nil ?_
  go_wp2
  go_ret
  exact ⟨rfl, _, _, HB1.out.drew, NodeW.keep HY.out (KeepT.drewN _ w1 1), by rw [num_succ']; rfl⟩
set_option maxHeartbeats 3200000 in
set_option maxRecDepth 100000 in
theorem rstep_cons (w : World) (m C b off n cap k a s R rc : Nat) (t u : Tr) (X Y : Option Addr) (d c : Int) (tr : ByteArray) (old : Value) (hk : k < n) (hn : n ≤ 4000) (ha : a < 32) (hRs : R ≠ s)
    (m0 : w.cell? ⟨m, 0, none⟩ = some (.slice (some ⟨b, off, none⟩) n cap)) (m1 : w.cell? ⟨m, 1, none⟩ = some (.slice (some ⟨C, 0, none⟩) n n)) (s0 : w.cell? ⟨s, 0, none⟩ = some (.int .i64 k)) (s1 : w.cell? ⟨s, 1, none⟩ = some (.slice (some ⟨R, 0, none⟩) 32 rc))
    (i0 : w.cell? ⟨b, off + k * 5, none⟩ = some (.int .i64 2)) (i1 : w.cell? ⟨b, off + k * 5 + 1, none⟩ = some (.int .i64 a)) (i2 : w.cell? ⟨b, off + k * 5 + 2, none⟩ = some (.int .i64 d)) (i3 : w.cell? ⟨b, off + k * 5 + 3, none⟩ = some (.int .i64 c)) (i4 : w.cell? ⟨b, off + k * 5 + 4, none⟩ = some (.string tr))
    (ho : w.cell? ⟨R, a, none⟩ = some old) (f1 : w.frozen? ⟨R, a, none⟩ = false) (f2 : w.frozen? ⟨s, 0, none⟩ = false)
    (B D : Nat) (hB : B < 32) (hD : D < 32) (hd : d = (B : Int)) (hc : c = (D : Int)) (hb : w.cell? ⟨R, B, none⟩ = some (.pointer X)) (hdd : w.cell? ⟨R, D, none⟩ = some (.pointer Y)) (hN : NodeW 42 w t (.pointer X)) (hN2 : NodeW 42 w u (.pointer Y)) (lt : (tx t).length ≤ 2000000) (lu : (tx u).length ≤ 2000000) (hl : (tx (.pair t u)).length ≤ 2000000) :
    Calls Tryz.prog 88 #[.pointer (some ⟨m, 0, none⟩), .pointer (some ⟨s, 0, none⟩)] w (RStepTo w s R a (.pair t u) (k + 1)) := by
  have k0 : (0 : Int) ≤ (k : Int) := by omega
  have k1 : (k : Int) < (n : Int) := by omega
  have a0 : (0 : Int) ≤ (a : Int) := by omega
  have a1 : (a : Int) < 32 := by omega
  have hRs' : s ≠ R := fun e => hRs e.symm
  subst hd
  subst hc
  have b0 : (0 : Int) ≤ (B : Int) := by omega
  have b1 : (B : Int) < 32 := by omega
  have d0 : (0 : Int) ≤ (D : Int) := by omega
  have d1 : (D : Int) < 32 := by omega
  have HCC := Lib.hid (fun W h1 h2 => rCons_any W t u (.pointer X) (.pointer Y) h1 h2 lt lu)
  have LN : ((tx (.pair t u)).length : Int) ≤ 2000000 := by omega
  go_enter Tryz.func88, Tryz.ntmps88
  go_wp2
  go_region_held3 (fun w' => w'.cell? ⟨m, 0, none⟩ = some (.slice (some ⟨b, off, none⟩) n cap) ∧ w'.cell? ⟨s, 0, none⟩ = some (.int .i64 k) ∧ w'.cell? ⟨b, off + k * 5, none⟩ = some (.int .i64 2) ∧ w'.cell? ⟨b, off + k * 5 + 1, none⟩ = some (.int .i64 a) ∧ w'.cell? ⟨b, off + k * 5 + 2, none⟩ = some (.int .i64 (B : Int)) ∧ w'.cell? ⟨b, off + k * 5 + 3, none⟩ = some (.int .i64 (D : Int)) ∧ w'.cell? ⟨b, off + k * 5 + 4, none⟩ = some (.string tr)) (go_keep) (fail)
  have hb1 : Below w.heap.size w ((w.alloc (.cells #[.int .i64 2, .int .i64 a, .int .i64 (B : Int), .int .i64 (D : Int), .string tr] 64)).drew) := ((Below.refl _ _).alloc (Nat.le_refl _) _).drew
  have q1 : ((w.alloc (.cells #[.int .i64 2, .int .i64 a, .int .i64 (B : Int), .int .i64 (D : Int), .string tr] 64)).drew).cell? ⟨w.heap.size, 1, none⟩ = some (.int .i64 a) := by show (w.alloc _).cell? _ = _; rw [World.cell?_alloc_new]; rfl
  have q2 : ((w.alloc (.cells #[.int .i64 2, .int .i64 a, .int .i64 (B : Int), .int .i64 (D : Int), .string tr] 64)).drew).cell? ⟨w.heap.size, 2, none⟩ = some (.int .i64 (B : Int)) := by show (w.alloc _).cell? _ = _; rw [World.cell?_alloc_new]; rfl
  have q3 : ((w.alloc (.cells #[.int .i64 2, .int .i64 a, .int .i64 (B : Int), .int .i64 (D : Int), .string tr] 64)).drew).cell? ⟨w.heap.size, 3, none⟩ = some (.int .i64 (D : Int)) := by show (w.alloc _).cell? _ = _; rw [World.cell?_alloc_new]; rfl
  have q0 : ((w.alloc (.cells #[.int .i64 2, .int .i64 a, .int .i64 (B : Int), .int .i64 (D : Int), .string tr] 64)).drew).cell? ⟨w.heap.size, 0, none⟩ = some (.int .i64 2) := by show (w.alloc _).cell? _ = _; rw [World.cell?_alloc_new]; rfl
  have M1 := cell_keep hb1 m1; have S0 := cell_keep hb1 s0; have S1 := cell_keep hb1 s1; have HO := cell_keep hb1 ho
  have F1 := (hb1.frozen (p := ⟨R, a, none⟩) (cell_lt ho)).trans f1
  have F2 := (hb1.frozen (p := ⟨s, 0, none⟩) (cell_lt s0)).trans f2
  have HBX := cell_keep hb1 hb
  have HDX := cell_keep hb1 hdd
  have HN := Lib.hid (NodeW.below hN hb1)
  have HN2 := Lib.hid (NodeW.below hN2 hb1)
  have HB1 := Lib.hid hb1
  clear m0 m1 s0 s1 i0 i1 i2 i3 i4 ho f1 f2 hb1 hb hdd hN hN2 lt lu hl
  generalize ((w.alloc (.cells #[.int .i64 2, .int .i64 a, .int .i64 (B : Int), .int .i64 (D : Int), .string tr] 64)).drew) = w1 at *
  go_wp2_with fail
  refine wp_region_still_tail 16 (by kernel_rfl) (by kernel_rfl) ?_
  change wpStill _ _ w1.drew (fun a' => wpList _ _ _ _ a' w1.drew) _ _
  simp only [List.take_succ_cons, List.take_zero, List.drop_succ_cons, List.drop_zero]
  repeat still_step
  refine wpStill_nil ?_
  go_wp2_with fail
  refine (HCC.out _ (NodeW.keep HN.out (KeepT.drewN _ w1 1)) (NodeW.keep HN2.out (KeepT.drewN _ w1 1))).mono ?_
  rintro e w2 ⟨v, rfl, hv, hb2⟩
  have hb12 : Below w1.heap.size w1 w2 := ((Below.refl _ w1).drew).trans hb2
  have HB2 := Lib.hid (HB1.out.trans (hb12.mono HB1.out.size))
  have HV := Lib.hid hv
  obtain ⟨BB, oo, xx, yy, rfl, _, _, hcn, _, _⟩ := hv
  have hcnt := hcn.2
  have S0 := cell_keep hb12 S0; have S1 := cell_keep hb12 S1; have F1 := (hb12.frozen (p := ⟨R, a, none⟩) (cell_lt HO)).trans F1; have HO := cell_keep hb12 HO
  have q1 := cell_keep hb12 q1
  have F2 : w2.frozen? ⟨s, 0, none⟩ = false := (hb12.frozen (p := ⟨s, 0, none⟩) (cell_lt ‹w1.cell? ⟨s, 0, none⟩ = some (.int .i64 k)›)).trans F2
  have HLN := Lib.hid LN
  clear hb12 hb2 hcn HB1 HN HN2 HCC q0 q2 q3 M1 HBX HDX
  have LN := HLN.out
  generalize (tx (.pair t u)).length = ln at *
  go_wp2_with fail
  refine wp_region_still_tail 8 (by kernel_rfl) (by kernel_rfl) ?_
  change wpStill _ _ w2.drew (fun a' => wpList _ _ _ _ a' w2.drew) _ _
  simp only [List.take_succ_cons, List.take_zero, List.drop_succ_cons, List.drop_zero]
  repeat still_step
  refine wpStill_nil ?_
  go_wp2
  go_ret
  exact ⟨rfl, _, _, HB2.out.drew, NodeW.keep HV.out (KeepT.drewN _ w2 1), by rw [num_succ']; rfl⟩
set_option maxHeartbeats 3200000 in
set_option maxRecDepth 100000 in
theorem rstep_large (w : World) (m C b off n cap k a s R rc : Nat) (t u : Tr) (X Y : Option Addr) (d c : Int) (tr : ByteArray) (old : Value) (hk : k < n) (_hn : n ≤ 4000) (ha : a < 32) (hRs : R ≠ s)
    (m0 : w.cell? ⟨m, 0, none⟩ = some (.slice (some ⟨b, off, none⟩) n cap)) (m1 : w.cell? ⟨m, 1, none⟩ = some (.slice (some ⟨C, 0, none⟩) n n)) (s0 : w.cell? ⟨s, 0, none⟩ = some (.int .i64 k)) (s1 : w.cell? ⟨s, 1, none⟩ = some (.slice (some ⟨R, 0, none⟩) 32 rc))
    (i0 : w.cell? ⟨b, off + k * 5, none⟩ = some (.int .i64 2)) (i1 : w.cell? ⟨b, off + k * 5 + 1, none⟩ = some (.int .i64 a)) (i2 : w.cell? ⟨b, off + k * 5 + 2, none⟩ = some (.int .i64 d)) (i3 : w.cell? ⟨b, off + k * 5 + 3, none⟩ = some (.int .i64 c)) (i4 : w.cell? ⟨b, off + k * 5 + 4, none⟩ = some (.string tr))
    (ho : w.cell? ⟨R, a, none⟩ = some old) (f1 : w.frozen? ⟨R, a, none⟩ = false) (f2 : w.frozen? ⟨s, 0, none⟩ = false)
    (B D : Nat) (hB : B < 32) (hD : D < 32) (hd : d = (B : Int)) (hc : c = (D : Int)) (hb : w.cell? ⟨R, B, none⟩ = some (.pointer X)) (hdd : w.cell? ⟨R, D, none⟩ = some (.pointer Y)) (hN : NodeW 42 w t (.pointer X)) (hN2 : NodeW 42 w u (.pointer Y)) (lt : (tx t).length ≤ 2000000) (lu : (tx u).length ≤ 2000000) (hl : ¬ (tx (.pair t u)).length ≤ 2000000) :
    Calls Tryz.prog 88 #[.pointer (some ⟨m, 0, none⟩), .pointer (some ⟨s, 0, none⟩)] w fun e w' => e = .returned (.bool false) ∧ Below w.heap.size w w' := by
  have k0 : (0 : Int) ≤ (k : Int) := by omega
  have k1 : (k : Int) < (n : Int) := by omega
  have a0 : (0 : Int) ≤ (a : Int) := by omega
  have a1 : (a : Int) < 32 := by omega
  have hRs' : s ≠ R := fun e => hRs e.symm
  subst hd
  subst hc
  have b0 : (0 : Int) ≤ (B : Int) := by omega
  have b1 : (B : Int) < 32 := by omega
  have d0 : (0 : Int) ≤ (D : Int) := by omega
  have d1 : (D : Int) < 32 := by omega
  have HCC := Lib.hid (fun W h1 h2 => rCons_any W t u (.pointer X) (.pointer Y) h1 h2 lt lu)
  have LN : (2000000 : Int) < ((tx (.pair t u)).length : Int) := by omega
  go_enter Tryz.func88, Tryz.ntmps88
  go_wp2
  go_region_held3 (fun w' => w'.cell? ⟨m, 0, none⟩ = some (.slice (some ⟨b, off, none⟩) n cap) ∧ w'.cell? ⟨s, 0, none⟩ = some (.int .i64 k) ∧ w'.cell? ⟨b, off + k * 5, none⟩ = some (.int .i64 2) ∧ w'.cell? ⟨b, off + k * 5 + 1, none⟩ = some (.int .i64 a) ∧ w'.cell? ⟨b, off + k * 5 + 2, none⟩ = some (.int .i64 (B : Int)) ∧ w'.cell? ⟨b, off + k * 5 + 3, none⟩ = some (.int .i64 (D : Int)) ∧ w'.cell? ⟨b, off + k * 5 + 4, none⟩ = some (.string tr)) (go_keep) (fail)
  have hb1 : Below w.heap.size w ((w.alloc (.cells #[.int .i64 2, .int .i64 a, .int .i64 (B : Int), .int .i64 (D : Int), .string tr] 64)).drew) := ((Below.refl _ _).alloc (Nat.le_refl _) _).drew
  have q1 : ((w.alloc (.cells #[.int .i64 2, .int .i64 a, .int .i64 (B : Int), .int .i64 (D : Int), .string tr] 64)).drew).cell? ⟨w.heap.size, 1, none⟩ = some (.int .i64 a) := by show (w.alloc _).cell? _ = _; rw [World.cell?_alloc_new]; rfl
  have q2 : ((w.alloc (.cells #[.int .i64 2, .int .i64 a, .int .i64 (B : Int), .int .i64 (D : Int), .string tr] 64)).drew).cell? ⟨w.heap.size, 2, none⟩ = some (.int .i64 (B : Int)) := by show (w.alloc _).cell? _ = _; rw [World.cell?_alloc_new]; rfl
  have q3 : ((w.alloc (.cells #[.int .i64 2, .int .i64 a, .int .i64 (B : Int), .int .i64 (D : Int), .string tr] 64)).drew).cell? ⟨w.heap.size, 3, none⟩ = some (.int .i64 (D : Int)) := by show (w.alloc _).cell? _ = _; rw [World.cell?_alloc_new]; rfl
  have q0 : ((w.alloc (.cells #[.int .i64 2, .int .i64 a, .int .i64 (B : Int), .int .i64 (D : Int), .string tr] 64)).drew).cell? ⟨w.heap.size, 0, none⟩ = some (.int .i64 2) := by show (w.alloc _).cell? _ = _; rw [World.cell?_alloc_new]; rfl
  have M1 := cell_keep hb1 m1; have S0 := cell_keep hb1 s0; have S1 := cell_keep hb1 s1; have HO := cell_keep hb1 ho
  have F1 := (hb1.frozen (p := ⟨R, a, none⟩) (cell_lt ho)).trans f1
  have F2 := (hb1.frozen (p := ⟨s, 0, none⟩) (cell_lt s0)).trans f2
  have HBX := cell_keep hb1 hb
  have HDX := cell_keep hb1 hdd
  have HN := Lib.hid (NodeW.below hN hb1)
  have HN2 := Lib.hid (NodeW.below hN2 hb1)
  have HB1 := Lib.hid hb1
  clear m0 m1 s0 s1 i0 i1 i2 i3 i4 ho f1 f2 hb1 hb hdd hN hN2 lt lu hl
  generalize ((w.alloc (.cells #[.int .i64 2, .int .i64 a, .int .i64 (B : Int), .int .i64 (D : Int), .string tr] 64)).drew) = w1 at *
  go_wp2_with fail
  refine wp_region_still_tail 16 (by kernel_rfl) (by kernel_rfl) ?_
  change wpStill _ _ w1.drew (fun a' => wpList _ _ _ _ a' w1.drew) _ _
  simp only [List.take_succ_cons, List.take_zero, List.drop_succ_cons, List.drop_zero]
  repeat still_step
  refine wpStill_nil ?_
  go_wp2_with fail
  refine (HCC.out _ (NodeW.keep HN.out (KeepT.drewN _ w1 1)) (NodeW.keep HN2.out (KeepT.drewN _ w1 1))).mono ?_
  rintro e w2 ⟨v, rfl, hv, hb2⟩
  have hb12 : Below w1.heap.size w1 w2 := ((Below.refl _ w1).drew).trans hb2
  have HB2 := Lib.hid (HB1.out.trans (hb12.mono HB1.out.size))
  have HV := Lib.hid hv
  obtain ⟨BB, oo, xx, yy, rfl, _, _, hcn, _, _⟩ := hv
  have hcnt := hcn.2
  have S0 := cell_keep hb12 S0; have S1 := cell_keep hb12 S1; have F1 := (hb12.frozen (p := ⟨R, a, none⟩) (cell_lt HO)).trans F1; have HO := cell_keep hb12 HO
  have q1 := cell_keep hb12 q1
  have F2 : w2.frozen? ⟨s, 0, none⟩ = false := (hb12.frozen (p := ⟨s, 0, none⟩) (cell_lt ‹w1.cell? ⟨s, 0, none⟩ = some (.int .i64 k)›)).trans F2
  have HLN := Lib.hid LN
  clear hb12 hb2 hcn HB1 HN HN2 HCC q0 q2 q3 M1 HBX HDX
  have LN := HLN.out
  generalize (tx (.pair t u)).length = ln at *
  go_wp2
  go_ret
  exact ⟨rfl, HB2.out⟩
set_option maxHeartbeats 3200000 in
set_option maxRecDepth 100000 in
theorem rstep_stay (w : World) (m C b off n cap k a s R rc : Nat)  (d c : Int) (tr : ByteArray) (old : Value) (hk : k < n) (hn : n ≤ 4000) (ha : a < 32) (hRs : R ≠ s)
    (m0 : w.cell? ⟨m, 0, none⟩ = some (.slice (some ⟨b, off, none⟩) n cap)) (m1 : w.cell? ⟨m, 1, none⟩ = some (.slice (some ⟨C, 0, none⟩) n n)) (s0 : w.cell? ⟨s, 0, none⟩ = some (.int .i64 k)) (s1 : w.cell? ⟨s, 1, none⟩ = some (.slice (some ⟨R, 0, none⟩) 32 rc))
    (i0 : w.cell? ⟨b, off + k * 5, none⟩ = some (.int .i64 5)) (i1 : w.cell? ⟨b, off + k * 5 + 1, none⟩ = some (.int .i64 a)) (i2 : w.cell? ⟨b, off + k * 5 + 2, none⟩ = some (.int .i64 d)) (i3 : w.cell? ⟨b, off + k * 5 + 3, none⟩ = some (.int .i64 c)) (i4 : w.cell? ⟨b, off + k * 5 + 4, none⟩ = some (.string tr))
    (ho : w.cell? ⟨R, a, none⟩ = some old) (f1 : w.frozen? ⟨R, a, none⟩ = false) (f2 : w.frozen? ⟨s, 0, none⟩ = false)
    (hx : w.cell? ⟨R, a, none⟩ = some (.pointer none)) :
    Calls Tryz.prog 88 #[.pointer (some ⟨m, 0, none⟩), .pointer (some ⟨s, 0, none⟩)] w (RStepGo w s (k + 1)) := by
  have k0 : (0 : Int) ≤ (k : Int) := by omega
  have k1 : (k : Int) < (n : Int) := by omega
  have a0 : (0 : Int) ≤ (a : Int) := by omega
  have a1 : (a : Int) < 32 := by omega
  have hRs' : s ≠ R := fun e => hRs e.symm
  go_enter Tryz.func88, Tryz.ntmps88
  go_wp2
  go_region_held3 (fun w' => w'.cell? ⟨m, 0, none⟩ = some (.slice (some ⟨b, off, none⟩) n cap) ∧ w'.cell? ⟨s, 0, none⟩ = some (.int .i64 k) ∧ w'.cell? ⟨b, off + k * 5, none⟩ = some (.int .i64 5) ∧ w'.cell? ⟨b, off + k * 5 + 1, none⟩ = some (.int .i64 a) ∧ w'.cell? ⟨b, off + k * 5 + 2, none⟩ = some (.int .i64 d) ∧ w'.cell? ⟨b, off + k * 5 + 3, none⟩ = some (.int .i64 c) ∧ w'.cell? ⟨b, off + k * 5 + 4, none⟩ = some (.string tr)) (go_keep) (fail)
  have hb1 : Below w.heap.size w ((w.alloc (.cells #[.int .i64 5, .int .i64 a, .int .i64 d, .int .i64 c, .string tr] 64)).drew) := ((Below.refl _ _).alloc (Nat.le_refl _) _).drew
  have q1 : ((w.alloc (.cells #[.int .i64 5, .int .i64 a, .int .i64 d, .int .i64 c, .string tr] 64)).drew).cell? ⟨w.heap.size, 1, none⟩ = some (.int .i64 a) := by show (w.alloc _).cell? _ = _; rw [World.cell?_alloc_new]; rfl
  have q2 : ((w.alloc (.cells #[.int .i64 5, .int .i64 a, .int .i64 d, .int .i64 c, .string tr] 64)).drew).cell? ⟨w.heap.size, 2, none⟩ = some (.int .i64 d) := by show (w.alloc _).cell? _ = _; rw [World.cell?_alloc_new]; rfl
  have q3 : ((w.alloc (.cells #[.int .i64 5, .int .i64 a, .int .i64 d, .int .i64 c, .string tr] 64)).drew).cell? ⟨w.heap.size, 3, none⟩ = some (.int .i64 c) := by show (w.alloc _).cell? _ = _; rw [World.cell?_alloc_new]; rfl
  have q0 : ((w.alloc (.cells #[.int .i64 5, .int .i64 a, .int .i64 d, .int .i64 c, .string tr] 64)).drew).cell? ⟨w.heap.size, 0, none⟩ = some (.int .i64 5) := by show (w.alloc _).cell? _ = _; rw [World.cell?_alloc_new]; rfl
  have M1 := cell_keep hb1 m1; have S0 := cell_keep hb1 s0; have S1 := cell_keep hb1 s1; have HO := cell_keep hb1 ho
  have F1 := (hb1.frozen (p := ⟨R, a, none⟩) (cell_lt ho)).trans f1
  have F2 := (hb1.frozen (p := ⟨s, 0, none⟩) (cell_lt s0)).trans f2
  have HX := cell_keep hb1 hx
  have HB1 := Lib.hid hb1
  clear m0 m1 s0 s1 i0 i1 i2 i3 i4 ho f1 f2 hb1 hx HO
  generalize ((w.alloc (.cells #[.int .i64 5, .int .i64 a, .int .i64 d, .int .i64 c, .string tr] 64)).drew) = w1 at *
  go_wp2_with fail
  go_quiet (fail)
  go_wp2
  go_ret
  exact ⟨rfl, _, bdrewN HB1.out nq, rfl⟩
set_option maxHeartbeats 3200000 in
set_option maxRecDepth 100000 in
theorem rstep_jump (w : World) (m C b off n cap k a s R rc : Nat) (X : Addr) (d c : Int) (tr : ByteArray) (old : Value) (hk : k < n) (hn : n ≤ 4000) (ha : a < 32) (hRs : R ≠ s)
    (m0 : w.cell? ⟨m, 0, none⟩ = some (.slice (some ⟨b, off, none⟩) n cap)) (m1 : w.cell? ⟨m, 1, none⟩ = some (.slice (some ⟨C, 0, none⟩) n n)) (s0 : w.cell? ⟨s, 0, none⟩ = some (.int .i64 k)) (s1 : w.cell? ⟨s, 1, none⟩ = some (.slice (some ⟨R, 0, none⟩) 32 rc))
    (i0 : w.cell? ⟨b, off + k * 5, none⟩ = some (.int .i64 5)) (i1 : w.cell? ⟨b, off + k * 5 + 1, none⟩ = some (.int .i64 a)) (i2 : w.cell? ⟨b, off + k * 5 + 2, none⟩ = some (.int .i64 d)) (i3 : w.cell? ⟨b, off + k * 5 + 3, none⟩ = some (.int .i64 c)) (i4 : w.cell? ⟨b, off + k * 5 + 4, none⟩ = some (.string tr))
    (ho : w.cell? ⟨R, a, none⟩ = some old) (f1 : w.frozen? ⟨R, a, none⟩ = false) (f2 : w.frozen? ⟨s, 0, none⟩ = false)
    (hx : w.cell? ⟨R, a, none⟩ = some (.pointer (some X))) (d0 : -(k : Int) ≤ d) (d1 : d ≤ n - k) :
    Calls Tryz.prog 88 #[.pointer (some ⟨m, 0, none⟩), .pointer (some ⟨s, 0, none⟩)] w (RStepGo w s (k + d)) := by
  have k0 : (0 : Int) ≤ (k : Int) := by omega
  have k1 : (k : Int) < (n : Int) := by omega
  have a0 : (0 : Int) ≤ (a : Int) := by omega
  have a1 : (a : Int) < 32 := by omega
  have hRs' : s ≠ R := fun e => hRs e.symm
  go_enter Tryz.func88, Tryz.ntmps88
  go_wp2
  go_region_held3 (fun w' => w'.cell? ⟨m, 0, none⟩ = some (.slice (some ⟨b, off, none⟩) n cap) ∧ w'.cell? ⟨s, 0, none⟩ = some (.int .i64 k) ∧ w'.cell? ⟨b, off + k * 5, none⟩ = some (.int .i64 5) ∧ w'.cell? ⟨b, off + k * 5 + 1, none⟩ = some (.int .i64 a) ∧ w'.cell? ⟨b, off + k * 5 + 2, none⟩ = some (.int .i64 d) ∧ w'.cell? ⟨b, off + k * 5 + 3, none⟩ = some (.int .i64 c) ∧ w'.cell? ⟨b, off + k * 5 + 4, none⟩ = some (.string tr)) (go_keep) (fail)
  have hb1 : Below w.heap.size w ((w.alloc (.cells #[.int .i64 5, .int .i64 a, .int .i64 d, .int .i64 c, .string tr] 64)).drew) := ((Below.refl _ _).alloc (Nat.le_refl _) _).drew
  have q1 : ((w.alloc (.cells #[.int .i64 5, .int .i64 a, .int .i64 d, .int .i64 c, .string tr] 64)).drew).cell? ⟨w.heap.size, 1, none⟩ = some (.int .i64 a) := by show (w.alloc _).cell? _ = _; rw [World.cell?_alloc_new]; rfl
  have q2 : ((w.alloc (.cells #[.int .i64 5, .int .i64 a, .int .i64 d, .int .i64 c, .string tr] 64)).drew).cell? ⟨w.heap.size, 2, none⟩ = some (.int .i64 d) := by show (w.alloc _).cell? _ = _; rw [World.cell?_alloc_new]; rfl
  have q3 : ((w.alloc (.cells #[.int .i64 5, .int .i64 a, .int .i64 d, .int .i64 c, .string tr] 64)).drew).cell? ⟨w.heap.size, 3, none⟩ = some (.int .i64 c) := by show (w.alloc _).cell? _ = _; rw [World.cell?_alloc_new]; rfl
  have q0 : ((w.alloc (.cells #[.int .i64 5, .int .i64 a, .int .i64 d, .int .i64 c, .string tr] 64)).drew).cell? ⟨w.heap.size, 0, none⟩ = some (.int .i64 5) := by show (w.alloc _).cell? _ = _; rw [World.cell?_alloc_new]; rfl
  have M1 := cell_keep hb1 m1; have S0 := cell_keep hb1 s0; have S1 := cell_keep hb1 s1; have HO := cell_keep hb1 ho
  have F1 := (hb1.frozen (p := ⟨R, a, none⟩) (cell_lt ho)).trans f1
  have F2 := (hb1.frozen (p := ⟨s, 0, none⟩) (cell_lt s0)).trans f2
  have HX := cell_keep hb1 hx
  have HB1 := Lib.hid hb1
  clear m0 m1 s0 s1 i0 i1 i2 i3 i4 ho f1 f2 hb1 hx HO
  generalize ((w.alloc (.cells #[.int .i64 5, .int .i64 a, .int .i64 d, .int .i64 c, .string tr] 64)).drew) = w1 at *
  go_wp2_with fail
  go_quiet (fail)
  go_wp2_with fail
  refine wp_region_still_tail 10 (by kernel_rfl) (by kernel_rfl) ?_
  change wpStill _ _ (w1.drewN nq).drew (fun a' => wpList _ _ _ _ a' (w1.drewN nq).drew) _ _
  simp only [List.take_succ_cons, List.take_zero, List.drop_succ_cons, List.drop_zero]
  repeat still_step
  refine wpStill_nil ?_
  go_wp2
  go_ret
  exact ⟨rfl, _, (bdrewN HB1.out nq).drew, rfl⟩
theorem rended_any (w : World) (m s n cap k : Nat) (A : Option Addr) (hn : n ≤ 4000) (hk : k ≤ n) (m0 : w.cell? ⟨m, 0, none⟩ = some (.slice A n cap)) (s0 : w.cell? ⟨s, 0, none⟩ = some (.int .i64 k)) :
    Calls Tryz.prog 81 #[.pointer (some ⟨m, 0, none⟩), .pointer (some ⟨s, 0, none⟩)] w fun e w' => e = .returned (.bool (k == n)) ∧ ∃ q, w' = w.drewN q := by
  rcases Nat.lt_or_ge k n with h | h
  · have e1 : (k == n) = false := by simp; omega
    have e2 : ((k : Int) == (n : Int)) = false := by simp; omega
    rw [e1]
    go_enter Tryz.func81, Tryz.ntmps81
    go_wp2
    go_quiet (fail)
    go_wp2
    go_ret
    exact ⟨rfl, _, rfl⟩
  · obtain rfl : k = n := by omega
    rw [show (k == k) = true from by simp]
    go_enter Tryz.func81, Tryz.ntmps81
    go_wp2
    go_quiet (fail)
    go_wp2
    go_ret
    exact ⟨rfl, _, rfl⟩
end Go.Proofs.YtmhoacnbmbhcjaaGreatDoor

namespace Go.Proofs.YtmhoacnbmbhcjaaGreatDoor
open Go.RowKit Pl

/-- only the blocks s and R have changed, and there may be new ones -/
structure But2 (s R : Nat) (w w' : World) : Prop where
  os : w'.os = w.os
  tape : w'.tape = w.tape
  output : w'.output = w.output
  size : w.heap.size ≤ w'.heap.size
  block : ∀ k, k < w.heap.size → k ≠ s → k ≠ R → w'.heap[k]? = w.heap[k]?
theorem But2.trans {s R : Nat} {a b c : World} (h : But2 s R a b) (k : But2 s R b c) : But2 s R a c :=
  ⟨k.os.trans h.os, k.tape.trans h.tape, k.output.trans h.output, Nat.le_trans h.size k.size, fun x hx h1 h2 => (k.block x (Nat.lt_of_lt_of_le hx h.size) h1 h2).trans (h.block x hx h1 h2)⟩
theorem But2.of_below {s R : Nat} {w w' : World} (h : Below w.heap.size w w') : But2 s R w w' := ⟨h.os, h.tape, h.output, h.size, fun k hk _ _ => h.block k hk⟩
theorem But2.setS {s R o : Nat} (w : World) (v : Value) : But2 s R w (w.setCell ⟨s, o, none⟩ v) :=
  ⟨rfl, rfl, rfl, by simp [World.setCell], fun k _ hM _ => Below.heap_setCell w _ v k hM⟩
theorem But2.setR {s R o : Nat} (w : World) (v : Value) : But2 s R w (w.setCell ⟨R, o, none⟩ v) :=
  ⟨rfl, rfl, rfl, by simp [World.setCell], fun k _ _ hM => Below.heap_setCell w _ v k hM⟩
theorem But2.below {s R B : Nat} {w w' : World} (h : But2 s R w w') (h1 : B ≤ s) (h2 : B ≤ R) (hs : B ≤ w.heap.size) : Below B w w' :=
  ⟨h.os, h.tape, h.output, h.size, fun k hk => h.block k (by omega) (by omega) (by omega)⟩
theorem But2.keepT {s R : Nat} {τ : TypeId} {w w' : World} (h : But2 s R w w') (h1 : ¬ TagB w s τ) (h2 : ¬ TagB w R τ) : KeepT τ w w' :=
  ⟨h.size, fun b hb => h.block b hb.lt (fun e => h1 (e ▸ hb)) (fun e => h2 (e ▸ hb))⟩
/-- a machine of the reference's with a state -/
structure RM (w : World) (n0 m C s R : Nat) (ps : List Ins) (st : St) : Prop where
  prog : ∃ v, w.cell? ⟨m, 0, none⟩ = some v ∧ ArgP w v ps ∧ ∀ k, 0 < ps.length → v.ownBlock = some k → k < n0
  consts : w.cell? ⟨m, 1, none⟩ = some (.slice (some ⟨C, 0, none⟩) ps.length ps.length)
  trees : ∀ k x, ps[k]? = some x → x.op = 0 → ∃ y, w.cell? ⟨C, k, none⟩ = some y ∧ NodeW 42 w (rd x.tree) y
  place : w.cell? ⟨s, 0, none⟩ = some (.int .i64 (st.at_ : Int))
  regsv : ∃ rc, w.cell? ⟨s, 1, none⟩ = some (.slice (some ⟨R, 0, none⟩) 32 rc)
  regs : ∀ r, r < 32 → ∃ x, w.cell? ⟨R, r, none⟩ = some x ∧ NodeW 42 w (st.regs[r]?.getD .nil) x
  tagm : TagB w m 93
  tagC : TagB w C 36
  tagS : TagB w s 99
  tagR : TagB w R 36
  freeS : ∀ o, w.frozen? ⟨s, o, none⟩ = false
  freeR : ∀ o, w.frozen? ⟨R, o, none⟩ = false
  old : n0 ≤ s ∧ n0 ≤ R ∧ n0 ≤ w.heap.size ∧ C ≠ R
theorem cell_same {w w' : World} {b o : Nat} (h : w'.heap[b]? = w.heap[b]?) : w'.cell? ⟨b, o, none⟩ = w.cell? ⟨b, o, none⟩ := World.cell?_of_block (w := w) (a := ⟨b, o, none⟩) h
theorem frozen_same {w w' : World} {b o : Nat} (h : w'.heap[b]? = w.heap[b]?) : w'.frozen? ⟨b, o, none⟩ = w.frozen? ⟨b, o, none⟩ := World.frozen?_of_block (w := w) (a := ⟨b, o, none⟩) h
theorem RM.below {w w' : World} {n0 m C s R : Nat} {ps : List Ins} {st : St} (h : RM w n0 m C s R ps st) (hb : Below w.heap.size w w') : RM w' n0 m C s R ps st := by
  have hN : KeepT 42 w w' := KeepT.below hb
  have hP : KeepT 36 w w' := KeepT.below hb
  refine ⟨?_, cell_keep hb h.consts, fun k x hx h0 => ?_, cell_keep hb h.place, ?_, fun r hr => ?_, h.tagm.keep (KeepT.below hb), h.tagC.keep hP, h.tagS.keep (KeepT.below hb), h.tagR.keep hP, fun o => (frozen_same (hb.block s h.tagS.lt)).trans (h.freeS o), fun o => (frozen_same (hb.block R h.tagR.lt)).trans (h.freeR o), h.old.1, h.old.2.1, Nat.le_trans h.old.2.2.1 hb.size, h.old.2.2.2⟩
  · obtain ⟨v, h1, h2, h3⟩ := h.prog
    exact ⟨v, cell_keep hb h1, h2.below hb, h3⟩
  · obtain ⟨y, h1, h2⟩ := h.trees k x hx h0
    exact ⟨y, cell_keep hb h1, NodeW.keep h2 hN⟩
  · obtain ⟨rc, h1⟩ := h.regsv
    exact ⟨rc, cell_keep hb h1⟩
  · obtain ⟨x, h1, h2⟩ := h.regs r hr
    exact ⟨x, cell_keep hb h1, NodeW.keep h2 hN⟩
/-- what a change of the state's two blocks leaves of a machine -/
theorem RM.upd {w w' : World} {n0 m C s R : Nat} {ps : List Ins} {st st' : St} (h : RM w n0 m C s R ps st) (hb : But2 s R w w') (hp : w'.cell? ⟨s, 0, none⟩ = some (.int .i64 (st'.at_ : Int))) (hs1 : w'.cell? ⟨s, 1, none⟩ = w.cell? ⟨s, 1, none⟩)
    (hr : ∀ r, r < 32 → ∃ x, w'.cell? ⟨R, r, none⟩ = some x ∧ NodeW 42 w (st'.regs[r]?.getD .nil) x) (htS : TagB w' s 99) (htR : TagB w' R 36) (hfS : ∀ o, w'.frozen? ⟨s, o, none⟩ = false) (hfR : ∀ o, w'.frozen? ⟨R, o, none⟩ = false) :
    RM w' n0 m C s R ps st' := by
  have hN : KeepT 42 w w' := hb.keepT (h.tagS.ne (by decide)) (h.tagR.ne (by decide))
  have hm1 : m ≠ s := fun e => by have := tag_three h.tagm (e ▸ h.tagS); exact absurd this (by decide)
  have hm2 : m ≠ R := fun e => by have := tag_three h.tagm (e ▸ h.tagR); exact absurd this (by decide)
  have hc1 : C ≠ s := fun e => by have := tag_three h.tagC (e ▸ h.tagS); exact absurd this (by decide)
  have hM := fun o => cell_same (o := o) (hb.block m h.tagm.lt hm1 hm2)
  have hC := fun o => cell_same (o := o) (hb.block C h.tagC.lt hc1 h.old.2.2.2)
  refine ⟨?_, (hM _).trans h.consts, fun k x hx h0 => ?_, hp, ?_, fun r hr' => ?_, ?_, ?_, htS, htR, hfS, hfR, h.old.1, h.old.2.1, Nat.le_trans h.old.2.2.1 hb.size, h.old.2.2.2⟩
  · obtain ⟨v, h1, h2, h3⟩ := h.prog
    exact ⟨v, (hM _).trans h1, h2.keep h3 (fun k hk => hb.block k (by have := h.old.2.2.1; omega) (by have := h.old.1; omega) (by have := h.old.2.1; omega)) hb.size, h3⟩
  · obtain ⟨y, h1, h2⟩ := h.trees k x hx h0
    exact ⟨y, (hC _).trans h1, NodeW.keep h2 hN⟩
  · obtain ⟨rc, h1⟩ := h.regsv
    exact ⟨rc, hs1.trans h1⟩
  · obtain ⟨x, h1, h2⟩ := hr r hr'
    exact ⟨x, h1, NodeW.keep h2 hN⟩
  · obtain ⟨D, fr, h1⟩ := h.tagm
    exact ⟨D, fr, by rw [hb.block m h.tagm.lt hm1 hm2, h1]⟩
  · obtain ⟨D, fr, h1⟩ := h.tagC
    exact ⟨D, fr, by rw [hb.block C (TagB.lt ⟨D, fr, h1⟩) hc1 h.old.2.2.2, h1]⟩
theorem RM.ne {w : World} {n0 m C s R : Nat} {ps : List Ins} {st : St} (h : RM w n0 m C s R ps st) : R ≠ s := fun e => by have := tag_three h.tagR (e ▸ h.tagS); exact absurd this (by decide)
theorem RM.put {w w1 : World} {n0 m C s R : Nat} {ps : List Ins} {st : St} (h0 : RM w n0 m C s R ps st) (hb : Below w.heap.size w w1) (hl : st.regs.length = 32) {t : Tr} {v : Value} (hv : NodeW 42 w1 t v) {a : Nat} (ha : a < 32) :
    RM ((w1.setCell ⟨R, a, none⟩ v).setCell ⟨s, 0, none⟩ (.int .i64 ((st.at_ + 1 : Nat) : Int))) n0 m C s R ps (st.put a t) ∧ But2 s R w ((w1.setCell ⟨R, a, none⟩ v).setCell ⟨s, 0, none⟩ (.int .i64 ((st.at_ + 1 : Nat) : Int))) := by
  have h := h0.below hb
  have hRs := h.ne
  have hbut : But2 s R w1 ((w1.setCell ⟨R, a, none⟩ v).setCell ⟨s, 0, none⟩ (.int .i64 ((st.at_ + 1 : Nat) : Int))) := (But2.setR w1 v).trans (But2.setS _ _)
  have neb : ∀ {x y p q : Nat}, x ≠ y → (⟨x, p, none⟩ : Addr) ≠ ⟨y, q, none⟩ := fun hxy e => hxy (by injection e)
  refine ⟨h.upd hbut ?_ ?_ (fun r hr => ?_) (tag_set (tag_set h.tagS _ _) _ _) (tag_set (tag_set h.tagR _ _) _ _) (fun o => by rw [World.frozen?_setCell, World.frozen?_setCell]; exact h.freeS o) (fun o => by rw [World.frozen?_setCell, World.frozen?_setCell]; exact h.freeR o), (But2.of_below hb).trans hbut⟩
  · refine set_same (u := .int .i64 (st.at_ : Int)) ?_
    rw [set_other (neb hRs)]; exact h.place
  · rw [set_other (addr_ne (by omega)), set_other (neb hRs)]
  · by_cases e : r = a
    · subst e
      obtain ⟨x0, g1, _⟩ := h.regs r hr
      refine ⟨v, by rw [set_other (neb hRs.symm), set_same g1], ?_⟩
      show NodeW _ w1 ((st.regs.set (r : Int).toNat t)[r]?.getD .nil) v
      rw [Int.toNat_natCast, List.getElem?_set_self (by omega)]
      exact hv
    · obtain ⟨x, g1, g2⟩ := h.regs r hr
      refine ⟨x, by rw [set_other (neb hRs.symm), set_other (addr_ne (fun e' => e e'.symm))]; exact g1, ?_⟩
      show NodeW _ w1 ((st.regs.set (a : Int).toNat t)[r]?.getD .nil) x
      rw [Int.toNat_natCast, List.getElem?_set_ne (fun e' => e e'.symm)]
      exact g2
theorem RM.go {w w1 : World} {n0 m C s R : Nat} {ps : List Ins} {st : St} (h0 : RM w n0 m C s R ps st) (hb : Below w.heap.size w w1) (k : Nat) :
    RM (w1.setCell ⟨s, 0, none⟩ (.int .i64 (k : Int))) n0 m C s R ps ⟨k, st.regs⟩ ∧ But2 s R w (w1.setCell ⟨s, 0, none⟩ (.int .i64 (k : Int))) := by
  have h := h0.below hb
  have hRs := h.ne
  have hbut : But2 s R w1 (w1.setCell ⟨s, 0, none⟩ (.int .i64 (k : Int))) := But2.setS _ _
  have neb : ∀ {x y p q : Nat}, x ≠ y → (⟨x, p, none⟩ : Addr) ≠ ⟨y, q, none⟩ := fun hxy e => hxy (by injection e)
  refine ⟨h.upd hbut (set_same h.place) ?_ (fun r hr => ?_) (tag_set h.tagS _ _) (tag_set h.tagR _ _) (fun o => by rw [World.frozen?_setCell]; exact h.freeS o) (fun o => by rw [World.frozen?_setCell]; exact h.freeR o), (But2.of_below hb).trans hbut⟩
  · rw [set_other (addr_ne (by omega))]
  · obtain ⟨x, g1, g2⟩ := h.regs r hr
    exact ⟨x, by rw [set_other (neb hRs.symm)]; exact g1, g2⟩
/-- what a step does -/
def RStepOut (w : World) (n0 m C s R : Nat) (ps : List Ins) (st : St) (e : Ending) (w' : World) : Prop :=
  But2 s R w w' ∧ match stepP ps st with
    | some st' => e = .returned (.bool true) ∧ RM w' n0 m C s R ps st'
    | none => e = .returned (.bool false) ∧ RM w' n0 m C s R ps st
theorem RStepOut.of_to {w w' : World} {n0 m C s R : Nat} {ps : List Ins} {st : St} {e : Ending} {t : Tr} {a : Nat} (hm : RM w n0 m C s R ps st) (hr : st.regs.length = 32) (ha : a < 32) (h : RStepTo w s R a t (st.at_ + 1) e w') (hs : stepP ps st = some (st.put a t)) : RStepOut w n0 m C s R ps st e w' := by
  obtain ⟨he, w1, v, hb, hv, rfl⟩ := h
  obtain ⟨h1, h2⟩ := hm.put hb hr hv ha
  refine ⟨h2, ?_⟩
  rw [hs]
  exact ⟨he, h1⟩
theorem RStepOut.of_go {w w' : World} {n0 m C s R k : Nat} {ps : List Ins} {st : St} {e : Ending} {d : Int} (hm : RM w n0 m C s R ps st) (h : RStepGo w s d e w') (hd : d = (k : Int)) (hs : stepP ps st = some ⟨k, st.regs⟩) : RStepOut w n0 m C s R ps st e w' := by
  subst hd
  obtain ⟨he, w1, hb, rfl⟩ := h
  obtain ⟨h1, h2⟩ := hm.go hb k
  refine ⟨h2, ?_⟩
  rw [hs]
  exact ⟨he, h1⟩
theorem rstep_any (w : World) (n0 m C s R : Nat) (ps : List Ins) (st : St) (hm : RM w n0 m C s R ps st) (hv : PValid ps) (hs : st.ok ps.length) (hlt : st.at_ < ps.length) :
    Calls Tryz.prog 88 #[.pointer (some ⟨m, 0, none⟩), .pointer (some ⟨s, 0, none⟩)] w (RStepOut w n0 m C s R ps st) := by
  obtain ⟨x, hx⟩ := get_at hlt
  have hn := hv.1
  obtain ⟨v, m0, hA, _⟩ := hm.prog
  obtain ⟨b, off, cap, rfl, hP⟩ := hA.some (by omega)
  obtain ⟨i0, i1, i2, i3, i4⟩ := hP.2 st.at_ x hx
  have hr := hv.2.2 st.at_ x hx
  have hreg : reg x.a = true := by unfold right at hr; simp only [Bool.and_eq_true] at hr; exact hr.1.1.1
  obtain ⟨a, ha, ha32⟩ : ∃ a : Nat, x.a = (a : Int) ∧ a < 32 := by have := reg_true hreg; exact ⟨x.a.toNat, by omega, by omega⟩
  obtain ⟨old, ho, hnO⟩ := hm.regs a ha32
  obtain ⟨rc, s1⟩ := hm.regsv
  have f1 := hm.freeR a
  have f2 := hm.freeS 0
  have m1 := hm.consts
  have s0 := hm.place
  have hRs := hm.ne
  rw [ha] at i1
  have hS : stepP ps st = stepI x st := by unfold stepP; rw [hx]; rfl
  have regB : ∀ n : Int, reg n = true → ∃ B : Nat, n = (B : Int) ∧ B < 32 ∧ ∃ X, w.cell? ⟨R, B, none⟩ = some (.pointer X) ∧ NodeW 42 w (st.reg n) (.pointer X) := fun n hn => by
    have := reg_true hn
    obtain ⟨y, h1, h2⟩ := hm.regs n.toNat (by omega)
    obtain ⟨Y, rfl⟩ := h2.one
    exact ⟨n.toNat, by omega, by omega, Y, h1, h2⟩
  unfold right at hr
  simp only [Bool.and_eq_true] at hr
  have hr2 := hr.2
  by_cases h0 : x.op = 0
  · rw [h0] at i0
    obtain ⟨y, hc, hN⟩ := hm.trees st.at_ x hx h0
    obtain ⟨Y, rfl⟩ := hN.one
    exact (rstep_set w m C b off ps.length cap st.at_ a s R rc (rd x.tree) Y x.b x.c (S x.tree) old hlt hn ha32 hRs m0 m1 s0 s1 i0 i1 i2 i3 i4 ho f1 f2 hc hN).mono fun e w' h => .of_to hm hs.2.1 ha32 h (by rw [hS]; unfold stepI; rw [if_pos h0, ha])
  rw [if_neg h0] at hr2
  by_cases h1 : x.op = 1
  · rw [h1] at i0
    rw [if_pos (.inl h1)] at hr2
    obtain ⟨B, hB, hB32, Y, hb, hN⟩ := regB x.b hr2
    exact (rstep_move w m C b off ps.length cap st.at_ a s R rc (st.reg x.b) Y x.b x.c (S x.tree) old hlt hn ha32 hRs m0 m1 s0 s1 i0 i1 i2 i3 i4 ho f1 f2 B hB32 hB hb hN).mono fun e w' h => .of_to hm hs.2.1 ha32 h (by rw [hS]; unfold stepI; rw [if_neg h0, if_pos h1, ha])
  by_cases h3 : x.op = 3
  · rw [h3] at i0
    rw [if_pos (.inr (.inl h3))] at hr2
    obtain ⟨B, hB, hB32, Y, hb, hN⟩ := regB x.b hr2
    exact (rstep_head w m C b off ps.length cap st.at_ a s R rc (st.reg x.b) Y x.b x.c (S x.tree) old hlt hn ha32 hRs m0 m1 s0 s1 i0 i1 i2 i3 i4 ho f1 f2 B hB32 hB hb hN).mono fun e w' h => .of_to hm hs.2.1 ha32 h (by rw [hS]; unfold stepI; rw [if_neg h0, if_neg h1, if_neg (by omega), if_pos h3, ha])
  by_cases h4 : x.op = 4
  · rw [h4] at i0
    rw [if_pos (.inr (.inr h4))] at hr2
    obtain ⟨B, hB, hB32, Y, hb, hN⟩ := regB x.b hr2
    exact (rstep_tail w m C b off ps.length cap st.at_ a s R rc (st.reg x.b) Y x.b x.c (S x.tree) old hlt hn ha32 hRs m0 m1 s0 s1 i0 i1 i2 i3 i4 ho f1 f2 B hB32 hB hb hN).mono fun e w' h => .of_to hm hs.2.1 ha32 h (by rw [hS]; unfold stepI; rw [if_neg h0, if_neg h1, if_neg (by omega), if_neg h3, if_pos h4, ha])
  rw [if_neg (by omega)] at hr2
  by_cases h2 : x.op = 2
  · rw [h2] at i0
    rw [if_pos h2] at hr2
    simp only [Bool.and_eq_true] at hr2
    obtain ⟨B, hB, hB32, Y, hb, hN⟩ := regB x.b hr2.1
    obtain ⟨D, hD, hD32, Z, hd, hN2⟩ := regB x.c hr2.2
    by_cases hl : (tx (.pair (st.reg x.b) (st.reg x.c))).length ≤ 2000000
    · exact (rstep_cons w m C b off ps.length cap st.at_ a s R rc (st.reg x.b) (st.reg x.c) Y Z x.b x.c (S x.tree) old hlt hn ha32 hRs m0 m1 s0 s1 i0 i1 i2 i3 i4 ho f1 f2 B D hB32 hD32 hB hD hb hd hN hN2 (St.reg_le hs _) (St.reg_le hs _) hl).mono fun e w' h => .of_to hm hs.2.1 ha32 h (by rw [hS]; unfold stepI; rw [if_neg h0, if_neg h1, if_pos h2, if_pos hl, ha])
    · refine (rstep_large w m C b off ps.length cap st.at_ a s R rc (st.reg x.b) (st.reg x.c) Y Z x.b x.c (S x.tree) old hlt hn ha32 hRs m0 m1 s0 s1 i0 i1 i2 i3 i4 ho f1 f2 B D hB32 hD32 hB hD hb hd hN hN2 (St.reg_le hs _) (St.reg_le hs _) hl).mono fun e w' h => ?_
      obtain ⟨he, hb⟩ := h
      refine ⟨But2.of_below hb, ?_⟩
      have : stepP ps st = none := by rw [hS]; unfold stepI; rw [if_neg h0, if_neg h1, if_pos h2, if_neg hl]
      rw [this]
      exact ⟨he, hm.below hb⟩
  rw [if_neg h2] at hr2
  by_cases h5 : x.op = 5
  · rw [h5] at i0
    rw [if_pos h5] at hr2
    simp only [Bool.and_eq_true, decide_eq_true_eq] at hr2
    obtain ⟨B, hB, hB32, Y, hb, hN⟩ := regB x.a hreg
    obtain rfl : B = a := by omega
    cases Y with
    | none =>
      have hnil : st.reg x.a = .nil := by
        rcases hN.ptr with ⟨h, _⟩ | ⟨_, A, h⟩
        · exact h
        · cases h
      exact (rstep_stay w m C b off ps.length cap st.at_ B s R rc x.b x.c (S x.tree) old hlt hn ha32 hRs m0 m1 s0 s1 i0 i1 i2 i3 i4 ho f1 f2 hb).mono fun e w' h => .of_go hm h (k := st.at_ + 1) (by omega) (by rw [hS]; unfold stepI; rw [if_neg h0, if_neg h1, if_neg h2, if_neg h3, if_neg h4, if_pos hnil])
    | some A =>
      have hne : st.reg x.a ≠ .nil := by
        rcases hN.ptr with ⟨_, h⟩ | ⟨h, _⟩
        · cases h
        · exact h
      exact (rstep_jump w m C b off ps.length cap st.at_ B s R rc A x.b x.c (S x.tree) old hlt hn ha32 hRs m0 m1 s0 s1 i0 i1 i2 i3 i4 ho f1 f2 hb hr2.1 hr2.2).mono fun e w' h => .of_go hm h (k := ((st.at_ : Int) + x.b).toNat) (by omega) (by rw [hS]; unfold stepI; rw [if_neg h0, if_neg h1, if_neg h2, if_neg h3, if_neg h4, if_neg hne])
  · rw [if_neg h5] at hr2
    cases hr2
end Go.Proofs.YtmhoacnbmbhcjaaGreatDoor

namespace Go.Proofs.YtmhoacnbmbhcjaaGreatDoor
open Go.RowKit Pl

/-- a loaded program -/
structure RL (w : World) (m C : Nat) (v : Value) (ps : List Ins) : Prop where
  c0 : w.cell? ⟨m, 0, none⟩ = some v
  c1 : w.cell? ⟨m, 1, none⟩ = some (.slice (some ⟨C, 0, none⟩) ps.length ps.length)
  A : ArgP w v ps
  trees : ∀ k x, ps[k]? = some x → x.op = 0 → ∃ y, w.cell? ⟨C, k, none⟩ = some y ∧ NodeW 42 w (rd x.tree) y
  tagm : TagB w m 93
  tagC : TagB w C 36
theorem RL.below {w w' : World} {m C : Nat} {v : Value} {ps : List Ins} (h : RL w m C v ps) (hb : Below w.heap.size w w') : RL w' m C v ps :=
  ⟨cell_keep hb h.c0, cell_keep hb h.c1, h.A.below hb, fun k x hx h0 => by obtain ⟨y, h1, h2⟩ := h.trees k x hx h0; exact ⟨y, cell_keep hb h1, NodeW.below h2 hb⟩, h.tagm.keep (.below hb), h.tagC.keep (.below hb)⟩
def LoadOut (w : World) (v : Value) (ps : List Ins) (e : Ending) (w' : World) : Prop := ∃ m C, e = .returned (.pointer (some ⟨m, 0, none⟩)) ∧ RL w' m C v ps ∧ Below w.heap.size w w'
/-- the same, and the row of trees is new -/
def LoadOutF (w : World) (v : Value) (ps : List Ins) (e : Ending) (w' : World) : Prop := ∃ m C, e = .returned (.pointer (some ⟨m, 0, none⟩)) ∧ RL w' m C v ps ∧ Below w.heap.size w w' ∧ w.heap.size ≤ C
/-- the trees of the first k instructions -/
def RTreesTo (w : World) (ps : List Ins) (k : Nat) (ys : List Value) : Prop := ∀ j x, j < k → ps[j]? = some x → x.op = 0 → ∃ y, ys[j]? = some y ∧ NodeW 42 w (rd x.tree) y
theorem rl_made {w W : World} {m C n0 : Nat} {ps : List Ins} {ys : List Value} {v : Value} (hM : W.heap[m]? = some (.cells #[v, .slice (some ⟨C, 0, none⟩) ps.length ps.length] 93 (0, 0))) (hC : W.ownsRow n0 36 1 (.slice (some ⟨C, 0, none⟩) ps.length ps.length) ps.length ys) (hT : RTreesTo W ps ps.length ys)
    (hA : ArgP w v ps) (hb : Below n0 w W) (hn : n0 = w.heap.size) : RL W m C v ps := by
  subst hn
  refine ⟨by rw [Lib.cell_of_heap hM]; rfl, by rw [Lib.cell_of_heap hM]; rfl, hA.below hb, fun k x hx h0 => ?_, ⟨_, (), hM⟩, own_tag hC rfl⟩
  have hk : k < ps.length := (List.getElem?_eq_some_iff.1 hx).1
  obtain ⟨y, h1, h2⟩ := hT k x hk hx h0
  exact ⟨y, by rw [hC.cellAt k (by omega), h1], h2⟩

set_option maxHeartbeats 3200000 in
set_option maxRecDepth 100000 in
theorem Load_some (w : World) (b off cap : Nat) (ps : List Ins) (hP : ProgAt w b off ps) (h0 : 0 < ps.length) (hv : PValid ps) :
    Calls Tryz.prog 35 #[.slice (some ⟨b, off, none⟩) ps.length cap] w (LoadOutF w (.slice (some ⟨b, off, none⟩) ps.length cap) ps) := by
  obtain ⟨i0, hi, hz0, hz1, hz2⟩ := info_parts Tryz.infoRNode
  have HA : Hid (ArgP w (.slice (some ⟨b, off, none⟩) ps.length cap) ps) := Lib.hid (.inr ⟨h0, b, off, cap, rfl, hP⟩)
  have hm := hv.1
  have HMM := Lib.hid (fun W M C (ys : List Value) => rl_made (w := w) (W := W) (m := M) (C := C) (n0 := w.heap.size) (ps := ps) (ys := ys) (v := .slice (some ⟨b, off, none⟩) ps.length cap))
  obtain ⟨n, hn⟩ : ∃ n, n = ps.length := ⟨_, rfl⟩
  rw [← hn] at HA HMM hm h0 ⊢
  have HN := Lib.hid hn
  have HP := Lib.hid hP; have HV := Lib.hid hv
  have hbw := hP.1
  clear hn hP hv
  go_enter Tryz.func35, Tryz.ntmps35
  go_wp2_with (at_make; refine wpList_make_full _ rfl _ _ 91 rfl w.heap.size 36 i0 (.pointer none) 1 Tryz.underlying91 hi hz0 hz1 .i64 .i64 _ _ n rfl rfl rfl rfl (by rw [hz2]; omega) (by unfold maxLen; omega) (Nat.le_refl _) ?_)
  intro w1 hown hgrow
  have hb1 : Below w.heap.size w w1 := (Below.refl _ _).grown hgrow (Nat.le_refl _) (by simp)
  obtain ⟨xs, HO⟩ : ∃ xs, Hid (w1.ownsRow w.heap.size 36 1 (.slice (some ⟨w.heap.size, 0, none⟩) n n) n xs) := ⟨_, Lib.hid hown⟩
  clear hown hgrow hi hz0 hz1 hz2
  have hsz1 := hb1.size
  have HM1 : Hid ((w1.alloc (.cells #[.slice (some ⟨b, off, none⟩) n cap, .slice (some ⟨w.heap.size, 0, none⟩) n n] 93)).heap[w1.heap.size]? = some (.cells #[.slice (some ⟨b, off, none⟩) n cap, .slice (some ⟨w.heap.size, 0, none⟩) n n] 93 (0, 0))) := Lib.hid (heap_alloc_new _ _)
  have HO1 := Lib.hid (HO.out.alloc (.cells #[.slice (some ⟨b, off, none⟩) n cap, .slice (some ⟨w.heap.size, 0, none⟩) n n] 93))
  have HB1 := Lib.hid (hb1.alloc hsz1 (.cells #[.slice (some ⟨b, off, none⟩) n cap, .slice (some ⟨w.heap.size, 0, none⟩) n n] 93))
  have hMs : w1.heap.size < (w1.alloc (.cells #[.slice (some ⟨b, off, none⟩) n cap, .slice (some ⟨w.heap.size, 0, none⟩) n n] 93)).heap.size := by simp
  clear HO hb1
  go_wp2
  generalize w1.alloc (.cells #[.slice (some ⟨b, off, none⟩) n cap, .slice (some ⟨w.heap.size, 0, none⟩) n n] 93) = w2 at *
  generalize w1.heap.size = M at *
  obtain ⟨N, hNN⟩ : ∃ N, N = w.heap.size := ⟨_, rfl⟩
  rw [← hNN] at HM1 HO1 HB1 HMM hbw ⊢
  have hNM : N ≤ M := by omega
  have HNN := Lib.hid hNN
  clear hNN hsz1
  go_loopw [4] (fun i wr => ∃ (k : Nat) (ys : List Value), k ≤ n ∧ i = .int .i64 k ∧ Hid (wr.heap[M]? = some (.cells #[.slice (some ⟨b, off, none⟩) n cap, .slice (some ⟨N, 0, none⟩) n n] 93 (0, 0))) ∧ Hid (wr.ownsRow N 36 1 (.slice (some ⟨N, 0, none⟩) n n) n ys) ∧ Hid (RTreesTo wr ps k ys) ∧ Below N w wr) (fun i _ => n - (intOf i).toNat)
  case atStart => exact ⟨0, xs, Nat.zero_le _, rfl, HM1, HO1, Lib.hid (fun j x hj => absurd hj (Nat.not_lt_zero _)), HB1.out⟩
  case round =>
    clear HM1 HO1 HB1 hMs
    obtain ⟨k, ys, hk, rfl, HM, HO, HT, hb⟩ := hrel
    have hNw : N ≤ wr.heap.size := by have := HNN.out; have := hb.size; omega
    have hMlt : M < wr.heap.size := (Array.getElem?_eq_some_iff.1 HM.out).1
    by_cases hlt : k < n
    · obtain ⟨x, hx⟩ := get_at (ps := ps) (k := k) (by have := HN.out; omega)
      obtain ⟨a0, a1, a2, a3, a4⟩ := HP.out.2 k x hx
      have k0 := (hb.cell (p := ⟨b, off + k * 5, none⟩) hbw).trans a0
      have k4 := (hb.cell (p := ⟨b, off + k * 5 + 4, none⟩) hbw).trans a4
      have HX := Lib.hid hx
      have hk1 : (k : Int) < (n : Int) := by omega
      have hk0 : (0 : Int) ≤ (k : Int) := by omega
      clear hx a0 a1 a2 a3 a4
      by_cases h0 : x.op = 0
      · have HS := Lib.hid (fun W => rRead_any (S x.tree) W (HV.out.tree HX.out h0))
        have H0 := Lib.hid h0
        rw [h0] at k0
        clear h0
        have m1 : wr.cell? ⟨M, 1, none⟩ = some (.slice (some ⟨N, 0, none⟩) n n) := Lib.cell_of_heap HM.out 1
        have hn1 : (⟨N, k, none⟩ : Addr) ≠ ⟨M, 1, none⟩ := fun e => by
          injection e with e1
          have h9 := own_tag HO.out (k := N) rfl
          rw [e1] at h9
          exact h9.ne (τ := 93) (by decide) ⟨_, (), HM.out⟩
        have hn2 : (⟨N, k, none⟩ : Addr) ≠ ⟨b, off + k * 5 + 4, none⟩ := fun e => by
          injection e with e1
          omega
        have HN1 := Lib.hid hn1; have HN2 := Lib.hid hn2; clear hn1 hn2
        have B4 := Lib.hid k4; have B1 := Lib.hid m1
        obtain ⟨u0, hu0⟩ := own_cell1 HO.out k hlt
        have hf0 := HO.out.frozenAt k
        have HU0 := Lib.hid hu0
        have HF0 := Lib.hid hf0
        clear hu0 hf0
        go_wp2_with fail
        go_region_held3 (fun w' => w'.cell? ⟨M, 1, none⟩ = some (.slice (some ⟨N, 0, none⟩) n n) ∧ w'.cell? ⟨b, off + k * 5 + 4, none⟩ = some (.string (S x.tree)))
          (first | exact ⟨B1.out, B4.out⟩ | exact ⟨g1, g2⟩ | exact ⟨j1, j2⟩ | go_keep)
          (first | (go_simp; go_at_call 30; refine (HS.out _).mono ?_; rintro e w2 ⟨v2, rfl, hv2, hb2⟩; obtain ⟨V2, rfl⟩ := hv2.one; have g1 := cell_keep hb2 B1.out; have g2 := cell_keep hb2 B4.out; have g3 := cell_keep hb2 HU0.out; have g4 := (hb2.frozen (p := ⟨N, k, none⟩) (cell_lt HU0.out)).trans HF0.out; have j1 := (set_other (v := .pointer V2) HN1.out).trans g1; have j2 := (set_other (v := .pointer V2) HN2.out).trans g2))
        have hw2 : Below wr.heap.size wr w2 := ((Below.refl _ wr).drew).trans hb2
        have hbN : Below N w w2 := hb.trans (hw2.mono hNw)
        have HB3 := Lib.hid (hbN.setCell (p := ⟨N, k, none⟩) (Nat.le_refl N) (.pointer V2))
        have HM3 : Hid ((w2.setCell ⟨N, k, none⟩ (.pointer V2)).heap[M]? = some (.cells #[.slice (some ⟨b, off, none⟩) n cap, .slice (some ⟨N, 0, none⟩) n n] 93 (0, 0))) := Lib.hid (by
          rw [Below.heap_setCell _ _ _ _ (fun e => by have h9 := own_tag HO.out (k := N) rfl; rw [← show M = N from e] at h9; exact h9.ne (τ := 93) (by decide) ⟨_, (), HM.out⟩), hw2.block M hMlt, HM.out])
        have HO3 := Lib.hid ((own_below HO.out hw2).stored k (.pointer V2)).1
        have hKN : KeepT 42 w2 (w2.setCell ⟨N, k, none⟩ (.pointer V2)) := KeepT.setCell ((own_tag (own_below HO.out hw2) (k := N) rfl).ne (by decide)) _
        have hKW := (KeepT.below hw2).trans hKN
        have hyl : ys.length = n := by have := HO.out.1; omega
        have HT3 : Hid (RTreesTo (w2.setCell ⟨N, k, none⟩ (.pointer V2)) ps (k + 1) (ys.set k (.pointer V2))) := Lib.hid (fun j y hj hy hy0 => by
          by_cases e : j = k
          · subst e
            have h1 := HX.out
            rw [hy] at h1
            cases h1
            refine ⟨.pointer V2, by rw [List.getElem?_set_self (by omega)], ?_⟩
            exact NodeW.keep hv2 hKN
          · obtain ⟨z, z1, z2⟩ := HT.out j y (by omega) hy hy0
            exact ⟨z, by rw [List.getElem?_set_ne (fun h => e h.symm), z1], NodeW.keep z2 hKW⟩)
        clear hw2 hbN hKN hKW hyl hv2 hb2 g1 g2 g3 g4 j1 j2 hb
        go_wp2_with fail
        go_roundw
        case rel => exact ⟨k + 1, _, by omega, by go_num, HM3, HO3, HT3, HB3.out⟩
        case measure => simp [intOf]; omega
      · have hz : (x.op == 0) = false := beq_eq_false_iff_ne.2 h0
        have HT1 : Hid (RTreesTo wr ps (k + 1) ys) := Lib.hid (fun j y hj hy hy0 => by
          by_cases e : j = k
          · subst e
            have h1 := HX.out
            rw [hy] at h1
            cases h1; exact absurd hy0 h0
          · exact HT.out j y (by omega) hy hy0)
        clear h0
        go_wp2_with fail
        go_roundw
        case rel => exact ⟨k + 1, ys, by omega, by go_num, HM, HO, HT1, hb⟩
        case measure => simp [intOf]; omega
    · obtain rfl : k = n := by omega
      go_wp2_with fail
      go_ret
      exact ⟨M, N, rfl, HMM.out wr M N ys HM.out HO.out HT.out HA.out hb trivial, by rw [← HNN.out]; exact hb, Nat.le_of_eq HNN.out.symm⟩
set_option maxHeartbeats 3200000 in
set_option maxRecDepth 100000 in
theorem Load_none (w : World) (A : Option Addr) (cap : Nat) (hv : Value.slice A 0 cap = .slice none 0 0 ∨ ∃ ad c, Value.slice A 0 cap = .slice (some ad) 0 c) :
    Calls Tryz.prog 35 #[.slice A 0 cap] w (LoadOutF w (.slice A 0 cap) []) := by
  obtain ⟨i0, hi, hz0, hz1, hz2⟩ := info_parts Tryz.infoRNode
  have HMM := Lib.hid (fun W M C (ys : List Value) => rl_made (w := w) (W := W) (m := M) (C := C) (n0 := w.heap.size) (ps := []) (ys := ys) (v := .slice A 0 cap))
  have HV := Lib.hid hv
  clear hv
  go_enter Tryz.func35, Tryz.ntmps35
  go_wp2_with (at_make; refine wpList_make_full _ rfl _ _ 91 rfl w.heap.size 36 i0 (.pointer none) 1 Tryz.underlying91 hi hz0 hz1 .i64 .i64 _ _ 0 rfl rfl rfl rfl (by rw [hz2]; omega) (by unfold maxLen; omega) (Nat.le_refl _) ?_)
  intro w1 hown hgrow
  have hb1 : Below w.heap.size w w1 := (Below.refl _ _).grown hgrow (Nat.le_refl _) (by simp)
  obtain ⟨xs, HO⟩ : ∃ xs, Hid (w1.ownsRow w.heap.size 36 1 (.slice (some ⟨w.heap.size, 0, none⟩) 0 0) 0 xs) := ⟨_, Lib.hid hown⟩
  clear hown hgrow hi hz0 hz1 hz2
  have hsz1 := hb1.size
  have HM1 : Hid ((w1.alloc (.cells #[.slice A 0 cap, .slice (some ⟨w.heap.size, 0, none⟩) 0 0] 93)).heap[w1.heap.size]? = some (.cells #[.slice A 0 cap, .slice (some ⟨w.heap.size, 0, none⟩) 0 0] 93 (0, 0))) := Lib.hid (heap_alloc_new _ _)
  have HO1 := Lib.hid (HO.out.alloc (.cells #[.slice A 0 cap, .slice (some ⟨w.heap.size, 0, none⟩) 0 0] 93))
  have HB1 := Lib.hid (hb1.alloc hsz1 (.cells #[.slice A 0 cap, .slice (some ⟨w.heap.size, 0, none⟩) 0 0] 93))
  clear HO hb1
  go_wp2
  go_loopw [4] (fun i wr => i = .int .i64 0 ∧ wr = w1.alloc (.cells #[.slice A 0 cap, .slice (some ⟨w.heap.size, 0, none⟩) 0 0] 93)) (fun _ _ => 0)
  case atStart => exact ⟨rfl, rfl⟩
  case round =>
    obtain ⟨rfl, rfl⟩ := hrel
    go_wp2
    go_ret
    exact ⟨_, _, rfl, HMM.out _ _ _ xs HM1.out HO1.out (fun j x hj => absurd hj (Nat.not_lt_zero _)) (.inl ⟨rfl, HV.out⟩) HB1.out trivial, HB1.out, Nat.le_refl _⟩
theorem Load_new (w : World) (v : Value) (ps : List Ins) (h : ArgP w v ps) (hv : PValid ps) : Calls Tryz.prog 35 #[v] w (LoadOutF w v ps) := by
  rcases h with ⟨rfl, h⟩ | ⟨h0, b, off, cap, rfl, hP⟩
  · obtain ⟨A, cap, rfl⟩ := empty_arg h
    exact Load_none w A cap h
  · exact Load_some w b off cap ps hP h0 hv
theorem Load_any (w : World) (v : Value) (ps : List Ins) (h : ArgP w v ps) (hv : PValid ps) : Calls Tryz.prog 35 #[v] w (LoadOut w v ps) := by
  refine (Load_new w v ps h hv).mono ?_
  rintro e w' ⟨m, C, h1, h2, h3, _⟩
  exact ⟨m, C, h1, h2, h3⟩
end Go.Proofs.YtmhoacnbmbhcjaaGreatDoor

namespace Go.Proofs.YtmhoacnbmbhcjaaGreatDoor
open Go.RowKit Pl

/-- a state in memory -/
structure RS (w : World) (s R : Nat) (st : St) : Prop where
  place : w.cell? ⟨s, 0, none⟩ = some (.int .i64 (st.at_ : Int))
  regsv : ∃ rc, w.cell? ⟨s, 1, none⟩ = some (.slice (some ⟨R, 0, none⟩) 32 rc)
  regs : ∀ r, r < 32 → ∃ x, w.cell? ⟨R, r, none⟩ = some x ∧ NodeW 42 w (st.regs[r]?.getD .nil) x
  tagS : TagB w s 99
  tagR : TagB w R 36
  freeS : ∀ o, w.frozen? ⟨s, o, none⟩ = false
  freeR : ∀ o, w.frozen? ⟨R, o, none⟩ = false
theorem RM.of {w : World} {n0 m C s R : Nat} {v : Value} {ps : List Ins} {st : St} (h : RL w m C v ps) (k : RS w s R st) (hv : ∀ k, 0 < ps.length → v.ownBlock = some k → k < n0) (h1 : n0 ≤ s) (h2 : n0 ≤ R) (h3 : n0 ≤ w.heap.size) (h4 : C ≠ R) : RM w n0 m C s R ps st :=
  ⟨⟨v, h.c0, h.A, hv⟩, h.c1, h.trees, k.place, k.regsv, k.regs, h.tagm, h.tagC, k.tagS, k.tagR, k.freeS, k.freeR, h1, h2, h3, h4⟩
def RFirstOut (w : World) (st : St) (e : Ending) (w' : World) : Prop := ∃ s R, e = .returned (.pointer (some ⟨s, 0, none⟩)) ∧ RS w' s R st ∧ w.heap.size ≤ s ∧ w.heap.size ≤ R ∧ Below w.heap.size w w'
theorem made_at (z : Value) (n j : Nat) (hj : j < n) : (madeCells #[z] n).toList[j]? = some z := by
  rw [toList_madeCells_one, List.getElem?_replicate, if_pos hj]
set_option maxHeartbeats 1600000 in
set_option maxRecDepth 100000 in
theorem rFirst3_any (w : World) (t : Tr) (v : Value) (h : NodeW 42 w t v) :
    Calls Tryz.prog 87 #[v] w (RFirstOut w (first t)) := by
  obtain ⟨i0, hi, hz0, hz1, hz2⟩ := info_parts Tryz.infoRNode
  have HN := Lib.hid h
  obtain ⟨V, rfl⟩ := h.one
  clear h
  go_enter Tryz.func87, Tryz.ntmps87
  go_wp2_with (at_make; refine wpList_make_full _ rfl _ _ 91 rfl w.heap.size 36 i0 (.pointer none) 1 Tryz.underlying91 hi hz0 hz1 .i64 .i64 _ _ 32 rfl rfl rfl rfl (by rw [hz2]; omega) (by unfold maxLen; omega) (Nat.le_refl _) ?_)
  intro w1 hown hgrow
  have hb1 : Below w.heap.size w w1 := (Below.refl _ _).grown hgrow (Nat.le_refl _) (by simp)
  have hsz1 := hb1.size
  have HO := Lib.hid hown
  have hlt : w.heap.size < w1.heap.size := (own_tag hown rfl).lt
  clear hown hgrow hi hz0 hz1 hz2
  have c0 : w1.cell? ⟨w.heap.size, 0, none⟩ = some (.pointer none) := by rw [HO.out.cellAt 0 (by omega)]; exact made_at _ _ _ (by omega)
  have f0 := HO.out.frozenAt 0
  have HN1 := Lib.hid (NodeW.below HN.out hb1)
  have HB1 := Lib.hid hb1
  clear hb1
  go_wp2
  go_ret
  have hKN : KeepT 42 w1 (w1.setCell ⟨w.heap.size, 0, none⟩ (.pointer V)) := KeepT.setCell ((own_tag HO.out (k := w.heap.size) rfl).ne (by decide)) _
  have hN2 := NodeW.keep HN1.out (hKN.trans (KeepT.alloc _ _ (.cells #[.int .i64 0, .slice (some ⟨w.heap.size, 0, none⟩) 32 32] 99)))
  have hO2 := ((HO.out.stored 0 (.pointer V)).1.alloc (.cells #[.int .i64 0, .slice (some ⟨w.heap.size, 0, none⟩) 32 32] 99))
  have hs2 : (w1.setCell ⟨w.heap.size, 0, none⟩ (.pointer V)).heap.size = w1.heap.size := by simp [World.setCell]
  have hS : ((w1.setCell ⟨w.heap.size, 0, none⟩ (.pointer V)).alloc (.cells #[.int .i64 0, .slice (some ⟨w.heap.size, 0, none⟩) 32 32] 99)).heap[w1.heap.size]? = some (.cells #[.int .i64 0, .slice (some ⟨w.heap.size, 0, none⟩) 32 32] 99 (0, 0)) := by
    have := heap_alloc_new (w1.setCell ⟨w.heap.size, 0, none⟩ (.pointer V)) (.cells #[.int .i64 0, .slice (some ⟨w.heap.size, 0, none⟩) 32 32] 99)
    rwa [hs2] at this
  have hB : Below w.heap.size w ((w1.setCell ⟨w.heap.size, 0, none⟩ (.pointer V)).alloc (.cells #[.int .i64 0, .slice (some ⟨w.heap.size, 0, none⟩) 32 32] 99)) := (HB1.out.setCell (p := ⟨w.heap.size, 0, none⟩) (Nat.le_refl _) _).alloc (by omega) _
  generalize (w1.setCell ⟨w.heap.size, 0, none⟩ (.pointer V)).alloc (.cells #[.int .i64 0, .slice (some ⟨w.heap.size, 0, none⟩) 32 32] 99) = w2 at *
  generalize w1.heap.size = s at *
  refine ⟨s, w.heap.size, rfl, ⟨Lib.cell_of_heap hS 0, ⟨32, Lib.cell_of_heap hS 1⟩, fun r hr => ?_, ⟨_, (), hS⟩, own_tag hO2 rfl, fun o => Lib.frozen_of_heap hS o, fun o => hO2.frozenAt o⟩, by omega, Nat.le_refl _, hB⟩
  cases r with
  | zero => exact ⟨.pointer V, by rw [hO2.cellAt 0 (by omega)]; exact List.getElem?_set_self (by rw [toList_madeCells_one]; simp), hN2⟩
  | succ r =>
    refine ⟨.pointer none, by rw [hO2.cellAt _ (by omega), List.getElem?_set_ne (by omega)]; exact made_at _ _ _ hr, ?_⟩
    show NodeW _ _ ((List.replicate 31 Tr.nil)[r]?.getD .nil) _
    rw [List.getElem?_replicate, if_pos (by omega)]; rfl
/-- what the reference's After returns -/
def RAftOut (w : World) (n0 m C : Nat) (ps : List Ins) (t : Tr) (K : Nat) (e : Ending) (w' : World) : Prop :=
  Below w.heap.size w w' ∧ match runTo ps K (first t) with
    | some (st, n) => ∃ s R, e = .returned (.tuple #[.pointer (some ⟨s, 0, none⟩), .int .i64 (n : Int), .bool true]) ∧ RM w' n0 m C s R ps st
    | none => ∃ v k, e = .returned (.tuple #[v, .int .i64 k, .bool false])
theorem rended_is {w : World} {n0 m C s R : Nat} {ps : List Ins} {st : St} (hm : RM w n0 m C s R ps st) (hv : PValid ps) (hs : st.ok ps.length) :
    Calls Tryz.prog 81 #[.pointer (some ⟨m, 0, none⟩), .pointer (some ⟨s, 0, none⟩)] w fun e w' => e = .returned (.bool (st.at_ == ps.length)) ∧ ∃ q, w' = w.drewN q := by
  obtain ⟨v, m0, hA, _⟩ := hm.prog
  obtain ⟨A, cap, rfl⟩ : ∃ A cap, v = .slice A ps.length cap := by
    rcases hA with ⟨rfl, h⟩ | ⟨_, b, off, cap, rfl, _⟩
    · obtain ⟨A, cap, rfl⟩ := empty_arg h
      exact ⟨A, cap, rfl⟩
    · exact ⟨_, _, rfl⟩
  exact rended_any w m s ps.length cap st.at_ A hv.1 hs.1 m0 hm.place
theorem rstep_yes {w : World} {n0 m C s R : Nat} {ps : List Ins} {st st' : St} (hm : RM w n0 m C s R ps st) (hv : PValid ps) (hs : st.ok ps.length) (hne : st.at_ ≠ ps.length) (h : stepP ps st = some st') :
    Calls Tryz.prog 88 #[.pointer (some ⟨m, 0, none⟩), .pointer (some ⟨s, 0, none⟩)] w fun e w' => e = .returned (.bool true) ∧ RM w' n0 m C s R ps st' ∧ But2 s R w w' :=
  (rstep_any w n0 m C s R ps st hm hv hs (by have := hs.1; omega)).mono fun e w' ⟨h1, h2⟩ => by rw [h] at h2; exact ⟨h2.1, h2.2, h1⟩
theorem rstep_no {w : World} {n0 m C s R : Nat} {ps : List Ins} {st : St} (hm : RM w n0 m C s R ps st) (hv : PValid ps) (hs : st.ok ps.length) (hne : st.at_ ≠ ps.length) (h : stepP ps st = none) :
    Calls Tryz.prog 88 #[.pointer (some ⟨m, 0, none⟩), .pointer (some ⟨s, 0, none⟩)] w fun e w' => e = .returned (.bool false) ∧ RM w' n0 m C s R ps st ∧ But2 s R w w' :=
  (rstep_any w n0 m C s R ps st hm hv hs (by have := hs.1; omega)).mono fun e w' ⟨h1, h2⟩ => by rw [h] at h2; exact ⟨h2.1, h2.2, h1⟩

set_option maxHeartbeats 3200000 in
set_option maxRecDepth 100000 in
theorem rAfter_any (w : World) (m C K : Nat) (v x : Value) (ps : List Ins) (t : Tr) (hL : RL w m C v ps) (hC : C < w.heap.size) (ho : ∀ k, 0 < ps.length → v.ownBlock = some k → k < w.heap.size) (hv : PValid ps) (hn : NodeW 42 w t x) (ht : (tx t).length ≤ 2000000) (hk : K ≤ 10000000) :
    Calls Tryz.prog 80 #[.pointer (some ⟨m, 0, none⟩), x, .int .i64 (K : Int)] w (RAftOut w w.heap.size m C ps t K) := by
  have HF := Lib.hid (rFirst3_any w t x hn)
  have hf : (first t).ok ps.length := first_ok _ ht
  have HFO := Lib.hid hf; have HV := Lib.hid hv; have HL := Lib.hid hL; have HO := Lib.hid ho
  clear hn ht hf hv hL ho
  go_enter Tryz.func80, Tryz.ntmps80
  go_wp2_with fail
  refine HF.out.mono ?_
  rintro e w1 ⟨s, R, rfl, hS, hs1, hR1, hb1⟩
  have hM1 : RM w1 w.heap.size m C s R ps (first t) := RM.of (HL.out.below hb1) hS HO.out hs1 hR1 hb1.size (by omega)
  have HM1 := Lib.hid hM1; have HB1 := Lib.hid hb1
  clear hS hM1 hb1 HF
  go_wp2
  go_loopw [10] (fun i wr => ∃ (k : Nat) (st : St), k ≤ K ∧ i = .int .i64 (k : Int) ∧ Hid (Steps ps (first t) k st) ∧ Hid (RM wr w.heap.size m C s R ps st) ∧ Hid (Below w.heap.size w wr)) (fun i _ => K - (intOf i).toNat)
  case atStart => exact ⟨0, first t, Nat.zero_le _, rfl, Lib.hid .zero, HM1, HB1⟩
  case round =>
    clear HM1 HB1
    obtain ⟨k, st, hkK, rfl, HST, HM, HB⟩ := hrel
    by_cases hlt : k < K
    · have hk1 : (k : Int) < (K : Int) := by omega
      have HE := Lib.hid (rended_is HM.out HV.out (HST.out.ok HV.out HFO.out))
      cases hed : (st.at_ == ps.length) with
      | true =>
        rw [hed] at HE
        have HEN : Hid (st.at_ = ps.length) := Lib.hid (by simpa using hed)
        clear hed
        go_wp2_with fail
        refine HE.out.mono ?_
        rintro e w2 ⟨rfl, q, rfl⟩
        have HM2 := Lib.hid (HM.out.below (bdrewN (Below.refl _ _) q))
        go_wp2
        go_ret3
        refine ⟨bdrewN HB.out q, ?_⟩
        rw [runTo_is HST.out hkK (.inr HEN.out)]
        exact ⟨s, R, rfl, HM2.out⟩
      | false =>
        rw [hed] at HE
        have HEN : Hid (st.at_ ≠ ps.length) := Lib.hid (by simpa using hed)
        clear hed
        go_wp2_with fail
        refine HE.out.mono ?_
        rintro e w2 ⟨rfl, q, rfl⟩
        have HM2 := Lib.hid (HM.out.below (bdrewN (Below.refl _ _) q))
        have HB2 := Lib.hid (bdrewN HB.out q)
        clear HE
        cases hs : stepP ps st with
        | some st' =>
          have HS := Lib.hid (rstep_yes HM2.out HV.out (HST.out.ok HV.out HFO.out) HEN.out hs)
          have HST' := Lib.hid (Steps.succ HST.out HEN.out hs)
          clear hs
          go_wp2_with fail
          refine HS.out.mono ?_
          rintro e w3 ⟨rfl, hm3, hb3⟩
          have HM3 := Lib.hid hm3
          have HB3 := Lib.hid (HB2.out.trans (hb3.below hs1 hR1 HB2.out.size))
          clear hm3 hb3
          go_wp2
          go_roundw
          case rel => exact ⟨k + 1, st', by omega, by go_num, HST', HM3, HB3⟩
          case measure => simp [intOf]; omega
        | none =>
          have HS := Lib.hid (rstep_no HM2.out HV.out (HST.out.ok HV.out HFO.out) HEN.out hs)
          have HN := Lib.hid hs
          clear hs
          go_wp2_with fail
          refine HS.out.mono ?_
          rintro e w3 ⟨rfl, hm3, hb3⟩
          have HB3 := Lib.hid (HB2.out.trans (hb3.below hs1 hR1 HB2.out.size))
          clear hm3 hb3
          go_wp2
          go_ret3
          refine ⟨HB3.out, ?_⟩
          rw [runTo_large HST.out hlt HEN.out HN.out]
          exact ⟨_, _, rfl⟩
    · obtain rfl : k = K := by omega
      go_wp2
      go_ret3
      refine ⟨HB.out, ?_⟩
      rw [runTo_is HST.out hkK (.inl rfl)]
      exact ⟨s, R, rfl, HM.out⟩
/-- what the reference's Run returns -/
def RRunOut (w : World) (ps : List Ins) (t : Tr) (K : Nat) (e : Ending) (w' : World) : Prop :=
  Below w.heap.size w w' ∧ match runTo ps K (first t) with
    | some (st, n) => (st.at_ = ps.length ∧ ∃ x, e = .returned (.tuple #[x, .int .i64 (n : Int), .int .i64 0]) ∧ NodeW 42 w' (st.reg 0) x) ∨ (st.at_ ≠ ps.length ∧ e = .returned (.tuple #[.pointer none, .int .i64 0, .int .i64 7]))
    | none => e = .returned (.tuple #[.pointer none, .int .i64 0, .int .i64 3])
set_option maxHeartbeats 1600000 in
set_option maxRecDepth 100000 in
theorem rRun_any (w : World) (m C K : Nat) (v x : Value) (ps : List Ins) (t : Tr) (hL : RL w m C v ps) (hC : C < w.heap.size) (ho : ∀ k, 0 < ps.length → v.ownBlock = some k → k < w.heap.size) (hv : PValid ps) (hn : NodeW 42 w t x) (ht : (tx t).length ≤ 2000000) (hk : K ≤ 10000000) :
    Calls Tryz.prog 36 #[.pointer (some ⟨m, 0, none⟩), x, .int .i64 (K : Int)] w (RRunOut w ps t K) := by
  have HA := Lib.hid (rAfter_any w m C K v x ps t hL hC ho hv hn ht hk)
  have hf : (first t).ok ps.length := first_ok _ ht
  unfold RRunOut
  cases hr : runTo ps K (first t) with
  | none =>
    have HR := Lib.hid hr
    clear hL hC ho hv hn ht hk hr hf
    go_enter Tryz.func36, Tryz.ntmps36
    go_wp2_with fail
    refine HA.out.mono ?_
    rintro e w1 ⟨hb, he⟩
    rw [HR.out] at he
    obtain ⟨v1, k1, rfl⟩ := he
    go_wp2
    go_ret3
    exact ⟨hb, rfl⟩
  | some r =>
    obtain ⟨st, n⟩ := r
    obtain ⟨hst, hnk, _⟩ := runTo_some hr
    have hok := hst.ok hv hf
    by_cases hat : st.at_ = ps.length
    · have hb1 : (st.at_ == ps.length) = true := by simp [hat]
      have HE := Lib.hid (fun W s R (hm : RM W w.heap.size m C s R ps st) => rended_is hm hv hok)
      rw [hb1] at HE
      have HAT := Lib.hid hat
      have HR := Lib.hid hr
      clear hr hst hat hb1 hv hL ho hn ht
      go_enter Tryz.func36, Tryz.ntmps36
      go_wp2_with fail
      refine HA.out.mono ?_
      rintro e w1 ⟨hb, he⟩
      rw [HR.out] at he
      obtain ⟨s, R, rfl, hM⟩ := he
      have HM := Lib.hid hM
      clear hM
      go_wp2_with fail
      refine (HE.out _ _ _ HM.out).mono ?_
      rintro e w2 ⟨rfl, q, rfl⟩
      obtain ⟨x0, hx0, hN0⟩ := HM.out.regs 0 (by omega)
      obtain ⟨rc, hrc⟩ := HM.out.regsv
      obtain ⟨X0, rfl⟩ := hN0.one
      have c3 : (w1.drewN q).cell? ⟨R, 0, none⟩ = some (.pointer X0) := hx0
      have c4 : (w1.drewN q).cell? ⟨s, 1, none⟩ = some (.slice (some ⟨R, 0, none⟩) 32 rc) := hrc
      have HN0 := Lib.hid hN0
      clear hx0 hN0 hrc
      go_wp2
      go_ret3
      exact ⟨bdrewN hb q, .inl ⟨HAT.out, _, rfl, NodeW.keep HN0.out (KeepT.drewN _ _ _)⟩⟩
    · have hb1 : (st.at_ == ps.length) = false := by simp [hat]
      have HE := Lib.hid (fun W s R (hm : RM W w.heap.size m C s R ps st) => rended_is hm hv hok)
      rw [hb1] at HE
      have HAT := Lib.hid hat
      have HR := Lib.hid hr
      clear hr hst hat hb1 hv hL ho hn ht
      go_enter Tryz.func36, Tryz.ntmps36
      go_wp2_with fail
      refine HA.out.mono ?_
      rintro e w1 ⟨hb, he⟩
      rw [HR.out] at he
      obtain ⟨s, R, rfl, hM⟩ := he
      have HM := Lib.hid hM
      clear hM
      go_wp2_with fail
      refine (HE.out _ _ _ HM.out).mono ?_
      rintro e w2 ⟨rfl, q, rfl⟩
      go_wp2
      go_ret3
      exact ⟨bdrewN hb q, .inr ⟨HAT.out, rfl⟩⟩
end Go.Proofs.YtmhoacnbmbhcjaaGreatDoor
