/- The reference's machine: Step and Ended. By an AI agent. -/
import Derived.Test.YtkpfocgcnehajabGreatDoorRunA
namespace Go.Proofs.YtkpfocgcnehajabGreatDoor
open Go.RowKit Pl

/-- a register and the place have been written -/
def RStepTo (w : World) (s R a : Nat) (t : Tr) (k : Nat) (e : Ending) (w' : World) : Prop :=
  e = .returned (.bool true) ∧ ∃ w1 v, Below w.heap.size w w1 ∧ NodeW 72 w1 t v ∧ w' = (w1.setCell ⟨R, a, none⟩ v).setCell ⟨s, 0, none⟩ (.int .i64 (k : Int))
/-- the place has been written -/
def RStepGo (w : World) (s : Nat) (k : Int) (e : Ending) (w' : World) : Prop :=
  e = .returned (.bool true) ∧ ∃ w1, Below w.heap.size w w1 ∧ w' = w1.setCell ⟨s, 0, none⟩ (.int .i64 k)
theorem rhead_val {w : World} {t : Tr} {v : Value} (h : NodeW 72 w t v) : ∃ y, NodeW 72 w (hdT t) y ∧ ∀ W : World, KeepT 72 w W → Calls Tryz.prog 120 #[v] W fun e w' => e = .returned y ∧ w' = W := by
  cases t with
  | nil =>
    obtain rfl : v = .pointer none := h
    exact ⟨.pointer none, rfl, fun W _ => (rFirst_any 72 W .nil _ rfl).mono (by rintro e w' ⟨y, rfl, h1, h2⟩; exact ⟨by rw [show y = .pointer none from h1], h2.symm⟩)⟩
  | pair a b =>
    obtain ⟨B, o, x, y, rfl, h1, h2, h3, h4, h5⟩ := h
    refine ⟨x, h4, fun W hk => ?_⟩
    have c1 := (h1.keep hk).2
    go_enter Tryz.func120, Tryz.ntmps120
    go_wp2
    go_ret
    exact ⟨rfl, rfl⟩
theorem rtail_val {w : World} {t : Tr} {v : Value} (h : NodeW 72 w t v) : ∃ y, NodeW 72 w (tlT t) y ∧ ∀ W : World, KeepT 72 w W → Calls Tryz.prog 121 #[v] W fun e w' => e = .returned y ∧ w' = W := by
  cases t with
  | nil =>
    obtain rfl : v = .pointer none := h
    exact ⟨.pointer none, rfl, fun W _ => (rRest_any 72 W .nil _ rfl).mono (by rintro e w' ⟨y, rfl, h1, h2⟩; exact ⟨by rw [show y = .pointer none from h1], h2.symm⟩)⟩
  | pair a b =>
    obtain ⟨B, o, x, y, rfl, h1, h2, h3, h4, h5⟩ := h
    refine ⟨y, h5, fun W hk => ?_⟩
    have c1 := (h2.keep hk).2
    go_enter Tryz.func121, Tryz.ntmps121
    go_wp2
    go_ret
    exact ⟨rfl, rfl⟩
set_option maxHeartbeats 3200000 in
set_option maxRecDepth 100000 in
theorem rstep_set (w : World) (m C b off n cap k a s R rc : Nat) (t : Tr) (X : Option Addr) (d c : Int) (tr : ByteArray) (old : Value) (hk : k < n) (hn : n ≤ 4000) (ha : a < 32) (hRs : R ≠ s)
    (m0 : w.cell? ⟨m, 0, none⟩ = some (.slice (some ⟨b, off, none⟩) n cap)) (m1 : w.cell? ⟨m, 1, none⟩ = some (.slice (some ⟨C, 0, none⟩) n n)) (s0 : w.cell? ⟨s, 0, none⟩ = some (.int .i64 k)) (s1 : w.cell? ⟨s, 1, none⟩ = some (.slice (some ⟨R, 0, none⟩) 32 rc))
    (i0 : w.cell? ⟨b, off + k * 5, none⟩ = some (.int .i64 0)) (i1 : w.cell? ⟨b, off + k * 5 + 1, none⟩ = some (.int .i64 a)) (i2 : w.cell? ⟨b, off + k * 5 + 2, none⟩ = some (.int .i64 d)) (i3 : w.cell? ⟨b, off + k * 5 + 3, none⟩ = some (.int .i64 c)) (i4 : w.cell? ⟨b, off + k * 5 + 4, none⟩ = some (.string tr))
    (ho : w.cell? ⟨R, a, none⟩ = some old) (f1 : w.frozen? ⟨R, a, none⟩ = false) (f2 : w.frozen? ⟨s, 0, none⟩ = false)
    (hc : w.cell? ⟨C, k, none⟩ = some (.pointer X)) (hN : NodeW 72 w t (.pointer X)) :
    Calls Tryz.prog 82 #[.pointer (some ⟨m, 0, none⟩), .pointer (some ⟨s, 0, none⟩)] w (RStepTo w s R a t (k + 1)) := by
  have k0 : (0 : Int) ≤ (k : Int) := by omega
  have k1 : (k : Int) < (n : Int) := by omega
  have a0 : (0 : Int) ≤ (a : Int) := by omega
  have a1 : (a : Int) < 32 := by omega
  have hRs' : s ≠ R := fun e => hRs e.symm
  go_enter Tryz.func82, Tryz.ntmps82
  go_wp2
  go_region_held3 (fun w' => w'.cell? ⟨m, 0, none⟩ = some (.slice (some ⟨b, off, none⟩) n cap) ∧ w'.cell? ⟨s, 0, none⟩ = some (.int .i64 k) ∧ w'.cell? ⟨b, off + k * 5, none⟩ = some (.int .i64 0) ∧ w'.cell? ⟨b, off + k * 5 + 1, none⟩ = some (.int .i64 a) ∧ w'.cell? ⟨b, off + k * 5 + 2, none⟩ = some (.int .i64 d) ∧ w'.cell? ⟨b, off + k * 5 + 3, none⟩ = some (.int .i64 c) ∧ w'.cell? ⟨b, off + k * 5 + 4, none⟩ = some (.string tr)) (go_keep) (fail)
  have hb1 : Below w.heap.size w ((w.alloc (.cells #[.int .i64 0, .int .i64 a, .int .i64 d, .int .i64 c, .string tr] 43)).drew) := ((Below.refl _ _).alloc (Nat.le_refl _) _).drew
  have q1 : ((w.alloc (.cells #[.int .i64 0, .int .i64 a, .int .i64 d, .int .i64 c, .string tr] 43)).drew).cell? ⟨w.heap.size, 1, none⟩ = some (.int .i64 a) := by show (w.alloc _).cell? _ = _; rw [World.cell?_alloc_new]; rfl
  have q2 : ((w.alloc (.cells #[.int .i64 0, .int .i64 a, .int .i64 d, .int .i64 c, .string tr] 43)).drew).cell? ⟨w.heap.size, 2, none⟩ = some (.int .i64 d) := by show (w.alloc _).cell? _ = _; rw [World.cell?_alloc_new]; rfl
  have q3 : ((w.alloc (.cells #[.int .i64 0, .int .i64 a, .int .i64 d, .int .i64 c, .string tr] 43)).drew).cell? ⟨w.heap.size, 3, none⟩ = some (.int .i64 c) := by show (w.alloc _).cell? _ = _; rw [World.cell?_alloc_new]; rfl
  have q0 : ((w.alloc (.cells #[.int .i64 0, .int .i64 a, .int .i64 d, .int .i64 c, .string tr] 43)).drew).cell? ⟨w.heap.size, 0, none⟩ = some (.int .i64 0) := by show (w.alloc _).cell? _ = _; rw [World.cell?_alloc_new]; rfl
  have M1 := cell_keep hb1 m1; have S0 := cell_keep hb1 s0; have S1 := cell_keep hb1 s1; have HO := cell_keep hb1 ho
  have F1 := (hb1.frozen (p := ⟨R, a, none⟩) (cell_lt ho)).trans f1
  have F2 := (hb1.frozen (p := ⟨s, 0, none⟩) (cell_lt s0)).trans f2
  have HC := cell_keep hb1 hc
  have HN := Lib.hid (NodeW.below hN hb1)
  have HB1 := Lib.hid hb1
  clear m0 m1 s0 s1 i0 i1 i2 i3 i4 ho f1 f2 hb1 hc hN
  generalize ((w.alloc (.cells #[.int .i64 0, .int .i64 a, .int .i64 d, .int .i64 c, .string tr] 43)).drew) = w1 at *
  go_wp2_with fail
  refine wp_region_still_tail 17 (by kernel_rfl) (by kernel_rfl) ?_
  change wpStill _ _ w1.drew (fun a' => wpList _ _ _ _ a' w1.drew) _ _
  simp only [List.take_succ_cons, List.take_zero, List.drop_succ_cons, List.drop_zero]
  repeat still_step
  refine wpStill_nil ?_
  go_wp2
  go_ret
  exact ⟨rfl, _, _, HB1.out.drew, NodeW.keep HN.out (KeepT.drewN _ w1 1), by rw [num_succ']; rfl⟩
set_option maxHeartbeats 3200000 in
set_option maxRecDepth 100000 in
theorem rstep_move (w : World) (m C b off n cap k a s R rc : Nat) (t : Tr) (X : Option Addr) (d c : Int) (tr : ByteArray) (old : Value) (hk : k < n) (hn : n ≤ 4000) (ha : a < 32) (hRs : R ≠ s)
    (m0 : w.cell? ⟨m, 0, none⟩ = some (.slice (some ⟨b, off, none⟩) n cap)) (m1 : w.cell? ⟨m, 1, none⟩ = some (.slice (some ⟨C, 0, none⟩) n n)) (s0 : w.cell? ⟨s, 0, none⟩ = some (.int .i64 k)) (s1 : w.cell? ⟨s, 1, none⟩ = some (.slice (some ⟨R, 0, none⟩) 32 rc))
    (i0 : w.cell? ⟨b, off + k * 5, none⟩ = some (.int .i64 1)) (i1 : w.cell? ⟨b, off + k * 5 + 1, none⟩ = some (.int .i64 a)) (i2 : w.cell? ⟨b, off + k * 5 + 2, none⟩ = some (.int .i64 d)) (i3 : w.cell? ⟨b, off + k * 5 + 3, none⟩ = some (.int .i64 c)) (i4 : w.cell? ⟨b, off + k * 5 + 4, none⟩ = some (.string tr))
    (ho : w.cell? ⟨R, a, none⟩ = some old) (f1 : w.frozen? ⟨R, a, none⟩ = false) (f2 : w.frozen? ⟨s, 0, none⟩ = false)
    (B : Nat) (hB : B < 32) (hd : d = (B : Int)) (hb : w.cell? ⟨R, B, none⟩ = some (.pointer X)) (hN : NodeW 72 w t (.pointer X)) :
    Calls Tryz.prog 82 #[.pointer (some ⟨m, 0, none⟩), .pointer (some ⟨s, 0, none⟩)] w (RStepTo w s R a t (k + 1)) := by
  have k0 : (0 : Int) ≤ (k : Int) := by omega
  have k1 : (k : Int) < (n : Int) := by omega
  have a0 : (0 : Int) ≤ (a : Int) := by omega
  have a1 : (a : Int) < 32 := by omega
  have hRs' : s ≠ R := fun e => hRs e.symm
  subst hd
  have b0 : (0 : Int) ≤ (B : Int) := by omega
  have b1 : (B : Int) < 32 := by omega
  go_enter Tryz.func82, Tryz.ntmps82
  go_wp2
  go_region_held3 (fun w' => w'.cell? ⟨m, 0, none⟩ = some (.slice (some ⟨b, off, none⟩) n cap) ∧ w'.cell? ⟨s, 0, none⟩ = some (.int .i64 k) ∧ w'.cell? ⟨b, off + k * 5, none⟩ = some (.int .i64 1) ∧ w'.cell? ⟨b, off + k * 5 + 1, none⟩ = some (.int .i64 a) ∧ w'.cell? ⟨b, off + k * 5 + 2, none⟩ = some (.int .i64 (B : Int)) ∧ w'.cell? ⟨b, off + k * 5 + 3, none⟩ = some (.int .i64 c) ∧ w'.cell? ⟨b, off + k * 5 + 4, none⟩ = some (.string tr)) (go_keep) (fail)
  have hb1 : Below w.heap.size w ((w.alloc (.cells #[.int .i64 1, .int .i64 a, .int .i64 (B : Int), .int .i64 c, .string tr] 43)).drew) := ((Below.refl _ _).alloc (Nat.le_refl _) _).drew
  have q1 : ((w.alloc (.cells #[.int .i64 1, .int .i64 a, .int .i64 (B : Int), .int .i64 c, .string tr] 43)).drew).cell? ⟨w.heap.size, 1, none⟩ = some (.int .i64 a) := by show (w.alloc _).cell? _ = _; rw [World.cell?_alloc_new]; rfl
  have q2 : ((w.alloc (.cells #[.int .i64 1, .int .i64 a, .int .i64 (B : Int), .int .i64 c, .string tr] 43)).drew).cell? ⟨w.heap.size, 2, none⟩ = some (.int .i64 (B : Int)) := by show (w.alloc _).cell? _ = _; rw [World.cell?_alloc_new]; rfl
  have q3 : ((w.alloc (.cells #[.int .i64 1, .int .i64 a, .int .i64 (B : Int), .int .i64 c, .string tr] 43)).drew).cell? ⟨w.heap.size, 3, none⟩ = some (.int .i64 c) := by show (w.alloc _).cell? _ = _; rw [World.cell?_alloc_new]; rfl
  have q0 : ((w.alloc (.cells #[.int .i64 1, .int .i64 a, .int .i64 (B : Int), .int .i64 c, .string tr] 43)).drew).cell? ⟨w.heap.size, 0, none⟩ = some (.int .i64 1) := by show (w.alloc _).cell? _ = _; rw [World.cell?_alloc_new]; rfl
  have M1 := cell_keep hb1 m1; have S0 := cell_keep hb1 s0; have S1 := cell_keep hb1 s1; have HO := cell_keep hb1 ho
  have F1 := (hb1.frozen (p := ⟨R, a, none⟩) (cell_lt ho)).trans f1
  have F2 := (hb1.frozen (p := ⟨s, 0, none⟩) (cell_lt s0)).trans f2
  have HBX := cell_keep hb1 hb
  have HN := Lib.hid (NodeW.below hN hb1)
  have HB1 := Lib.hid hb1
  clear m0 m1 s0 s1 i0 i1 i2 i3 i4 ho f1 f2 hb1 hb hN
  generalize ((w.alloc (.cells #[.int .i64 1, .int .i64 a, .int .i64 (B : Int), .int .i64 c, .string tr] 43)).drew) = w1 at *
  go_wp2_with fail
  refine wp_region_still_tail 15 (by kernel_rfl) (by kernel_rfl) ?_
  change wpStill _ _ w1.drew (fun a' => wpList _ _ _ _ a' w1.drew) _ _
  simp only [List.take_succ_cons, List.take_zero, List.drop_succ_cons, List.drop_zero]
  repeat still_step
  refine wpStill_nil ?_
  go_wp2
  go_ret
  exact ⟨rfl, _, _, HB1.out.drew, NodeW.keep HN.out (KeepT.drewN _ w1 1), by rw [num_succ']; rfl⟩
set_option maxHeartbeats 3200000 in
set_option maxRecDepth 100000 in
theorem rstep_head (w : World) (m C b off n cap k a s R rc : Nat) (t : Tr) (X : Option Addr) (d c : Int) (tr : ByteArray) (old : Value) (hk : k < n) (hn : n ≤ 4000) (ha : a < 32) (hRs : R ≠ s)
    (m0 : w.cell? ⟨m, 0, none⟩ = some (.slice (some ⟨b, off, none⟩) n cap)) (m1 : w.cell? ⟨m, 1, none⟩ = some (.slice (some ⟨C, 0, none⟩) n n)) (s0 : w.cell? ⟨s, 0, none⟩ = some (.int .i64 k)) (s1 : w.cell? ⟨s, 1, none⟩ = some (.slice (some ⟨R, 0, none⟩) 32 rc))
    (i0 : w.cell? ⟨b, off + k * 5, none⟩ = some (.int .i64 3)) (i1 : w.cell? ⟨b, off + k * 5 + 1, none⟩ = some (.int .i64 a)) (i2 : w.cell? ⟨b, off + k * 5 + 2, none⟩ = some (.int .i64 d)) (i3 : w.cell? ⟨b, off + k * 5 + 3, none⟩ = some (.int .i64 c)) (i4 : w.cell? ⟨b, off + k * 5 + 4, none⟩ = some (.string tr))
    (ho : w.cell? ⟨R, a, none⟩ = some old) (f1 : w.frozen? ⟨R, a, none⟩ = false) (f2 : w.frozen? ⟨s, 0, none⟩ = false)
    (B : Nat) (hB : B < 32) (hd : d = (B : Int)) (hb : w.cell? ⟨R, B, none⟩ = some (.pointer X)) (hN : NodeW 72 w t (.pointer X)) :
    Calls Tryz.prog 82 #[.pointer (some ⟨m, 0, none⟩), .pointer (some ⟨s, 0, none⟩)] w (RStepTo w s R a (hdT t) (k + 1)) := by
  have k0 : (0 : Int) ≤ (k : Int) := by omega
  have k1 : (k : Int) < (n : Int) := by omega
  have a0 : (0 : Int) ≤ (a : Int) := by omega
  have a1 : (a : Int) < 32 := by omega
  have hRs' : s ≠ R := fun e => hRs e.symm
  subst hd
  have b0 : (0 : Int) ≤ (B : Int) := by omega
  have b1 : (B : Int) < 32 := by omega
  obtain ⟨y, hy, hcall⟩ := rhead_val hN
  obtain ⟨Y, rfl⟩ := hy.one
  go_enter Tryz.func82, Tryz.ntmps82
  go_wp2
  go_region_held3 (fun w' => w'.cell? ⟨m, 0, none⟩ = some (.slice (some ⟨b, off, none⟩) n cap) ∧ w'.cell? ⟨s, 0, none⟩ = some (.int .i64 k) ∧ w'.cell? ⟨b, off + k * 5, none⟩ = some (.int .i64 3) ∧ w'.cell? ⟨b, off + k * 5 + 1, none⟩ = some (.int .i64 a) ∧ w'.cell? ⟨b, off + k * 5 + 2, none⟩ = some (.int .i64 (B : Int)) ∧ w'.cell? ⟨b, off + k * 5 + 3, none⟩ = some (.int .i64 c) ∧ w'.cell? ⟨b, off + k * 5 + 4, none⟩ = some (.string tr)) (go_keep) (fail)
  have hb1 : Below w.heap.size w ((w.alloc (.cells #[.int .i64 3, .int .i64 a, .int .i64 (B : Int), .int .i64 c, .string tr] 43)).drew) := ((Below.refl _ _).alloc (Nat.le_refl _) _).drew
  have q1 : ((w.alloc (.cells #[.int .i64 3, .int .i64 a, .int .i64 (B : Int), .int .i64 c, .string tr] 43)).drew).cell? ⟨w.heap.size, 1, none⟩ = some (.int .i64 a) := by show (w.alloc _).cell? _ = _; rw [World.cell?_alloc_new]; rfl
  have q2 : ((w.alloc (.cells #[.int .i64 3, .int .i64 a, .int .i64 (B : Int), .int .i64 c, .string tr] 43)).drew).cell? ⟨w.heap.size, 2, none⟩ = some (.int .i64 (B : Int)) := by show (w.alloc _).cell? _ = _; rw [World.cell?_alloc_new]; rfl
  have q3 : ((w.alloc (.cells #[.int .i64 3, .int .i64 a, .int .i64 (B : Int), .int .i64 c, .string tr] 43)).drew).cell? ⟨w.heap.size, 3, none⟩ = some (.int .i64 c) := by show (w.alloc _).cell? _ = _; rw [World.cell?_alloc_new]; rfl
  have q0 : ((w.alloc (.cells #[.int .i64 3, .int .i64 a, .int .i64 (B : Int), .int .i64 c, .string tr] 43)).drew).cell? ⟨w.heap.size, 0, none⟩ = some (.int .i64 3) := by show (w.alloc _).cell? _ = _; rw [World.cell?_alloc_new]; rfl
  have M1 := cell_keep hb1 m1; have S0 := cell_keep hb1 s0; have S1 := cell_keep hb1 s1; have HO := cell_keep hb1 ho
  have F1 := (hb1.frozen (p := ⟨R, a, none⟩) (cell_lt ho)).trans f1
  have F2 := (hb1.frozen (p := ⟨s, 0, none⟩) (cell_lt s0)).trans f2
  have HBX := cell_keep hb1 hb
  have HY := Lib.hid (NodeW.below hy hb1)
  have HCA := Lib.hid (hcall _ ((KeepT.below hb1).trans (KeepT.drewN _ _ 1)))
  have HB1 := Lib.hid hb1
  clear m0 m1 s0 s1 i0 i1 i2 i3 i4 ho f1 f2 hb1 hb hN hy hcall
  generalize ((w.alloc (.cells #[.int .i64 3, .int .i64 a, .int .i64 (B : Int), .int .i64 c, .string tr] 43)).drew) = w1 at *
  go_wp2_with fail
  refine wp_region_still_tail 16 (by kernel_rfl) (by kernel_rfl) ?_
  change wpStill _ _ w1.drew (fun a' => wpList _ _ _ _ a' w1.drew) _ _
  simp only [List.take_succ_cons, List.take_zero, List.drop_succ_cons, List.drop_zero]
  repeat still_step
  still_call HCA.out
  repeat still_step
  refine wpStill_nil ?_
  go_wp2
  go_ret
  exact ⟨rfl, _, _, HB1.out.drew, NodeW.keep HY.out (KeepT.drewN _ w1 1), by rw [num_succ']; rfl⟩
set_option maxHeartbeats 3200000 in
set_option maxRecDepth 100000 in
theorem rstep_tail (w : World) (m C b off n cap k a s R rc : Nat) (t : Tr) (X : Option Addr) (d c : Int) (tr : ByteArray) (old : Value) (hk : k < n) (hn : n ≤ 4000) (ha : a < 32) (hRs : R ≠ s)
    (m0 : w.cell? ⟨m, 0, none⟩ = some (.slice (some ⟨b, off, none⟩) n cap)) (m1 : w.cell? ⟨m, 1, none⟩ = some (.slice (some ⟨C, 0, none⟩) n n)) (s0 : w.cell? ⟨s, 0, none⟩ = some (.int .i64 k)) (s1 : w.cell? ⟨s, 1, none⟩ = some (.slice (some ⟨R, 0, none⟩) 32 rc))
    (i0 : w.cell? ⟨b, off + k * 5, none⟩ = some (.int .i64 4)) (i1 : w.cell? ⟨b, off + k * 5 + 1, none⟩ = some (.int .i64 a)) (i2 : w.cell? ⟨b, off + k * 5 + 2, none⟩ = some (.int .i64 d)) (i3 : w.cell? ⟨b, off + k * 5 + 3, none⟩ = some (.int .i64 c)) (i4 : w.cell? ⟨b, off + k * 5 + 4, none⟩ = some (.string tr))
    (ho : w.cell? ⟨R, a, none⟩ = some old) (f1 : w.frozen? ⟨R, a, none⟩ = false) (f2 : w.frozen? ⟨s, 0, none⟩ = false)
    (B : Nat) (hB : B < 32) (hd : d = (B : Int)) (hb : w.cell? ⟨R, B, none⟩ = some (.pointer X)) (hN : NodeW 72 w t (.pointer X)) :
    Calls Tryz.prog 82 #[.pointer (some ⟨m, 0, none⟩), .pointer (some ⟨s, 0, none⟩)] w (RStepTo w s R a (tlT t) (k + 1)) := by
  have k0 : (0 : Int) ≤ (k : Int) := by omega
  have k1 : (k : Int) < (n : Int) := by omega
  have a0 : (0 : Int) ≤ (a : Int) := by omega
  have a1 : (a : Int) < 32 := by omega
  have hRs' : s ≠ R := fun e => hRs e.symm
  subst hd
  have b0 : (0 : Int) ≤ (B : Int) := by omega
  have b1 : (B : Int) < 32 := by omega
  obtain ⟨y, hy, hcall⟩ := rtail_val hN
  obtain ⟨Y, rfl⟩ := hy.one
  go_enter Tryz.func82, Tryz.ntmps82
  go_wp2
  go_region_held3 (fun w' => w'.cell? ⟨m, 0, none⟩ = some (.slice (some ⟨b, off, none⟩) n cap) ∧ w'.cell? ⟨s, 0, none⟩ = some (.int .i64 k) ∧ w'.cell? ⟨b, off + k * 5, none⟩ = some (.int .i64 4) ∧ w'.cell? ⟨b, off + k * 5 + 1, none⟩ = some (.int .i64 a) ∧ w'.cell? ⟨b, off + k * 5 + 2, none⟩ = some (.int .i64 (B : Int)) ∧ w'.cell? ⟨b, off + k * 5 + 3, none⟩ = some (.int .i64 c) ∧ w'.cell? ⟨b, off + k * 5 + 4, none⟩ = some (.string tr)) (go_keep) (fail)
  have hb1 : Below w.heap.size w ((w.alloc (.cells #[.int .i64 4, .int .i64 a, .int .i64 (B : Int), .int .i64 c, .string tr] 43)).drew) := ((Below.refl _ _).alloc (Nat.le_refl _) _).drew
  have q1 : ((w.alloc (.cells #[.int .i64 4, .int .i64 a, .int .i64 (B : Int), .int .i64 c, .string tr] 43)).drew).cell? ⟨w.heap.size, 1, none⟩ = some (.int .i64 a) := by show (w.alloc _).cell? _ = _; rw [World.cell?_alloc_new]; rfl
  have q2 : ((w.alloc (.cells #[.int .i64 4, .int .i64 a, .int .i64 (B : Int), .int .i64 c, .string tr] 43)).drew).cell? ⟨w.heap.size, 2, none⟩ = some (.int .i64 (B : Int)) := by show (w.alloc _).cell? _ = _; rw [World.cell?_alloc_new]; rfl
  have q3 : ((w.alloc (.cells #[.int .i64 4, .int .i64 a, .int .i64 (B : Int), .int .i64 c, .string tr] 43)).drew).cell? ⟨w.heap.size, 3, none⟩ = some (.int .i64 c) := by show (w.alloc _).cell? _ = _; rw [World.cell?_alloc_new]; rfl
  have q0 : ((w.alloc (.cells #[.int .i64 4, .int .i64 a, .int .i64 (B : Int), .int .i64 c, .string tr] 43)).drew).cell? ⟨w.heap.size, 0, none⟩ = some (.int .i64 4) := by show (w.alloc _).cell? _ = _; rw [World.cell?_alloc_new]; rfl
  have M1 := cell_keep hb1 m1; have S0 := cell_keep hb1 s0; have S1 := cell_keep hb1 s1; have HO := cell_keep hb1 ho
  have F1 := (hb1.frozen (p := ⟨R, a, none⟩) (cell_lt ho)).trans f1
  have F2 := (hb1.frozen (p := ⟨s, 0, none⟩) (cell_lt s0)).trans f2
  have HBX := cell_keep hb1 hb
  have HY := Lib.hid (NodeW.below hy hb1)
  have HCA := Lib.hid (hcall _ ((KeepT.below hb1).trans (KeepT.drewN _ _ 1)))
  have HB1 := Lib.hid hb1
  clear m0 m1 s0 s1 i0 i1 i2 i3 i4 ho f1 f2 hb1 hb hN hy hcall
  generalize ((w.alloc (.cells #[.int .i64 4, .int .i64 a, .int .i64 (B : Int), .int .i64 c, .string tr] 43)).drew) = w1 at *
  go_wp2_with fail
  refine wp_region_still_tail 16 (by kernel_rfl) (by kernel_rfl) ?_
  change wpStill _ _ w1.drew (fun a' => wpList _ _ _ _ a' w1.drew) _ _
  simp only [List.take_succ_cons, List.take_zero, List.drop_succ_cons, List.drop_zero]
  repeat still_step
  still_call HCA.out
  repeat still_step
  refine wpStill_nil ?_
  go_wp2
  go_ret
  exact ⟨rfl, _, _, HB1.out.drew, NodeW.keep HY.out (KeepT.drewN _ w1 1), by rw [num_succ']; rfl⟩
set_option maxHeartbeats 3200000 in
set_option maxRecDepth 100000 in
theorem rstep_cons (w : World) (m C b off n cap k a s R rc : Nat) (t u : Tr) (X Y : Option Addr) (d c : Int) (tr : ByteArray) (old : Value) (hk : k < n) (hn : n ≤ 4000) (ha : a < 32) (hRs : R ≠ s)
    (m0 : w.cell? ⟨m, 0, none⟩ = some (.slice (some ⟨b, off, none⟩) n cap)) (m1 : w.cell? ⟨m, 1, none⟩ = some (.slice (some ⟨C, 0, none⟩) n n)) (s0 : w.cell? ⟨s, 0, none⟩ = some (.int .i64 k)) (s1 : w.cell? ⟨s, 1, none⟩ = some (.slice (some ⟨R, 0, none⟩) 32 rc))
    (i0 : w.cell? ⟨b, off + k * 5, none⟩ = some (.int .i64 2)) (i1 : w.cell? ⟨b, off + k * 5 + 1, none⟩ = some (.int .i64 a)) (i2 : w.cell? ⟨b, off + k * 5 + 2, none⟩ = some (.int .i64 d)) (i3 : w.cell? ⟨b, off + k * 5 + 3, none⟩ = some (.int .i64 c)) (i4 : w.cell? ⟨b, off + k * 5 + 4, none⟩ = some (.string tr))
    (ho : w.cell? ⟨R, a, none⟩ = some old) (f1 : w.frozen? ⟨R, a, none⟩ = false) (f2 : w.frozen? ⟨s, 0, none⟩ = false)
    (B D : Nat) (hB : B < 32) (hD : D < 32) (hd : d = (B : Int)) (hc : c = (D : Int)) (hb : w.cell? ⟨R, B, none⟩ = some (.pointer X)) (hdd : w.cell? ⟨R, D, none⟩ = some (.pointer Y)) (hN : NodeW 72 w t (.pointer X)) (hN2 : NodeW 72 w u (.pointer Y)) (lt : (tx t).length ≤ 2000000) (lu : (tx u).length ≤ 2000000) (hl : (tx (.pair t u)).length ≤ 2000000) :
    Calls Tryz.prog 82 #[.pointer (some ⟨m, 0, none⟩), .pointer (some ⟨s, 0, none⟩)] w (RStepTo w s R a (.pair t u) (k + 1)) := by
  have k0 : (0 : Int) ≤ (k : Int) := by omega
  have k1 : (k : Int) < (n : Int) := by omega
  have a0 : (0 : Int) ≤ (a : Int) := by omega
  have a1 : (a : Int) < 32 := by omega
  have hRs' : s ≠ R := fun e => hRs e.symm
  subst hd
  subst hc
  have b0 : (0 : Int) ≤ (B : Int) := by omega
  have b1 : (B : Int) < 32 := by omega
  have d0 : (0 : Int) ≤ (D : Int) := by omega
  have d1 : (D : Int) < 32 := by omega
  have HCC := Lib.hid (fun W h1 h2 => rCons_any W t u (.pointer X) (.pointer Y) h1 h2 lt lu)
  have LN : ((tx (.pair t u)).length : Int) ≤ 2000000 := by omega
  go_enter Tryz.func82, Tryz.ntmps82
  go_wp2
  go_region_held3 (fun w' => w'.cell? ⟨m, 0, none⟩ = some (.slice (some ⟨b, off, none⟩) n cap) ∧ w'.cell? ⟨s, 0, none⟩ = some (.int .i64 k) ∧ w'.cell? ⟨b, off + k * 5, none⟩ = some (.int .i64 2) ∧ w'.cell? ⟨b, off + k * 5 + 1, none⟩ = some (.int .i64 a) ∧ w'.cell? ⟨b, off + k * 5 + 2, none⟩ = some (.int .i64 (B : Int)) ∧ w'.cell? ⟨b, off + k * 5 + 3, none⟩ = some (.int .i64 (D : Int)) ∧ w'.cell? ⟨b, off + k * 5 + 4, none⟩ = some (.string tr)) (go_keep) (fail)
  have hb1 : Below w.heap.size w ((w.alloc (.cells #[.int .i64 2, .int .i64 a, .int .i64 (B : Int), .int .i64 (D : Int), .string tr] 43)).drew) := ((Below.refl _ _).alloc (Nat.le_refl _) _).drew
  have q1 : ((w.alloc (.cells #[.int .i64 2, .int .i64 a, .int .i64 (B : Int), .int .i64 (D : Int), .string tr] 43)).drew).cell? ⟨w.heap.size, 1, none⟩ = some (.int .i64 a) := by show (w.alloc _).cell? _ = _; rw [World.cell?_alloc_new]; rfl
  have q2 : ((w.alloc (.cells #[.int .i64 2, .int .i64 a, .int .i64 (B : Int), .int .i64 (D : Int), .string tr] 43)).drew).cell? ⟨w.heap.size, 2, none⟩ = some (.int .i64 (B : Int)) := by show (w.alloc _).cell? _ = _; rw [World.cell?_alloc_new]; rfl
  have q3 : ((w.alloc (.cells #[.int .i64 2, .int .i64 a, .int .i64 (B : Int), .int .i64 (D : Int), .string tr] 43)).drew).cell? ⟨w.heap.size, 3, none⟩ = some (.int .i64 (D : Int)) := by show (w.alloc _).cell? _ = _; rw [World.cell?_alloc_new]; rfl
  have q0 : ((w.alloc (.cells #[.int .i64 2, .int .i64 a, .int .i64 (B : Int), .int .i64 (D : Int), .string tr] 43)).drew).cell? ⟨w.heap.size, 0, none⟩ = some (.int .i64 2) := by show (w.alloc _).cell? _ = _; rw [World.cell?_alloc_new]; rfl
  have M1 := cell_keep hb1 m1; have S0 := cell_keep hb1 s0; have S1 := cell_keep hb1 s1; have HO := cell_keep hb1 ho
  have F1 := (hb1.frozen (p := ⟨R, a, none⟩) (cell_lt ho)).trans f1
  have F2 := (hb1.frozen (p := ⟨s, 0, none⟩) (cell_lt s0)).trans f2
  have HBX := cell_keep hb1 hb
  have HDX := cell_keep hb1 hdd
  have HN := Lib.hid (NodeW.below hN hb1)
  have HN2 := Lib.hid (NodeW.below hN2 hb1)
  have HB1 := Lib.hid hb1
  clear m0 m1 s0 s1 i0 i1 i2 i3 i4 ho f1 f2 hb1 hb hdd hN hN2 lt lu hl
  generalize ((w.alloc (.cells #[.int .i64 2, .int .i64 a, .int .i64 (B : Int), .int .i64 (D : Int), .string tr] 43)).drew) = w1 at *
  go_wp2_with fail
  refine wp_region_still_tail 16 (by kernel_rfl) (by kernel_rfl) ?_
  change wpStill _ _ w1.drew (fun a' => wpList _ _ _ _ a' w1.drew) _ _
  simp only [List.take_succ_cons, List.take_zero, List.drop_succ_cons, List.drop_zero]
  repeat still_step
  refine wpStill_nil ?_
  go_wp2_with fail
  refine (HCC.out _ (NodeW.keep HN.out (KeepT.drewN _ w1 1)) (NodeW.keep HN2.out (KeepT.drewN _ w1 1))).mono ?_
  rintro e w2 ⟨v, rfl, hv, hb2⟩
  have hb12 : Below w1.heap.size w1 w2 := ((Below.refl _ w1).drew).trans hb2
  have HB2 := Lib.hid (HB1.out.trans (hb12.mono HB1.out.size))
  have HV := Lib.hid hv
  obtain ⟨BB, oo, xx, yy, rfl, _, _, hcn, _, _⟩ := hv
  have hcnt := hcn.2
  have S0 := cell_keep hb12 S0; have S1 := cell_keep hb12 S1; have F1 := (hb12.frozen (p := ⟨R, a, none⟩) (cell_lt HO)).trans F1; have HO := cell_keep hb12 HO
  have q1 := cell_keep hb12 q1
  have F2 : w2.frozen? ⟨s, 0, none⟩ = false := (hb12.frozen (p := ⟨s, 0, none⟩) (cell_lt ‹w1.cell? ⟨s, 0, none⟩ = some (.int .i64 k)›)).trans F2
  have HLN := Lib.hid LN
  clear hb12 hb2 hcn HB1 HN HN2 HCC q0 q2 q3 M1 HBX HDX
  have LN := HLN.out
  generalize (tx (.pair t u)).length = ln at *
  go_wp2_with fail
  refine wp_region_still_tail 8 (by kernel_rfl) (by kernel_rfl) ?_
  change wpStill _ _ w2.drew (fun a' => wpList _ _ _ _ a' w2.drew) _ _
  simp only [List.take_succ_cons, List.take_zero, List.drop_succ_cons, List.drop_zero]
  repeat still_step
  refine wpStill_nil ?_
  go_wp2
  go_ret
  exact ⟨rfl, _, _, HB2.out.drew, NodeW.keep HV.out (KeepT.drewN _ w2 1), by rw [num_succ']; rfl⟩
set_option maxHeartbeats 3200000 in
set_option maxRecDepth 100000 in
theorem rstep_large (w : World) (m C b off n cap k a s R rc : Nat) (t u : Tr) (X Y : Option Addr) (d c : Int) (tr : ByteArray) (old : Value) (hk : k < n) (_hn : n ≤ 4000) (ha : a < 32) (hRs : R ≠ s)
    (m0 : w.cell? ⟨m, 0, none⟩ = some (.slice (some ⟨b, off, none⟩) n cap)) (m1 : w.cell? ⟨m, 1, none⟩ = some (.slice (some ⟨C, 0, none⟩) n n)) (s0 : w.cell? ⟨s, 0, none⟩ = some (.int .i64 k)) (s1 : w.cell? ⟨s, 1, none⟩ = some (.slice (some ⟨R, 0, none⟩) 32 rc))
    (i0 : w.cell? ⟨b, off + k * 5, none⟩ = some (.int .i64 2)) (i1 : w.cell? ⟨b, off + k * 5 + 1, none⟩ = some (.int .i64 a)) (i2 : w.cell? ⟨b, off + k * 5 + 2, none⟩ = some (.int .i64 d)) (i3 : w.cell? ⟨b, off + k * 5 + 3, none⟩ = some (.int .i64 c)) (i4 : w.cell? ⟨b, off + k * 5 + 4, none⟩ = some (.string tr))
    (ho : w.cell? ⟨R, a, none⟩ = some old) (f1 : w.frozen? ⟨R, a, none⟩ = false) (f2 : w.frozen? ⟨s, 0, none⟩ = false)
    (B D : Nat) (hB : B < 32) (hD : D < 32) (hd : d = (B : Int)) (hc : c = (D : Int)) (hb : w.cell? ⟨R, B, none⟩ = some (.pointer X)) (hdd : w.cell? ⟨R, D, none⟩ = some (.pointer Y)) (hN : NodeW 72 w t (.pointer X)) (hN2 : NodeW 72 w u (.pointer Y)) (lt : (tx t).length ≤ 2000000) (lu : (tx u).length ≤ 2000000) (hl : ¬ (tx (.pair t u)).length ≤ 2000000) :
    Calls Tryz.prog 82 #[.pointer (some ⟨m, 0, none⟩), .pointer (some ⟨s, 0, none⟩)] w fun e w' => e = .returned (.bool false) ∧ Below w.heap.size w w' := by
  have k0 : (0 : Int) ≤ (k : Int) := by omega
  have k1 : (k : Int) < (n : Int) := by omega
  have a0 : (0 : Int) ≤ (a : Int) := by omega
  have a1 : (a : Int) < 32 := by omega
  have hRs' : s ≠ R := fun e => hRs e.symm
  subst hd
  subst hc
  have b0 : (0 : Int) ≤ (B : Int) := by omega
  have b1 : (B : Int) < 32 := by omega
  have d0 : (0 : Int) ≤ (D : Int) := by omega
  have d1 : (D : Int) < 32 := by omega
  have HCC := Lib.hid (fun W h1 h2 => rCons_any W t u (.pointer X) (.pointer Y) h1 h2 lt lu)
  have LN : (2000000 : Int) < ((tx (.pair t u)).length : Int) := by omega
  go_enter Tryz.func82, Tryz.ntmps82
  go_wp2
  go_region_held3 (fun w' => w'.cell? ⟨m, 0, none⟩ = some (.slice (some ⟨b, off, none⟩) n cap) ∧ w'.cell? ⟨s, 0, none⟩ = some (.int .i64 k) ∧ w'.cell? ⟨b, off + k * 5, none⟩ = some (.int .i64 2) ∧ w'.cell? ⟨b, off + k * 5 + 1, none⟩ = some (.int .i64 a) ∧ w'.cell? ⟨b, off + k * 5 + 2, none⟩ = some (.int .i64 (B : Int)) ∧ w'.cell? ⟨b, off + k * 5 + 3, none⟩ = some (.int .i64 (D : Int)) ∧ w'.cell? ⟨b, off + k * 5 + 4, none⟩ = some (.string tr)) (go_keep) (fail)
  have hb1 : Below w.heap.size w ((w.alloc (.cells #[.int .i64 2, .int .i64 a, .int .i64 (B : Int), .int .i64 (D : Int), .string tr] 43)).drew) := ((Below.refl _ _).alloc (Nat.le_refl _) _).drew
  have q1 : ((w.alloc (.cells #[.int .i64 2, .int .i64 a, .int .i64 (B : Int), .int .i64 (D : Int), .string tr] 43)).drew).cell? ⟨w.heap.size, 1, none⟩ = some (.int .i64 a) := by show (w.alloc _).cell? _ = _; rw [World.cell?_alloc_new]; rfl
  have q2 : ((w.alloc (.cells #[.int .i64 2, .int .i64 a, .int .i64 (B : Int), .int .i64 (D : Int), .string tr] 43)).drew).cell? ⟨w.heap.size, 2, none⟩ = some (.int .i64 (B : Int)) := by show (w.alloc _).cell? _ = _; rw [World.cell?_alloc_new]; rfl
  have q3 : ((w.alloc (.cells #[.int .i64 2, .int .i64 a, .int .i64 (B : Int), .int .i64 (D : Int), .string tr] 43)).drew).cell? ⟨w.heap.size, 3, none⟩ = some (.int .i64 (D : Int)) := by show (w.alloc _).cell? _ = _; rw [World.cell?_alloc_new]; rfl
  have q0 : ((w.alloc (.cells #[.int .i64 2, .int .i64 a, .int .i64 (B : Int), .int .i64 (D : Int), .string tr] 43)).drew).cell? ⟨w.heap.size, 0, none⟩ = some (.int .i64 2) := by show (w.alloc _).cell? _ = _; rw [World.cell?_alloc_new]; rfl
  have M1 := cell_keep hb1 m1; have S0 := cell_keep hb1 s0; have S1 := cell_keep hb1 s1; have HO := cell_keep hb1 ho
  have F1 := (hb1.frozen (p := ⟨R, a, none⟩) (cell_lt ho)).trans f1
  have F2 := (hb1.frozen (p := ⟨s, 0, none⟩) (cell_lt s0)).trans f2
  have HBX := cell_keep hb1 hb
  have HDX := cell_keep hb1 hdd
  have HN := Lib.hid (NodeW.below hN hb1)
  have HN2 := Lib.hid (NodeW.below hN2 hb1)
  have HB1 := Lib.hid hb1
  clear m0 m1 s0 s1 i0 i1 i2 i3 i4 ho f1 f2 hb1 hb hdd hN hN2 lt lu hl
  generalize ((w.alloc (.cells #[.int .i64 2, .int .i64 a, .int .i64 (B : Int), .int .i64 (D : Int), .string tr] 43)).drew) = w1 at *
  go_wp2_with fail
  refine wp_region_still_tail 16 (by kernel_rfl) (by kernel_rfl) ?_
  change wpStill _ _ w1.drew (fun a' => wpList _ _ _ _ a' w1.drew) _ _
  simp only [List.take_succ_cons, List.take_zero, List.drop_succ_cons, List.drop_zero]
  repeat still_step
  refine wpStill_nil ?_
  go_wp2_with fail
  refine (HCC.out _ (NodeW.keep HN.out (KeepT.drewN _ w1 1)) (NodeW.keep HN2.out (KeepT.drewN _ w1 1))).mono ?_
  rintro e w2 ⟨v, rfl, hv, hb2⟩
  have hb12 : Below w1.heap.size w1 w2 := ((Below.refl _ w1).drew).trans hb2
  have HB2 := Lib.hid (HB1.out.trans (hb12.mono HB1.out.size))
  have HV := Lib.hid hv
  obtain ⟨BB, oo, xx, yy, rfl, _, _, hcn, _, _⟩ := hv
  have hcnt := hcn.2
  have S0 := cell_keep hb12 S0; have S1 := cell_keep hb12 S1; have F1 := (hb12.frozen (p := ⟨R, a, none⟩) (cell_lt HO)).trans F1; have HO := cell_keep hb12 HO
  have q1 := cell_keep hb12 q1
  have F2 : w2.frozen? ⟨s, 0, none⟩ = false := (hb12.frozen (p := ⟨s, 0, none⟩) (cell_lt ‹w1.cell? ⟨s, 0, none⟩ = some (.int .i64 k)›)).trans F2
  have HLN := Lib.hid LN
  clear hb12 hb2 hcn HB1 HN HN2 HCC q0 q2 q3 M1 HBX HDX
  have LN := HLN.out
  generalize (tx (.pair t u)).length = ln at *
  go_wp2
  go_ret
  exact ⟨rfl, HB2.out⟩
set_option maxHeartbeats 3200000 in
set_option maxRecDepth 100000 in
theorem rstep_stay (w : World) (m C b off n cap k a s R rc : Nat)  (d c : Int) (tr : ByteArray) (old : Value) (hk : k < n) (hn : n ≤ 4000) (ha : a < 32) (hRs : R ≠ s)
    (m0 : w.cell? ⟨m, 0, none⟩ = some (.slice (some ⟨b, off, none⟩) n cap)) (m1 : w.cell? ⟨m, 1, none⟩ = some (.slice (some ⟨C, 0, none⟩) n n)) (s0 : w.cell? ⟨s, 0, none⟩ = some (.int .i64 k)) (s1 : w.cell? ⟨s, 1, none⟩ = some (.slice (some ⟨R, 0, none⟩) 32 rc))
    (i0 : w.cell? ⟨b, off + k * 5, none⟩ = some (.int .i64 5)) (i1 : w.cell? ⟨b, off + k * 5 + 1, none⟩ = some (.int .i64 a)) (i2 : w.cell? ⟨b, off + k * 5 + 2, none⟩ = some (.int .i64 d)) (i3 : w.cell? ⟨b, off + k * 5 + 3, none⟩ = some (.int .i64 c)) (i4 : w.cell? ⟨b, off + k * 5 + 4, none⟩ = some (.string tr))
    (ho : w.cell? ⟨R, a, none⟩ = some old) (f1 : w.frozen? ⟨R, a, none⟩ = false) (f2 : w.frozen? ⟨s, 0, none⟩ = false)
    (hx : w.cell? ⟨R, a, none⟩ = some (.pointer none)) :
    Calls Tryz.prog 82 #[.pointer (some ⟨m, 0, none⟩), .pointer (some ⟨s, 0, none⟩)] w (RStepGo w s (k + 1)) := by
  have k0 : (0 : Int) ≤ (k : Int) := by omega
  have k1 : (k : Int) < (n : Int) := by omega
  have a0 : (0 : Int) ≤ (a : Int) := by omega
  have a1 : (a : Int) < 32 := by omega
  have hRs' : s ≠ R := fun e => hRs e.symm
  go_enter Tryz.func82, Tryz.ntmps82
  go_wp2
  go_region_held3 (fun w' => w'.cell? ⟨m, 0, none⟩ = some (.slice (some ⟨b, off, none⟩) n cap) ∧ w'.cell? ⟨s, 0, none⟩ = some (.int .i64 k) ∧ w'.cell? ⟨b, off + k * 5, none⟩ = some (.int .i64 5) ∧ w'.cell? ⟨b, off + k * 5 + 1, none⟩ = some (.int .i64 a) ∧ w'.cell? ⟨b, off + k * 5 + 2, none⟩ = some (.int .i64 d) ∧ w'.cell? ⟨b, off + k * 5 + 3, none⟩ = some (.int .i64 c) ∧ w'.cell? ⟨b, off + k * 5 + 4, none⟩ = some (.string tr)) (go_keep) (fail)
  have hb1 : Below w.heap.size w ((w.alloc (.cells #[.int .i64 5, .int .i64 a, .int .i64 d, .int .i64 c, .string tr] 43)).drew) := ((Below.refl _ _).alloc (Nat.le_refl _) _).drew
  have q1 : ((w.alloc (.cells #[.int .i64 5, .int .i64 a, .int .i64 d, .int .i64 c, .string tr] 43)).drew).cell? ⟨w.heap.size, 1, none⟩ = some (.int .i64 a) := by show (w.alloc _).cell? _ = _; rw [World.cell?_alloc_new]; rfl
  have q2 : ((w.alloc (.cells #[.int .i64 5, .int .i64 a, .int .i64 d, .int .i64 c, .string tr] 43)).drew).cell? ⟨w.heap.size, 2, none⟩ = some (.int .i64 d) := by show (w.alloc _).cell? _ = _; rw [World.cell?_alloc_new]; rfl
  have q3 : ((w.alloc (.cells #[.int .i64 5, .int .i64 a, .int .i64 d, .int .i64 c, .string tr] 43)).drew).cell? ⟨w.heap.size, 3, none⟩ = some (.int .i64 c) := by show (w.alloc _).cell? _ = _; rw [World.cell?_alloc_new]; rfl
  have q0 : ((w.alloc (.cells #[.int .i64 5, .int .i64 a, .int .i64 d, .int .i64 c, .string tr] 43)).drew).cell? ⟨w.heap.size, 0, none⟩ = some (.int .i64 5) := by show (w.alloc _).cell? _ = _; rw [World.cell?_alloc_new]; rfl
  have M1 := cell_keep hb1 m1; have S0 := cell_keep hb1 s0; have S1 := cell_keep hb1 s1; have HO := cell_keep hb1 ho
  have F1 := (hb1.frozen (p := ⟨R, a, none⟩) (cell_lt ho)).trans f1
  have F2 := (hb1.frozen (p := ⟨s, 0, none⟩) (cell_lt s0)).trans f2
  have HX := cell_keep hb1 hx
  have HB1 := Lib.hid hb1
  clear m0 m1 s0 s1 i0 i1 i2 i3 i4 ho f1 f2 hb1 hx HO
  generalize ((w.alloc (.cells #[.int .i64 5, .int .i64 a, .int .i64 d, .int .i64 c, .string tr] 43)).drew) = w1 at *
  go_wp2_with fail
  go_quiet (fail)
  go_wp2
  go_ret
  exact ⟨rfl, _, bdrewN HB1.out nq, rfl⟩
set_option maxHeartbeats 3200000 in
set_option maxRecDepth 100000 in
theorem rstep_jump (w : World) (m C b off n cap k a s R rc : Nat) (X : Addr) (d c : Int) (tr : ByteArray) (old : Value) (hk : k < n) (hn : n ≤ 4000) (ha : a < 32) (hRs : R ≠ s)
    (m0 : w.cell? ⟨m, 0, none⟩ = some (.slice (some ⟨b, off, none⟩) n cap)) (m1 : w.cell? ⟨m, 1, none⟩ = some (.slice (some ⟨C, 0, none⟩) n n)) (s0 : w.cell? ⟨s, 0, none⟩ = some (.int .i64 k)) (s1 : w.cell? ⟨s, 1, none⟩ = some (.slice (some ⟨R, 0, none⟩) 32 rc))
    (i0 : w.cell? ⟨b, off + k * 5, none⟩ = some (.int .i64 5)) (i1 : w.cell? ⟨b, off + k * 5 + 1, none⟩ = some (.int .i64 a)) (i2 : w.cell? ⟨b, off + k * 5 + 2, none⟩ = some (.int .i64 d)) (i3 : w.cell? ⟨b, off + k * 5 + 3, none⟩ = some (.int .i64 c)) (i4 : w.cell? ⟨b, off + k * 5 + 4, none⟩ = some (.string tr))
    (ho : w.cell? ⟨R, a, none⟩ = some old) (f1 : w.frozen? ⟨R, a, none⟩ = false) (f2 : w.frozen? ⟨s, 0, none⟩ = false)
    (hx : w.cell? ⟨R, a, none⟩ = some (.pointer (some X))) (d0 : -(k : Int) ≤ d) (d1 : d ≤ n - k) :
    Calls Tryz.prog 82 #[.pointer (some ⟨m, 0, none⟩), .pointer (some ⟨s, 0, none⟩)] w (RStepGo w s (k + d)) := by
  have k0 : (0 : Int) ≤ (k : Int) := by omega
  have k1 : (k : Int) < (n : Int) := by omega
  have a0 : (0 : Int) ≤ (a : Int) := by omega
  have a1 : (a : Int) < 32 := by omega
  have hRs' : s ≠ R := fun e => hRs e.symm
  go_enter Tryz.func82, Tryz.ntmps82
  go_wp2
  go_region_held3 (fun w' => w'.cell? ⟨m, 0, none⟩ = some (.slice (some ⟨b, off, none⟩) n cap) ∧ w'.cell? ⟨s, 0, none⟩ = some (.int .i64 k) ∧ w'.cell? ⟨b, off + k * 5, none⟩ = some (.int .i64 5) ∧ w'.cell? ⟨b, off + k * 5 + 1, none⟩ = some (.int .i64 a) ∧ w'.cell? ⟨b, off + k * 5 + 2, none⟩ = some (.int .i64 d) ∧ w'.cell? ⟨b, off + k * 5 + 3, none⟩ = some (.int .i64 c) ∧ w'.cell? ⟨b, off + k * 5 + 4, none⟩ = some (.string tr)) (go_keep) (fail)
  have hb1 : Below w.heap.size w ((w.alloc (.cells #[.int .i64 5, .int .i64 a, .int .i64 d, .int .i64 c, .string tr] 43)).drew) := ((Below.refl _ _).alloc (Nat.le_refl _) _).drew
  have q1 : ((w.alloc (.cells #[.int .i64 5, .int .i64 a, .int .i64 d, .int .i64 c, .string tr] 43)).drew).cell? ⟨w.heap.size, 1, none⟩ = some (.int .i64 a) := by show (w.alloc _).cell? _ = _; rw [World.cell?_alloc_new]; rfl
  have q2 : ((w.alloc (.cells #[.int .i64 5, .int .i64 a, .int .i64 d, .int .i64 c, .string tr] 43)).drew).cell? ⟨w.heap.size, 2, none⟩ = some (.int .i64 d) := by show (w.alloc _).cell? _ = _; rw [World.cell?_alloc_new]; rfl
  have q3 : ((w.alloc (.cells #[.int .i64 5, .int .i64 a, .int .i64 d, .int .i64 c, .string tr] 43)).drew).cell? ⟨w.heap.size, 3, none⟩ = some (.int .i64 c) := by show (w.alloc _).cell? _ = _; rw [World.cell?_alloc_new]; rfl
  have q0 : ((w.alloc (.cells #[.int .i64 5, .int .i64 a, .int .i64 d, .int .i64 c, .string tr] 43)).drew).cell? ⟨w.heap.size, 0, none⟩ = some (.int .i64 5) := by show (w.alloc _).cell? _ = _; rw [World.cell?_alloc_new]; rfl
  have M1 := cell_keep hb1 m1; have S0 := cell_keep hb1 s0; have S1 := cell_keep hb1 s1; have HO := cell_keep hb1 ho
  have F1 := (hb1.frozen (p := ⟨R, a, none⟩) (cell_lt ho)).trans f1
  have F2 := (hb1.frozen (p := ⟨s, 0, none⟩) (cell_lt s0)).trans f2
  have HX := cell_keep hb1 hx
  have HB1 := Lib.hid hb1
  clear m0 m1 s0 s1 i0 i1 i2 i3 i4 ho f1 f2 hb1 hx HO
  generalize ((w.alloc (.cells #[.int .i64 5, .int .i64 a, .int .i64 d, .int .i64 c, .string tr] 43)).drew) = w1 at *
  go_wp2_with fail
  go_quiet (fail)
  go_wp2_with fail
  refine wp_region_still_tail 10 (by kernel_rfl) (by kernel_rfl) ?_
  change wpStill _ _ (w1.drewN nq).drew (fun a' => wpList _ _ _ _ a' (w1.drewN nq).drew) _ _
  simp only [List.take_succ_cons, List.take_zero, List.drop_succ_cons, List.drop_zero]
  repeat still_step
  refine wpStill_nil ?_
  go_wp2
  go_ret
  exact ⟨rfl, _, (bdrewN HB1.out nq).drew, rfl⟩
theorem rended_any (w : World) (m s n cap k : Nat) (A : Option Addr) (hn : n ≤ 4000) (hk : k ≤ n) (m0 : w.cell? ⟨m, 0, none⟩ = some (.slice A n cap)) (s0 : w.cell? ⟨s, 0, none⟩ = some (.int .i64 k)) :
    Calls Tryz.prog 81 #[.pointer (some ⟨m, 0, none⟩), .pointer (some ⟨s, 0, none⟩)] w fun e w' => e = .returned (.bool (k == n)) ∧ ∃ q, w' = w.drewN q := by
  rcases Nat.lt_or_ge k n with h | h
  · have e1 : (k == n) = false := by simp; omega
    have e2 : ((k : Int) == (n : Int)) = false := by simp; omega
    rw [e1]
    go_enter Tryz.func81, Tryz.ntmps81
    go_wp2
    go_quiet (fail)
    go_wp2
    go_ret
    exact ⟨rfl, _, rfl⟩
  · obtain rfl : k = n := by omega
    rw [show (k == k) = true from by simp]
    go_enter Tryz.func81, Tryz.ntmps81
    go_wp2
    go_quiet (fail)
    go_wp2
    go_ret
    exact ⟨rfl, _, rfl⟩
end Go.Proofs.YtkpfocgcnehajabGreatDoor
