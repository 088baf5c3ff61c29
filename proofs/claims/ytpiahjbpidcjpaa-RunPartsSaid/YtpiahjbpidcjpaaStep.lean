/- Package run: step and ended of a machine. By an AI agent. -/
import Derived.Test.YtpiahjbpidcjpaaBld
import Derived.StillTailTactics
import Derived.Deep.QuietTactic
import Derived.BigQuiet
namespace Go.Proofs.Ytpiahjbpidcjpaa
open Go.RowKit Pl

/-- a register and the place have been written -/
def StepTo (w : World) (M a : Nat) (t : Tr) (k : Nat) (e : Ending) (w' : World) : Prop :=
  e = .returned (.bool true) ∧ ∃ w1 v, Below w.heap.size w w1 ∧ NodeW 151 w1 t v ∧ w' = (w1.setCell ⟨M, 3 + a, none⟩ v).setCell ⟨M, 2, none⟩ (.int .i64 (k : Int))
/-- the place has been written -/
def StepGo (w : World) (M : Nat) (k : Int) (e : Ending) (w' : World) : Prop :=
  e = .returned (.bool true) ∧ ∃ q, w' = (w.drewN q).setCell ⟨M, 2, none⟩ (.int .i64 k)
theorem quiet_add_left {P : Program} {f : FuncId} {args : Array Value} {w : World} {a n : Nat} {v : Value}
    (h : Calls P f args (w.drewN (a + n)) fun e w' => e = .returned v ∧ w.drewN (a + n) = w') :
    Calls P f args (w.drewN (a + n)) fun e w'' => e = .returned v ∧ ∃ m, w'' = w.drewN (a + m) :=
  h.mono fun _ _ ⟨he, hm⟩ => ⟨he, n, hm.symm⟩
theorem num_succ' (k : Nat) : (k : Int) + 1 = ((k + 1 : Nat) : Int) := by omega
theorem head_val {w : World} {t : Tr} {v : Value} (h : NodeW 151 w t v) : ∃ y, NodeW 151 w (hdT t) y ∧ ∀ q, Calls Try.prog 114 #[v] (w.drewN q) fun e w' => e = .returned y ∧ w' = w.drewN q := by
  cases t with
  | nil =>
    obtain rfl : v = .pointer none := h
    exact ⟨.pointer none, rfl, fun q => (head_any 151 (w.drewN q) .nil _ rfl).mono (by rintro e w' ⟨y, rfl, h1, h2⟩; exact ⟨by rw [show y = .pointer none from h1], h2.symm⟩)⟩
  | pair a b =>
    obtain ⟨B, o, x, y, rfl, h1, h2, h3, h4, h5⟩ := h
    refine ⟨x, h4, fun q => ?_⟩
    have c1 : (w.drewN q).cell? ⟨B, o, none⟩ = some x := h1.2
    go_enter Try.func114, Try.ntmps114
    go_wp2
    go_ret
    exact ⟨rfl, rfl⟩
theorem tail_val {w : World} {t : Tr} {v : Value} (h : NodeW 151 w t v) : ∃ y, NodeW 151 w (tlT t) y ∧ ∀ q, Calls Try.prog 115 #[v] (w.drewN q) fun e w' => e = .returned y ∧ w' = w.drewN q := by
  cases t with
  | nil =>
    obtain rfl : v = .pointer none := h
    exact ⟨.pointer none, rfl, fun q => (tail_any 151 (w.drewN q) .nil _ rfl).mono (by rintro e w' ⟨y, rfl, h1, h2⟩; exact ⟨by rw [show y = .pointer none from h1], h2.symm⟩)⟩
  | pair a b =>
    obtain ⟨B, o, x, y, rfl, h1, h2, h3, h4, h5⟩ := h
    refine ⟨y, h5, fun q => ?_⟩
    have c1 : (w.drewN q).cell? ⟨B, o + 1, none⟩ = some y := h2.2
    go_enter Try.func115, Try.ntmps115
    go_wp2
    go_ret
    exact ⟨rfl, rfl⟩
set_option maxHeartbeats 3200000 in
set_option maxRecDepth 100000 in
theorem step_set (w : World) (M C b off n cap k a : Nat) (t : Tr) (X : Option Addr) (old : Value) (hk : k < n) (hn : n ≤ 4000) (ha : a < 32)
    (m0 : w.cell? ⟨M, 0, none⟩ = some (.slice (some ⟨b, off, none⟩) n cap)) (m1 : w.cell? ⟨M, 1, none⟩ = some (.slice (some ⟨C, 0, none⟩) n n)) (m2 : w.cell? ⟨M, 2, none⟩ = some (.int .i64 k))
    (i0 : w.cell? ⟨b, off + k * 5, none⟩ = some (.int .i64 0)) (i1 : w.cell? ⟨b, off + k * 5 + 1, none⟩ = some (.int .i64 a))
    (ho : w.cell? ⟨M, 3 + a, none⟩ = some old) (f1 : w.frozen? ⟨M, 3 + a, none⟩ = false) (f2 : w.frozen? ⟨M, 2, none⟩ = false)
    (hc : w.cell? ⟨C, k, none⟩ = some (.pointer X)) (hN : NodeW 151 w t (.pointer X)) :
    Calls Try.prog 72 #[.pointer (some ⟨M, 0, none⟩)] w (StepTo w M a t (k + 1)) := by
  have k0 : (0 : Int) ≤ (k : Int) := by omega
  have k1 : (k : Int) < (n : Int) := by omega
  have a0 : (0 : Int) ≤ (a : Int) := by omega
  have a1 : (a : Int) < 32 := by omega
  have HN := Lib.hid hN; clear hN
  go_enter Try.func72, Try.ntmps72
  go_wp2
  go_quiet (fail)
  go_wp2_with fail
  refine wp_region_still_tail 18 (by kernel_rfl) (by kernel_rfl) ?_
  change wpStill _ _ (w.drewN nq).drew (fun a' => wpList _ _ _ _ a' (w.drewN nq).drew) _ _
  simp only [List.take_succ_cons, List.take_zero, List.drop_succ_cons, List.drop_zero]
  repeat still_step
  refine wpStill_nil ?_
  go_wp2
  go_ret
  exact ⟨rfl, _, _, (bdrewN (Below.refl _ _) (nq + 1)), NodeW.keep HN.out (KeepT.drewN _ _ _), by rw [num_succ']⟩
set_option maxHeartbeats 3200000 in
set_option maxRecDepth 100000 in
theorem step_move (w : World) (M C b off n cap k a : Nat) (t : Tr) (X : Option Addr) (old : Value) (hk : k < n) (hn : n ≤ 4000) (ha : a < 32)
    (m0 : w.cell? ⟨M, 0, none⟩ = some (.slice (some ⟨b, off, none⟩) n cap)) (_m1 : w.cell? ⟨M, 1, none⟩ = some (.slice (some ⟨C, 0, none⟩) n n)) (m2 : w.cell? ⟨M, 2, none⟩ = some (.int .i64 k))
    (i0 : w.cell? ⟨b, off + k * 5, none⟩ = some (.int .i64 1)) (i1 : w.cell? ⟨b, off + k * 5 + 1, none⟩ = some (.int .i64 a))
    (ho : w.cell? ⟨M, 3 + a, none⟩ = some old) (f1 : w.frozen? ⟨M, 3 + a, none⟩ = false) (f2 : w.frozen? ⟨M, 2, none⟩ = false)
    (B : Nat) (hB : B < 32) (i2 : w.cell? ⟨b, off + k * 5 + 2, none⟩ = some (.int .i64 B)) (hb : w.cell? ⟨M, 3 + B, none⟩ = some (.pointer X)) (hN : NodeW 151 w t (.pointer X)) :
    Calls Try.prog 72 #[.pointer (some ⟨M, 0, none⟩)] w (StepTo w M a t (k + 1)) := by
  have k0 : (0 : Int) ≤ (k : Int) := by omega
  have k1 : (k : Int) < (n : Int) := by omega
  have a0 : (0 : Int) ≤ (a : Int) := by omega
  have a1 : (a : Int) < 32 := by omega
  have b0 : (0 : Int) ≤ (B : Int) := by omega
  have b1 : (B : Int) < 32 := by omega
  have HN := Lib.hid hN; clear hN
  go_enter Try.func72, Try.ntmps72
  go_wp2
  go_quiet (fail)
  go_wp2_with fail
  refine wp_region_still_tail 17 (by kernel_rfl) (by kernel_rfl) ?_
  change wpStill _ _ (w.drewN nq).drew (fun a' => wpList _ _ _ _ a' (w.drewN nq).drew) _ _
  simp only [List.take_succ_cons, List.take_zero, List.drop_succ_cons, List.drop_zero]
  repeat still_step
  refine wpStill_nil ?_
  go_wp2
  go_ret
  exact ⟨rfl, _, _, (bdrewN (Below.refl _ _) (nq + 1)), NodeW.keep HN.out (KeepT.drewN _ _ _), by rw [num_succ']⟩
set_option maxHeartbeats 3200000 in
set_option maxRecDepth 100000 in
theorem step_head (w : World) (M C b off n cap k a : Nat) (t : Tr) (X : Option Addr) (old : Value) (hk : k < n) (hn : n ≤ 4000) (ha : a < 32)
    (m0 : w.cell? ⟨M, 0, none⟩ = some (.slice (some ⟨b, off, none⟩) n cap)) (_m1 : w.cell? ⟨M, 1, none⟩ = some (.slice (some ⟨C, 0, none⟩) n n)) (m2 : w.cell? ⟨M, 2, none⟩ = some (.int .i64 k))
    (i0 : w.cell? ⟨b, off + k * 5, none⟩ = some (.int .i64 3)) (i1 : w.cell? ⟨b, off + k * 5 + 1, none⟩ = some (.int .i64 a))
    (ho : w.cell? ⟨M, 3 + a, none⟩ = some old) (f1 : w.frozen? ⟨M, 3 + a, none⟩ = false) (f2 : w.frozen? ⟨M, 2, none⟩ = false)
    (B : Nat) (hB : B < 32) (i2 : w.cell? ⟨b, off + k * 5 + 2, none⟩ = some (.int .i64 B)) (hb : w.cell? ⟨M, 3 + B, none⟩ = some (.pointer X)) (hN : NodeW 151 w t (.pointer X)) :
    Calls Try.prog 72 #[.pointer (some ⟨M, 0, none⟩)] w (StepTo w M a (hdT t) (k + 1)) := by
  have k0 : (0 : Int) ≤ (k : Int) := by omega
  have k1 : (k : Int) < (n : Int) := by omega
  have a0 : (0 : Int) ≤ (a : Int) := by omega
  have a1 : (a : Int) < 32 := by omega
  have b0 : (0 : Int) ≤ (B : Int) := by omega
  have b1 : (B : Int) < 32 := by omega
  obtain ⟨y, hy, hcall⟩ := head_val hN
  obtain ⟨Y, rfl⟩ := hy.one
  have HY := Lib.hid hy; have HC := Lib.hid hcall; clear hy hcall hN
  go_enter Try.func72, Try.ntmps72
  go_wp2
  go_quiet (fail)
  go_wp2_with fail
  refine wp_region_still_tail 18 (by kernel_rfl) (by kernel_rfl) ?_
  change wpStill _ _ (w.drewN nq).drew (fun a' => wpList _ _ _ _ a' (w.drewN nq).drew) _ _
  simp only [List.take_succ_cons, List.take_zero, List.drop_succ_cons, List.drop_zero]
  repeat still_step
  still_call (HC.out _)
  repeat still_step
  refine wpStill_nil ?_
  go_wp2
  go_ret
  exact ⟨rfl, _, _, (bdrewN (Below.refl _ _) (nq + 1)), NodeW.keep HY.out (KeepT.drewN _ _ _), by rw [num_succ']⟩
set_option maxHeartbeats 3200000 in
set_option maxRecDepth 100000 in
theorem step_tail (w : World) (M C b off n cap k a : Nat) (t : Tr) (X : Option Addr) (old : Value) (hk : k < n) (hn : n ≤ 4000) (ha : a < 32)
    (m0 : w.cell? ⟨M, 0, none⟩ = some (.slice (some ⟨b, off, none⟩) n cap)) (_m1 : w.cell? ⟨M, 1, none⟩ = some (.slice (some ⟨C, 0, none⟩) n n)) (m2 : w.cell? ⟨M, 2, none⟩ = some (.int .i64 k))
    (i0 : w.cell? ⟨b, off + k * 5, none⟩ = some (.int .i64 4)) (i1 : w.cell? ⟨b, off + k * 5 + 1, none⟩ = some (.int .i64 a))
    (ho : w.cell? ⟨M, 3 + a, none⟩ = some old) (f1 : w.frozen? ⟨M, 3 + a, none⟩ = false) (f2 : w.frozen? ⟨M, 2, none⟩ = false)
    (B : Nat) (hB : B < 32) (i2 : w.cell? ⟨b, off + k * 5 + 2, none⟩ = some (.int .i64 B)) (hb : w.cell? ⟨M, 3 + B, none⟩ = some (.pointer X)) (hN : NodeW 151 w t (.pointer X)) :
    Calls Try.prog 72 #[.pointer (some ⟨M, 0, none⟩)] w (StepTo w M a (tlT t) (k + 1)) := by
  have k0 : (0 : Int) ≤ (k : Int) := by omega
  have k1 : (k : Int) < (n : Int) := by omega
  have a0 : (0 : Int) ≤ (a : Int) := by omega
  have a1 : (a : Int) < 32 := by omega
  have b0 : (0 : Int) ≤ (B : Int) := by omega
  have b1 : (B : Int) < 32 := by omega
  obtain ⟨y, hy, hcall⟩ := tail_val hN
  obtain ⟨Y, rfl⟩ := hy.one
  have HY := Lib.hid hy; have HC := Lib.hid hcall; clear hy hcall hN
  go_enter Try.func72, Try.ntmps72
  go_wp2
  go_quiet (fail)
  go_wp2_with fail
  refine wp_region_still_tail 18 (by kernel_rfl) (by kernel_rfl) ?_
  change wpStill _ _ (w.drewN nq).drew (fun a' => wpList _ _ _ _ a' (w.drewN nq).drew) _ _
  simp only [List.take_succ_cons, List.take_zero, List.drop_succ_cons, List.drop_zero]
  repeat still_step
  still_call (HC.out _)
  repeat still_step
  refine wpStill_nil ?_
  go_wp2
  go_ret
  exact ⟨rfl, _, _, (bdrewN (Below.refl _ _) (nq + 1)), NodeW.keep HY.out (KeepT.drewN _ _ _), by rw [num_succ']⟩
set_option maxHeartbeats 3200000 in
set_option maxRecDepth 100000 in
theorem step_cons (w : World) (M C b off n cap k a : Nat) (t u : Tr) (X Y : Option Addr) (old : Value) (hk : k < n) (hn : n ≤ 4000) (ha : a < 32)
    (m0 : w.cell? ⟨M, 0, none⟩ = some (.slice (some ⟨b, off, none⟩) n cap)) (_m1 : w.cell? ⟨M, 1, none⟩ = some (.slice (some ⟨C, 0, none⟩) n n)) (m2 : w.cell? ⟨M, 2, none⟩ = some (.int .i64 k))
    (i0 : w.cell? ⟨b, off + k * 5, none⟩ = some (.int .i64 2)) (i1 : w.cell? ⟨b, off + k * 5 + 1, none⟩ = some (.int .i64 a))
    (ho : w.cell? ⟨M, 3 + a, none⟩ = some old) (f1 : w.frozen? ⟨M, 3 + a, none⟩ = false) (f2 : w.frozen? ⟨M, 2, none⟩ = false)
    (B D : Nat) (hB : B < 32) (hD : D < 32) (i2 : w.cell? ⟨b, off + k * 5 + 2, none⟩ = some (.int .i64 B)) (i3 : w.cell? ⟨b, off + k * 5 + 3, none⟩ = some (.int .i64 D)) (hb : w.cell? ⟨M, 3 + B, none⟩ = some (.pointer X)) (hd : w.cell? ⟨M, 3 + D, none⟩ = some (.pointer Y)) (hN : NodeW 151 w t (.pointer X)) (hN2 : NodeW 151 w u (.pointer Y)) (hl : (tx (.pair t u)).length ≤ 2000000) :
    Calls Try.prog 72 #[.pointer (some ⟨M, 0, none⟩)] w (StepTo w M a (.pair t u) (k + 1)) := by
  have k0 : (0 : Int) ≤ (k : Int) := by omega
  have k1 : (k : Int) < (n : Int) := by omega
  have a0 : (0 : Int) ≤ (a : Int) := by omega
  have a1 : (a : Int) < 32 := by omega
  have b0 : (0 : Int) ≤ (B : Int) := by omega
  have b1 : (B : Int) < 32 := by omega
  have d0 : (0 : Int) ≤ (D : Int) := by omega
  have d1 : (D : Int) < 32 := by omega
  have HC := Lib.hid (fun W h1 h2 => cons_yes W t u (.pointer X) (.pointer Y) h1 h2 hl)
  have HN := Lib.hid hN; have HN2 := Lib.hid hN2; clear hN hN2 hl
  go_enter Try.func72, Try.ntmps72
  go_wp2
  go_quiet (fail)
  go_wp2_with fail
  go_region_held3 (fun w' => w'.cell? ⟨b, off + k * 5 + 2, none⟩ = some (.int .i64 B) ∧ w'.cell? ⟨b, off + k * 5 + 3, none⟩ = some (.int .i64 D) ∧ w'.cell? ⟨M, 3 + B, none⟩ = some (.pointer X) ∧ w'.cell? ⟨M, 3 + D, none⟩ = some (.pointer Y))
    (first | exact ⟨g1, g2, g3, g4⟩ | go_keep)
    (first | (go_simp; go_at_call 113; refine (HC.out _ (NodeW.keep HN.out (KeepT.drewN _ w _)) (NodeW.keep HN2.out (KeepT.drewN _ w _))).mono ?_; rintro e w2 ⟨v, rfl, hv, hb2⟩; have hbw := (bdrewN (Below.refl w.heap.size w) _).trans hb2; have g1 := cell_keep hbw i2; have g2 := cell_keep hbw i3; have g3 := cell_keep hbw hb; have g4 := cell_keep hbw hd))
  obtain ⟨V, rfl⟩ := hv.one
  have HV := Lib.hid hv
  have HB := Lib.hid hbw
  have M0 := Lib.hid (cell_keep HB.out m0); have M2 := Lib.hid (cell_keep HB.out m2); have I1 := Lib.hid (cell_keep HB.out i1); have O1 := Lib.hid (cell_keep HB.out ho)
  have F1 : Hid (w2.frozen? ⟨M, 3 + a, none⟩ = false) := Lib.hid ((HB.out.frozen (p := ⟨M, 3 + a, none⟩) (cell_lt ho)).trans f1)
  have F2 : Hid (w2.frozen? ⟨M, 2, none⟩ = false) := Lib.hid ((HB.out.frozen (p := ⟨M, 2, none⟩) (cell_lt m2)).trans f2)
  clear hv hb2 hbw g1 g2 g3 g4 m0 m2 i0 i1 i2 i3 ho f1 f2 hb hd HC HN HN2
  have m0 := M0.out; have m2 := M2.out; have i1 := I1.out; have ho := O1.out; have f1 := F1.out; have f2 := F2.out
  go_wp2_with fail
  refine wp_region_still_tail 9 (by kernel_rfl) (by kernel_rfl) ?_
  change wpStill _ _ w2.drew (fun a' => wpList _ _ _ _ a' w2.drew) _ _
  simp only [List.take_succ_cons, List.take_zero, List.drop_succ_cons, List.drop_zero]
  repeat still_step
  refine wpStill_nil ?_
  go_wp2
  go_ret
  exact ⟨rfl, _, _, HB.out.drew, NodeW.keep HV.out (KeepT.drewN _ w2 1), by rw [num_succ']; rfl⟩
set_option maxHeartbeats 3200000 in
set_option maxRecDepth 100000 in
theorem step_large (w : World) (M C b off n cap k a : Nat) (t u : Tr) (X Y : Option Addr) (old : Value) (hk : k < n) (_hn : n ≤ 4000) (_ha : a < 32)
    (m0 : w.cell? ⟨M, 0, none⟩ = some (.slice (some ⟨b, off, none⟩) n cap)) (_m1 : w.cell? ⟨M, 1, none⟩ = some (.slice (some ⟨C, 0, none⟩) n n)) (m2 : w.cell? ⟨M, 2, none⟩ = some (.int .i64 k))
    (i0 : w.cell? ⟨b, off + k * 5, none⟩ = some (.int .i64 2)) (_i1 : w.cell? ⟨b, off + k * 5 + 1, none⟩ = some (.int .i64 a))
    (_ho : w.cell? ⟨M, 3 + a, none⟩ = some old) (_f1 : w.frozen? ⟨M, 3 + a, none⟩ = false) (_f2 : w.frozen? ⟨M, 2, none⟩ = false)
    (B D : Nat) (hB : B < 32) (hD : D < 32) (i2 : w.cell? ⟨b, off + k * 5 + 2, none⟩ = some (.int .i64 B)) (i3 : w.cell? ⟨b, off + k * 5 + 3, none⟩ = some (.int .i64 D)) (hb : w.cell? ⟨M, 3 + B, none⟩ = some (.pointer X)) (hd : w.cell? ⟨M, 3 + D, none⟩ = some (.pointer Y)) (hN : NodeW 151 w t (.pointer X)) (hN2 : NodeW 151 w u (.pointer Y)) (lt : (tx t).length ≤ 2000000) (lu : (tx u).length ≤ 2000000) (hl : ¬ (tx (.pair t u)).length ≤ 2000000) :
    Calls Try.prog 72 #[.pointer (some ⟨M, 0, none⟩)] w fun e w' => e = .returned (.bool false) ∧ ∃ q, w' = w.drewN q := by
  have k0 : (0 : Int) ≤ (k : Int) := by omega
  have k1 : (k : Int) < (n : Int) := by omega
  have a0 : (0 : Int) ≤ (a : Int) := by omega
  have a1 : (a : Int) < 32 := by omega
  have b0 : (0 : Int) ≤ (B : Int) := by omega
  have b1 : (B : Int) < 32 := by omega
  have d0 : (0 : Int) ≤ (D : Int) := by omega
  have d1 : (D : Int) < 32 := by omega
  have HC := Lib.hid (fun W h1 h2 => cons_no W t u (.pointer X) (.pointer Y) h1 h2 lt lu hl)
  have HN := Lib.hid hN; have HN2 := Lib.hid hN2; clear hN hN2 hl lt lu
  go_enter Try.func72, Try.ntmps72
  go_wp2
  go_quiet (fail)
  go_wp2_with fail
  go_quiet ((go_at_call 113; exact quiet_add_left (HC.out _ (NodeW.keep HN.out (KeepT.drewN _ w _)) (NodeW.keep HN2.out (KeepT.drewN _ w _)))))
  go_wp2
  go_ret
  exact ⟨rfl, _, rfl⟩
set_option maxHeartbeats 3200000 in
set_option maxRecDepth 100000 in
theorem step_stay (w : World) (M C b off n cap k a : Nat) (_X : Option Addr) (old : Value) (hk : k < n) (hn : n ≤ 4000) (ha : a < 32)
    (m0 : w.cell? ⟨M, 0, none⟩ = some (.slice (some ⟨b, off, none⟩) n cap)) (_m1 : w.cell? ⟨M, 1, none⟩ = some (.slice (some ⟨C, 0, none⟩) n n)) (m2 : w.cell? ⟨M, 2, none⟩ = some (.int .i64 k))
    (i0 : w.cell? ⟨b, off + k * 5, none⟩ = some (.int .i64 5)) (i1 : w.cell? ⟨b, off + k * 5 + 1, none⟩ = some (.int .i64 a))
    (_ho : w.cell? ⟨M, 3 + a, none⟩ = some old) (_f1 : w.frozen? ⟨M, 3 + a, none⟩ = false) (f2 : w.frozen? ⟨M, 2, none⟩ = false)
    (hx : w.cell? ⟨M, 3 + a, none⟩ = some (.pointer none)) :
    Calls Try.prog 72 #[.pointer (some ⟨M, 0, none⟩)] w (StepGo w M (k + 1)) := by
  have k0 : (0 : Int) ≤ (k : Int) := by omega
  have k1 : (k : Int) < (n : Int) := by omega
  have a0 : (0 : Int) ≤ (a : Int) := by omega
  have a1 : (a : Int) < 32 := by omega
  clear _ho
  go_enter Try.func72, Try.ntmps72
  go_wp2
  go_quiet (fail)
  go_wp2_with fail
  go_quiet (fail)
  go_wp2
  go_ret
  exact ⟨rfl, _, rfl⟩
set_option maxHeartbeats 3200000 in
set_option maxRecDepth 100000 in
theorem step_jump (w : World) (M C b off n cap k a : Nat) (X : Addr) (old : Value) (hk : k < n) (hn : n ≤ 4000) (ha : a < 32)
    (m0 : w.cell? ⟨M, 0, none⟩ = some (.slice (some ⟨b, off, none⟩) n cap)) (_m1 : w.cell? ⟨M, 1, none⟩ = some (.slice (some ⟨C, 0, none⟩) n n)) (m2 : w.cell? ⟨M, 2, none⟩ = some (.int .i64 k))
    (i0 : w.cell? ⟨b, off + k * 5, none⟩ = some (.int .i64 5)) (i1 : w.cell? ⟨b, off + k * 5 + 1, none⟩ = some (.int .i64 a))
    (_ho : w.cell? ⟨M, 3 + a, none⟩ = some old) (_f1 : w.frozen? ⟨M, 3 + a, none⟩ = false) (f2 : w.frozen? ⟨M, 2, none⟩ = false)
    (d : Int) (i2 : w.cell? ⟨b, off + k * 5 + 2, none⟩ = some (.int .i64 d)) (d0 : -(k : Int) ≤ d) (d1 : d ≤ n - k) (hx : w.cell? ⟨M, 3 + a, none⟩ = some (.pointer (some X))) :
    Calls Try.prog 72 #[.pointer (some ⟨M, 0, none⟩)] w (StepGo w M (k + d)) := by
  have k0 : (0 : Int) ≤ (k : Int) := by omega
  have k1 : (k : Int) < (n : Int) := by omega
  have a0 : (0 : Int) ≤ (a : Int) := by omega
  have a1 : (a : Int) < 32 := by omega
  clear _ho
  go_enter Try.func72, Try.ntmps72
  go_wp2
  go_quiet (fail)
  go_wp2_with fail
  go_quiet (fail)
  go_wp2
  go_ret
  exact ⟨rfl, _, rfl⟩
theorem ended_any (w : World) (M n cap k : Nat) (A : Option Addr) (hn : n ≤ 4000) (hk : k ≤ n) (m0 : w.cell? ⟨M, 0, none⟩ = some (.slice A n cap)) (m2 : w.cell? ⟨M, 2, none⟩ = some (.int .i64 k)) :
    Calls Try.prog 84 #[.pointer (some ⟨M, 0, none⟩)] w fun e w' => e = .returned (.bool (k == n)) ∧ ∃ q, w' = w.drewN q := by
  rcases Nat.lt_or_ge k n with h | h
  · have e1 : (k == n) = false := by simp; omega
    have e2 : ((k : Int) == (n : Int)) = false := by simp; omega
    rw [e1]
    go_enter Try.func84, Try.ntmps84
    go_wp2
    go_quiet (fail)
    go_wp2
    go_ret
    exact ⟨rfl, _, rfl⟩
  · obtain rfl : k = n := by omega
    rw [show (k == k) = true from by simp]
    go_enter Try.func84, Try.ntmps84
    go_wp2
    go_quiet (fail)
    go_wp2
    go_ret
    exact ⟨rfl, _, rfl⟩
end Go.Proofs.Ytpiahjbpidcjpaa
