/- slices.Backward over strings, and nest: a range over a function whose body calls Cons. By an AI agent. -/
import Derived.RangeFuncNested
import Derived.RangeFuncBound
import Derived.RangeFuncCalls
import Derived.RangeFuncLeaves
import Derived.Shelf.Abstract
import Derived.Shelf.RegionOpen
import Derived.WalkKit
import Derived.OwnWalkIn
import Derived.TacticsInMore
import Derived.LoopNIn
import Derived.LoopIn
import Derived.Test.YtmhoacnbmbhcjaaGreatDoorOpr
import Derived.Test.YtmhoacnbmbhcjaaGreatDoorShelfC
namespace Go.Proofs.YtmhoacnbmbhcjaaGreatDoor
open Go.RowKit Go.Shelf Pl

attribute [local go_sem] Oper.semAt_some

/-- what lay below n₀, and block Bs, are as they were -/
def Kq (n₀ Bs : Nat) (W W' : World) : Prop := Below n₀ W W' ∧ W'.heap[Bs]? = W.heap[Bs]?
theorem Kq.refl (n₀ Bs : Nat) (W : World) : Kq n₀ Bs W W := ⟨Below.refl _ _, rfl⟩
theorem Kq.trans {n₀ Bs : Nat} {A B C : World} (h : Kq n₀ Bs A B) (k : Kq n₀ Bs B C) : Kq n₀ Bs A C := ⟨h.1.trans k.1, k.2.trans h.2⟩
theorem Kq.below {n₀ Bs : Nat} {A B : World} (h : Below A.heap.size A B) (hn : n₀ ≤ A.heap.size) (hb : Bs < A.heap.size) : Kq n₀ Bs A B := ⟨h.mono hn, h.block Bs hb⟩
theorem Kq.cell {n₀ Bs : Nat} {A B : World} (h : Kq n₀ Bs A B) (o : Nat) : B.cell? ⟨Bs, o, none⟩ = A.cell? ⟨Bs, o, none⟩ := by simp only [World.cell?, h.2]
theorem Kq.putObj {n₀ Bs : Nat} {w : World} (hn : n₀ ≤ w.heap.size) (hb : Bs < w.heap.size) (W : World) (l : Nat) (ob o' : Obj) (hl : w.heap.size ≤ l) (h : W.heap[l]? = some ob) (h1 : ob.isCells = false) (h2 : ob.isWalk = false) : Kq n₀ Bs W (W.putObj l o') :=
  ⟨belowK_b hn W l ob o' hl h h1 h2, World.putObj_heap_other (by omega)⟩
theorem Kq.set {n₀ Bs : Nat} {W : World} {b o : Nat} {v : Value} (h1 : n₀ ≤ b) (h2 : b ≠ Bs) : Kq n₀ Bs W (W.setCell ⟨b, o, none⟩ v) :=
  ⟨(Below.refl _ _).setCell (p := ⟨b, o, none⟩) h1 _, by simp [World.setCell, Array.getElem?_modify, h2]⟩
theorem keepsOthers_below {W W' : World} (h : Below W.heap.size W W') : KeepsOthers W W' := ⟨h.size, fun k _ hk _ => (h.block k (Array.getElem?_eq_some_iff.1 hk).1).trans hk⟩
def bwE (xs : List (List UInt8)) (k : Nat) : Array Value := #[.int .i64 ((xs.length : Int) - 1 - k), .string (S (xs[xs.length - 1 - k]?.getD [48]))]

set_option maxRecDepth 100000 in
set_option maxHeartbeats 2000000 in
theorem backward1_in (F : Fence) (n : Nat) (h7 : F.fn 157) (hro : F.round = none) (hn : 1 ≤ n) (l Bs n₀ b cap : Nat) (xs : List (List UInt8)) (hlen : xs.length ≤ 1000) (hb : b < n₀) (J Jx : List Nat → World → Prop)
    (hY : ∀ pre x W, J pre W → pre.length < xs.length → YieldAt F (n - 1) Tryz.prog l (bwE xs x) W fun e W' =>
      (e = .returned (.bool true) ∧ J (pre ++ [x]) W' ∧ Kq n₀ Bs W W') ∨ (e = .returned (.bool false) ∧ Jx (pre ++ [x]) W'))
    (W : World) (hBs : W.cell? ⟨Bs, 0, none⟩ = some (.slice (some ⟨b, 0, none⟩) xs.length cap)) (hc : ∀ j, j < xs.length → W.cell? ⟨b, j, none⟩ = some (.string (S (xs[j]?.getD [48])))) (h0 : J [] W) :
    CallsIn F n Tryz.prog 157 #[.func (.yield l) #[] #[], .pointer (some ⟨Bs, 0, none⟩)] W fun e W' => (∃ v, e = .returned v) ∧
      ((∃ ys, ys = List.range xs.length ∧ J ys W') ∨ (∃ pre, (∃ k, k ≤ xs.length ∧ pre = List.range k) ∧ Jx pre W')) := by
  generalize hN : xs.length = N at *
  have HN := Lib.hid hN; clear hN
  have HC := Lib.hid hc; have HB := Lib.hid hBs; clear hc
  refine callsIn_of_wp Tryz.func157 rfl h7 ?_ hro
  simp only [Tryz.ntmps157, List.size_toArray, List.length_cons, List.length_nil, Nat.reduceAdd, Nat.reduceSub, Array.replicate_succ, Array.replicate_zero, List.push_toArray, List.append_toArray, List.nil_append, List.cons_append]
  gi_wp2
  clear hBs
  gi_loopw [3] (fun i wr => ∃ k : Nat, k ≤ N ∧ i = .int .i64 ((N : Int) - 1 - k) ∧ J (List.range k) wr ∧ Kq n₀ Bs W wr)
    (fun i _ => (intOf i + 1).toNat)
  case atStart => exact ⟨0, Nat.zero_le _, by simp, h0, Kq.refl _ _ _⟩
  case round =>
    obtain ⟨k, hk, rfl, hJs, hnx⟩ := hrel
    have hBw : wr.cell? ⟨Bs, 0, none⟩ = some (.slice (some ⟨b, 0, none⟩) N cap) := (hnx.cell 0).trans HB.out
    by_cases hlt : k < N
    · obtain ⟨m, hm⟩ : ∃ m, N = m + 1 + k := ⟨N - 1 - k, by omega⟩
      have e1 : (N : Int) - 1 - k = m := by omega
      have hcx := (hnx.1.cell (p := ⟨b, m, none⟩) hb).trans (HC.out m (by omega))
      obtain ⟨fn, tmps, assign, body, hy, hR⟩ := hY (List.range k) k wr hJs (by simpa using hlt)
      have e2 : xs.length - 1 - k = m := by have := HN.out; omega
      have e3 : (xs.length : Int) - 1 - k = m := by have := HN.out; omega
      unfold bwE at hy
      rw [e2, e3] at hy
      rw [e1]
      have hmN : m < N := by omega
      have HM := Lib.hid hm
      have E1 := Lib.hid e1
      clear e1 e2 e3 hm
      gi_wp2
      refine hR.mono ?_
      rintro e W3 (⟨rfl, hJ3, hk3⟩ | ⟨rfl, hJx3⟩)
      · gi_wp2
        go_roundw
        case rel => exact ⟨k + 1, by omega, by have := E1.out; congr 1; push_cast; omega, by rw [List.range_succ]; exact hJ3, hnx.trans hk3⟩
        case measure => simp [intOf]
      · gi_wp2
        refine bodyPost_ret (results_none rfl _ _ _) rfl ?_
        exact ⟨⟨_, rfl⟩, .inr ⟨_, ⟨k + 1, by omega, List.range_succ.symm⟩, hJx3⟩⟩
    · obtain rfl : k = N := by omega
      have e1 : (k : Int) - 1 - k = -1 := by omega
      rw [e1]
      clear e1
      gi_wp2
      go_end0
      exact ⟨⟨_, rfl⟩, .inl ⟨_, rfl, hJs⟩⟩

theorem backward_stops (F : Fence) (n : Nat) (h7 : F.fn 157) (hro : F.round = none) (hn : 1 ≤ n) (Bs n₀ b cap : Nat) (xs : List (List UInt8)) (hlen : xs.length ≤ 1000) (hb : b < n₀) (w : World) (hBsn : Bs < w.heap.size) (hn₀ : n₀ ≤ w.heap.size)
    (hBs : w.cell? ⟨Bs, 0, none⟩ = some (.slice (some ⟨b, 0, none⟩) xs.length cap)) (hc : ∀ j, j < xs.length → w.cell? ⟨b, j, none⟩ = some (.string (S (xs[j]?.getD [48])))) :
    SeqStopsK F n Tryz.prog 157 #[.pointer (some ⟨Bs, 0, none⟩)] (bwE xs) (Kq n₀ Bs) (fun ys => ys = List.range xs.length) (fun pre => ∃ k, k ≤ xs.length ∧ pre = List.range k) xs.length w := fun l J Jx W hW _ _ hY h0 =>
  backward1_in F n h7 hro hn l Bs n₀ b cap xs hlen hb J Jx hY W ((hW.cell (p := ⟨Bs, 0, none⟩) hBsn).trans hBs) (fun j hj => (hW.cell (p := ⟨b, j, none⟩) (by show b < _; omega)).trans (hc j hj)) h0
theorem backward_in (F : Fence) (n : Nat) (h5 : F.fn 107) (hro : F.round = none) (a : Option Addr) (len cap : Nat) (w : World) :
    CallsIn F n Tryz.prog 107 #[.slice a len cap] w fun e w' => e = .returned (.func (.func 157) #[] #[.pointer (some ⟨w.heap.size, 0, none⟩)]) ∧ w' = w.alloc (.cells #[.slice a len cap] 100) := by
  refine callsIn_of_wp Tryz.func107 rfl h5 ?_ hro
  simp only [Tryz.ntmps107, List.size_toArray, List.length_cons, List.length_nil, Nat.reduceAdd, Nat.reduceSub, Array.replicate_succ, Array.replicate_zero, List.push_toArray, List.append_toArray, List.nil_append, List.cons_append]
  gi_wp2
  go_ret
  exact ⟨rfl, rfl⟩

/-- the pair of the first tree and the pair of the second one and so on, up to the last one -/
def nestL : List (List UInt8) → List UInt8 → List UInt8
  | [], z => z
  | x :: xs, z => pr x (nestL xs z)
/-- what has been made when so many rounds are over -/
def fld (xs : List (List UInt8)) (z : List UInt8) (pre : List Nat) : List UInt8 := pre.foldl (fun s k => pr (xs[xs.length - 1 - k]?.getD [48]) s) z
theorem fld_snoc (xs : List (List UInt8)) (z : List UInt8) (pre : List Nat) (k : Nat) : fld xs z (pre ++ [k]) = pr (xs[xs.length - 1 - k]?.getD [48]) (fld xs z pre) := by simp [fld]
theorem fld_range (xs : List (List UInt8)) (z : List UInt8) : ∀ k, k ≤ xs.length → fld xs z (List.range k) = nestL (xs.drop (xs.length - k)) z := by
  intro k
  induction k with
  | zero => intro _; simp [fld, nestL]
  | succ k ih =>
    intro hk
    rw [List.range_succ, fld_snoc, ih (by omega)]
    have h1 : xs.length - (k + 1) < xs.length := by omega
    rw [List.drop_eq_getElem_cons h1, nestL, show xs.length - 1 - k = xs.length - (k + 1) by omega, List.getElem?_eq_getElem h1, show xs.length - (k + 1) + 1 = xs.length - k by omega]
    rfl
theorem fld_all (xs : List (List UInt8)) (z : List UInt8) : fld xs z (List.range xs.length) = nestL xs z := by rw [fld_range xs z _ (Nat.le_refl _)]; simp
theorem nestL_drop_le (xs : List (List UInt8)) (z : List UInt8) (k : Nat) : (nestL (xs.drop k) z).length ≤ (nestL xs z).length := by
  induction xs generalizing k with
  | nil => simp
  | cons x xs ih =>
    cases k with
    | zero => simp
    | succ k => have := ih k; simp only [List.drop_succ_cons, nestL, pr_len]; omega
theorem Cons_two (a b : List UInt8) (w : World) (ha : vld a = true) (hb : vld b = true) :
    Calls Tryz.prog 201 #[.string (S a), .string (S b)] w fun e w' => (((pr a b).length ≤ 2000000 ∧ e = .returned (.tuple #[.string (S (pr a b)), .int .i64 0])) ∨ (2000000 < (pr a b).length ∧ e = .returned (.tuple #[.string (S []), .int .i64 3]))) ∧ Below w.heap.size w w' := by
  by_cases h : (pr a b).length ≤ 2000000
  · exact (Cons_yes (S a) (S b) w ha hb (by rw [S_size, S_size]; rw [pr_len] at h; omega)).mono fun e w' h1 => ⟨.inl ⟨h, h1.1⟩, h1.2⟩
  · exact (Cons_size (S a) (S b) w ha hb (by rw [S_size, S_size]; rw [pr_len] at h; omega)).mono fun e w' h1 => ⟨.inr ⟨by omega, h1.1⟩, h1.2⟩

theorem set_cell {W : World} {a b : Nat} {u v : Value} (h : a ≠ b) (hc : W.cell? ⟨b, 0, none⟩ = some u) : (W.setCell ⟨a, 0, none⟩ v).cell? ⟨b, 0, none⟩ = some u := by
  exact (World.cell?_setCell_other (w := W) (a := ⟨a, 0, none⟩) (b := ⟨b, 0, none⟩) (v := v) (by intro e; cases e; exact h rfl)).trans hc
theorem Cons_ok (a b : List UInt8) (w : World) (ha : vld a = true) (hb : vld b = true) (h : (pr a b).length ≤ 2000000) :
    Calls Tryz.prog 201 #[.string (S a), .string (S b)] w fun e w' => e = .returned (.tuple #[.string (S (pr a b)), .int .i64 0]) ∧ Below w.heap.size w w' :=
  Cons_yes (S a) (S b) w ha hb (by rw [S_size, S_size]; rw [pr_len] at h; omega)
theorem Cons_big (a b : List UInt8) (w : World) (ha : vld a = true) (hb : vld b = true) (h : 2000000 < (pr a b).length) :
    Calls Tryz.prog 201 #[.string (S a), .string (S b)] w fun e w' => e = .returned (.tuple #[.string (S []), .int .i64 3]) ∧ Below w.heap.size w w' :=
  Cons_size (S a) (S b) w ha hb (by rw [S_size, S_size]; rw [pr_len] at h; omega)

def NestI (w : World) (xs : List (List UInt8)) (z : List UInt8) (pre : List Nat) (W : World) : Prop :=
  (w.heap.size + 1 + 1 + 1 < W.heap.size ∧ vld (fld xs z pre) = true ∧ W.cell? ⟨w.heap.size, 0, none⟩ = some (.string ⟨#[]⟩) ∧ W.frozen? ⟨w.heap.size, 0, none⟩ = false ∧ W.cell? ⟨w.heap.size + 1, 0, none⟩ = some (.int .i64 0) ∧ W.frozen? ⟨w.heap.size + 1, 0, none⟩ = false ∧
    W.cell? ⟨w.heap.size + 1 + 1, 0, none⟩ = some (.string (S (fld xs z pre))) ∧ W.frozen? ⟨w.heap.size + 1 + 1, 0, none⟩ = false) ∧ Below w.heap.size w W
def NestX (w : World) (xs : List (List UInt8)) (z : List UInt8) (c : Code) (pre : List Nat) (W : World) : Prop :=
  (c = .ret ∧ 2000000 < (fld xs z pre).length ∧ W.cell? ⟨w.heap.size, 0, none⟩ = some (.string ⟨#[]⟩) ∧ W.cell? ⟨w.heap.size + 1, 0, none⟩ = some (.int .i64 3)) ∧ Below w.heap.size w W

set_option maxRecDepth 100000 in
set_option maxHeartbeats 4000000 in
theorem nest_any (b cap : Nat) (xs : List (List UInt8)) (z : List UInt8) (hlen : xs.length ≤ 999) (hv : ∀ x ∈ xs, vld x = true) (hz : vld z = true) (w : World) (hbw : b < w.heap.size) (hcap : xs.length + 1 ≤ cap)
    (hc : ∀ j, j < xs.length → w.cell? ⟨b, j, none⟩ = some (.string (S (xs[j]?.getD [48])))) (hcz : w.cell? ⟨b, xs.length, none⟩ = some (.string (S z))) :
    Calls Tryz.prog 150 #[.slice (some ⟨b, 0, none⟩) (xs.length + 1) cap] w fun e W' =>
      (((nestL xs z).length ≤ 2000000 ∧ e = .returned (.tuple #[.string (S (nestL xs z)), .int .i64 0])) ∨ (2000000 < (nestL xs z).length ∧ e = .returned (.tuple #[.string (S []), .int .i64 3]))) ∧ Below w.heap.size w W' := by
  refine (callsIn_wide (n := 5)).1 ?_
  have HC := Lib.hid hc; clear hc
  have HV := Lib.hid hv; clear hv
  generalize hN : xs.length = N at *
  have HN := Lib.hid hN; clear hN
  refine callsIn_of_wp_marks Tryz.func150 rfl trivial ?_ rfl
  simp only [Tryz.ntmps150, List.size_toArray, List.length_cons, List.length_nil, Nat.reduceAdd, Nat.reduceSub, Array.replicate_succ, Array.replicate_zero, List.push_toArray, List.append_toArray, List.nil_append, List.cons_append]
  gi_wp2_with (refine ⟨trivial, ?_⟩; gi_at_call 107; refine (backward_in Fence.wide 4 trivial rfl _ _ _ _).mono ?_; rintro e w' ⟨rfl, rfl⟩)
  have b0 := ((Boxed.new w 9 (.string ⟨#[]⟩)).alloc (.cells #[.int .i64 0] 27)).alloc (.cells #[.string (S z)] 9)
  have b1 := (Boxed.new (w.alloc (.cells #[.string ⟨#[]⟩] 9)) 27 (.int .i64 0)).alloc (.cells #[.string (S z)] 9)
  have b2 := Boxed.new ((w.alloc (.cells #[.string ⟨#[]⟩] 9)).alloc (.cells #[.int .i64 0] 27)) 9 (.string (S z))
  have hB0 : Below w.heap.size w (((w.alloc (.cells #[.string ⟨#[]⟩] 9)).alloc (.cells #[.int .i64 0] 27)).alloc (.cells #[.string (S z)] 9)) := (((Below.refl _ w).alloc (Nat.le_refl _) _).alloc (by simp) _).alloc (by simp; omega) _
  have hsz : (((w.alloc (.cells #[.string ⟨#[]⟩] 9)).alloc (.cells #[.int .i64 0] 27)).alloc (.cells #[.string (S z)] 9)).heap.size = w.heap.size + 1 + 1 + 1 := by simp
  simp only [World.size_alloc] at b1 b2
  generalize (((w.alloc (.cells #[.string ⟨#[]⟩] 9)).alloc (.cells #[.int .i64 0] 27)).alloc (.cells #[.string (S z)] 9)) = w3 at *
  have bN := Boxed.new w3 100 (.slice (some ⟨b, 0, none⟩) N cap)
  have HB0 := Lib.hid hB0; have HSZ := Lib.hid hsz
  clear hB0 hsz
  have hbw3 : b < w3.heap.size := by have := HSZ.out; omega
  have hB1 : Below w.heap.size w (w3.alloc (.cells #[.slice (some ⟨b, 0, none⟩) N cap] 100)) := HB0.out.alloc (by have := HSZ.out; omega) _
  have c0 := b0.alloc (.cells #[.slice (some ⟨b, 0, none⟩) N cap] 100)
  have c1 := b1.alloc (.cells #[.slice (some ⟨b, 0, none⟩) N cap] 100)
  have c2 := b2.alloc (.cells #[.slice (some ⟨b, 0, none⟩) N cap] 100)
  refine wpIn_rangeFunc_ownF (n := 5) rfl (by decide) (gf := 157) (lb := #[.pointer (some ⟨w.heap.size + 1 + 1 + 1, 0, none⟩)]) rfl trivial (enters_of Tryz.func157 (by kernel_rfl) rfl)
    (backward_stops Fence.wide 4 trivial rfl (by decide) (w.heap.size + 1 + 1 + 1) w.heap.size b cap xs (by have := HN.out; omega) hbw _ (by simp; have := HSZ.out; omega) (by simp; have := HSZ.out; omega) (by rw [HN.out, ← HSZ.out]; exact bN.cell) (fun j hj => by rw [hB1.cell (p := ⟨b, j, none⟩) hbw]; exact HC.out j (by have := HN.out; omega)))
    (fun h k => h.trans k) (Kq.putObj (w := w3.alloc (.cells #[.slice (some ⟨b, 0, none⟩) N cap] 100)) (by simp; have := HSZ.out; omega) (by simp; have := HSZ.out; omega)) (Below.refl _ _) (fun _ => by rfl)
    (NestI w xs z) (NestX w xs z)
    (OwnFrom.and (Own.from (fun s A B row hs hg hr => ⟨Nat.lt_of_lt_of_le hs.1 hg.size, hs.2.1, cell_kept hs.2.2.1 hg hr, (frozen_kept hs.2.2.1 hg hr).trans hs.2.2.2.1, cell_kept hs.2.2.2.2.1 hg hr, (frozen_kept hs.2.2.2.2.1 hg hr).trans hs.2.2.2.2.2.1, cell_kept hs.2.2.2.2.2.2.1 hg hr, (frozen_kept hs.2.2.2.2.2.2.1 hg hr).trans hs.2.2.2.2.2.2.2⟩) _) (ownFrom_below (Nat.le_refl _) (by simp; have := HSZ.out; omega)))
    (fun c => OwnFrom.and (Own.from (fun s A B row hs hg hr => ⟨hs.1, hs.2.1, cell_kept hs.2.2.1 hg hr, cell_kept hs.2.2.2 hg hr⟩) _) (ownFrom_below (Nat.le_refl _) (by simp; have := HSZ.out; omega)))
    ⟨⟨by simp; have := HSZ.out; omega, hz, c0.cell, c0.frozen, c1.cell, c1.frozen, c2.cell, c2.frozen⟩, hB1⟩
    (fun k => { tmps := #[.slice (some ⟨b, 0, none⟩) (N + 1) cap, undef, .pointer (some ⟨w.heap.size, 0, none⟩), .pointer (some ⟨w.heap.size + 1, 0, none⟩), .int .i64 N, .pointer (some ⟨w.heap.size + 1 + 1, 0, none⟩), undef, .string (S (xs[xs.length - 1 - k]?.getD [48])), undef, undef, .slice (some ⟨b, 0, none⟩) (N + 1) cap, .int .i64 (N + 1), .int .i64 N, .slice (some ⟨b, 0, none⟩) (N + 1) cap, .int .i64 N, .pointer (some ⟨b, N, none⟩), .string (S z), .slice (some ⟨b, 0, none⟩) (N + 1) cap, .int .i64 N, .slice (some ⟨b, 0, none⟩) N cap, .func (.func 157) #[] #[.pointer (some ⟨w.heap.size + 1 + 1 + 1, 0, none⟩)], .int .i64 ((xs.length : Int) - 1 - k), .string (S (xs[xs.length - 1 - k]?.getD [48])), undef, undef, undef, undef, undef, undef, undef, undef, undef, undef, undef], defers := [] }) ?assign ?body ?done ?stop
  case assign =>
    intro l x W K hK
    simp only [bwE]
    gi_wp2
    exact hK
  case body =>
    rintro l pre x W ⟨⟨hWz, hv, g0, f0, g1, f1, g2, f2⟩, hB⟩ _
    have hx : vld (xs[xs.length - 1 - x]?.getD [48]) = true := by
      rcases Nat.lt_or_ge (xs.length - 1 - x) xs.length with h | h
      · rw [List.getElem?_eq_getElem h]; exact HV.out _ (List.getElem_mem h)
      · rw [List.getElem?_eq_none h]; decide
    by_cases hs : (pr (xs[xs.length - 1 - x]?.getD [48]) (fld xs z pre)).length ≤ 2000000
    · have H := Lib.hid (fun W => Cons_ok _ _ W hx hv hs)
      have HP := Lib.hid (vld_pr hx hv hs)
      clear hx hs
      gi_wp2_with fail
      refine ⟨trivial, ?_⟩
      refine (CallsIn.inRound l (callsIn_wide.2 (H.out _))).mono ?_
      rintro e w4 ⟨rfl, h4⟩
      have k0 := (h4.cell (p := ⟨w.heap.size, 0, none⟩) (by show w.heap.size < _; omega)).trans g0
      have j0 := (h4.frozen (p := ⟨w.heap.size, 0, none⟩) (by show w.heap.size < _; omega)).trans f0
      have k1 := (h4.cell (p := ⟨w.heap.size + 1, 0, none⟩) (by show w.heap.size + 1 < _; omega)).trans g1
      have j1 := (h4.frozen (p := ⟨w.heap.size + 1, 0, none⟩) (by show w.heap.size + 1 < _; omega)).trans f1
      have k2 := (h4.cell (p := ⟨w.heap.size + 1 + 1, 0, none⟩) (by show w.heap.size + 1 + 1 < _; omega)).trans g2
      have j2 := (h4.frozen (p := ⟨w.heap.size + 1 + 1, 0, none⟩) (by show w.heap.size + 1 + 1 < _; omega)).trans f2
      gi_wp2
      refine ⟨(keepsOthers_below h4).trans (KeepsOthers.setCell _ _ _), (Kq.below h4 (by omega) (by omega)).trans (Kq.set (by omega) (by omega)), ⟨by have := h4.size; simp; omega, by rw [fld_snoc]; exact HP.out, ?_, ?_, ?_, ?_, ?_, ?_⟩, (hB.trans (h4.mono (by omega))).setCell (by simp; omega) _⟩
      · exact set_cell (by omega) k0
      · rw [World.frozen?_setCell]; exact j0
      · exact set_cell (by omega) k1
      · rw [World.frozen?_setCell]; exact j1
      · rw [fld_snoc]; exact World.cell?_setCell_same' _ _ _ (by rw [k2]; rfl)
      · rw [World.frozen?_setCell]; exact j2
    · have H := Lib.hid (fun W => Cons_big _ _ W hx hv (by omega))
      clear hx
      have HS := Lib.hid hs; clear hs
      gi_wp2_with fail
      refine ⟨trivial, ?_⟩
      refine (CallsIn.inRound l (callsIn_wide.2 (H.out _))).mono ?_
      rintro e w4 ⟨rfl, h4⟩
      have k0 := (h4.cell (p := ⟨w.heap.size, 0, none⟩) (by show w.heap.size < _; omega)).trans g0
      have j0 := (h4.frozen (p := ⟨w.heap.size, 0, none⟩) (by show w.heap.size < _; omega)).trans f0
      have k1 := (h4.cell (p := ⟨w.heap.size + 1, 0, none⟩) (by show w.heap.size + 1 < _; omega)).trans g1
      have j1 := (h4.frozen (p := ⟨w.heap.size + 1, 0, none⟩) (by show w.heap.size + 1 < _; omega)).trans f1
      have k2 := (h4.cell (p := ⟨w.heap.size + 1 + 1, 0, none⟩) (by show w.heap.size + 1 + 1 < _; omega)).trans g2
      have j2 := (h4.frozen (p := ⟨w.heap.size + 1 + 1, 0, none⟩) (by show w.heap.size + 1 + 1 < _; omega)).trans f2
      gi_wp2
      refine ⟨((keepsOthers_below h4).trans (KeepsOthers.setCell _ _ _)).trans (KeepsOthers.setCell _ _ _), ⟨rfl, by rw [fld_snoc]; have := HS.out; omega, set_cell (by omega) (World.cell?_setCell_same' _ _ _ (by rw [k0]; rfl)), World.cell?_setCell_same' _ _ _ (by rw [set_cell (by omega) k1]; rfl)⟩, ((hB.trans (h4.mono (by omega))).setCell (by simp) _).setCell (by simp) _⟩
  case done =>
    rintro D ys W hD rfl ⟨⟨hWz, hv, g0, f0, g1, f1, g2, f2⟩, hB⟩ hK
    gi_wp2
    have hK1 := ((KeepsOthers.setCell W ⟨w.heap.size, 0, none⟩ (.string (S (fld xs z (List.range xs.length))))).trans (KeepsOthers.setCell _ ⟨w.heap.size + 1, 0, none⟩ (.int .i64 0))).same D _ hK rfl
    refine ⟨by simp, .inl ⟨_, _, rfl, run_takeDeferred hK1, ?_⟩⟩
    have q1 := World.cell?_setCell_same' (W.setCell ⟨w.heap.size, 0, none⟩ (.string (S (fld xs z (List.range xs.length))))) ⟨w.heap.size + 1, 0, none⟩ (.int .i64 0) (by rw [set_cell (by omega) g1]; rfl)
    have q0 : ((W.setCell ⟨w.heap.size, 0, none⟩ (.string (S (fld xs z (List.range xs.length))))).setCell ⟨w.heap.size + 1, 0, none⟩ (.int .i64 0)).cell? ⟨w.heap.size, 0, none⟩ = some (.string (S (fld xs z (List.range xs.length)))) := set_cell (by omega) (World.cell?_setCell_same' _ _ _ (by rw [g0]; rfl))
    have p0 := cell_kept q0 (grownBy_putObj' _ D (.deferred none)) (fun r e => by cases e; exact ⟨_, hK1, rfl⟩)
    have p1 := cell_kept q1 (grownBy_putObj' _ D (.deferred none)) (fun r e => by cases e; exact ⟨_, hK1, rfl⟩)
    refine ⟨.tuple #[.string (S (fld xs z (List.range xs.length))), .int .i64 0], by simp [results, Tryz.f150, go_sem, p0, p1], ?_, ?_⟩
    · rw [← fld_all]
      exact .inl ⟨(vld_iff.1 hv).1, rfl⟩
    · exact ((hB.setCell (p := ⟨w.heap.size, 0, none⟩) (Nat.le_refl _) _).setCell (p := ⟨w.heap.size + 1, 0, none⟩) (by show w.heap.size ≤ w.heap.size + 1; omega) _).trans (belowK_b (w := w) (Nat.le_refl _) _ D _ _ (by simp at hD; have := HSZ.out; omega) hK1 rfl rfl)
  case stop =>
    rintro D c pre W hD ⟨k, hk, rfl⟩ ⟨⟨rfl, hs, g0, g1⟩, hB⟩ hK
    gi_wp2
    refine ⟨by simp, .inl ⟨_, _, rfl, run_takeDeferred hK, ?_⟩⟩
    have p0 := cell_kept g0 (grownBy_putObj' _ D (.deferred none)) (fun r e => by cases e; exact ⟨_, hK, rfl⟩)
    have p1 := cell_kept g1 (grownBy_putObj' _ D (.deferred none)) (fun r e => by cases e; exact ⟨_, hK, rfl⟩)
    refine ⟨.tuple #[.string (S []), .int .i64 3], by simp [results, Tryz.f150, go_sem, p0, p1], .inr ⟨?_, rfl⟩, hB.trans (belowK_b (w := w) (Nat.le_refl _) W D _ _ (by simp at hD; have := HSZ.out; omega) hK rfl rfl)⟩
    rw [fld_range xs z k hk] at hs
    exact Nat.lt_of_lt_of_le hs (nestL_drop_le xs z _)
end Go.Proofs.YtmhoacnbmbhcjaaGreatDoor

namespace Go.Proofs.YtmhoacnbmbhcjaaGreatDoor
open Go.RowKit Pl

/-- what the calls ask of the library's variables -/
structure Env (w : World) : Prop where
  ml : ∃ m, w.cell? ⟨0, 0, none⟩ = some (.int .i64 m)
  tab : Lib.TabIs Tryz.prog w "internal/strconv.uint64pow10" .u64 Lib.pow10Tab
  syn : ∃ tp p, w.var? Tryz.prog "strconv.ErrSyntax" = some #[.iface tp p]
  rng : ∃ tp p, w.var? Tryz.prog "strconv.ErrRange" = some #[.iface tp p]
theorem var_below {P : Program} {w w' : World} {name : String} {v : Array Value} (h : w.var? P name = some v) (hb : Below w.heap.size w w') : w'.var? P name = some v := by
  unfold World.var? at *
  cases hg : P.globalNamed name with
  | none => rw [hg] at h; cases h
  | some g =>
    rw [hg] at h
    simp only [Option.bind_some] at h ⊢
    have hlt : g < w.heap.size := by
      rcases Nat.lt_or_ge g w.heap.size with h1 | h1
      · exact h1
      · rw [Array.getElem?_eq_none h1] at h; cases h
    rw [hb.block g hlt]; exact h
theorem Env.below {w w' : World} (h : Env w) (hb : Below w.heap.size w w') : Env w' :=
  ⟨by obtain ⟨m, hm⟩ := h.ml; exact ⟨m, by rw [hb.cell (p := ⟨0, 0, none⟩) (World.block_lt_of_cell? _ _ hm)]; exact hm⟩, var_below h.tab hb, by obtain ⟨a, b, h⟩ := h.syn; exact ⟨a, b, var_below h hb⟩, by obtain ⟨a, b, h⟩ := h.rng; exact ⟨a, b, var_below h hb⟩⟩

theorem decDigits_dg (n : Nat) : Lib.decDigits n = dg n := by
  induction n using Nat.strongRecOn with
  | ind n ih =>
    rw [Lib.decDigits]
    split
    · rename_i h; rw [dg_small h]
    · rename_i h; rw [ih (n / 10) (by omega)]; exact (dg_step (by omega)).symm
theorem itoa_dint (n : Int) : Lib.itoa n = dint n := by
  unfold Lib.itoa dint
  split
  · rw [decDigits_dg]
  · rw [decDigits_dg, show n.toNat = n.natAbs by omega]
theorem parse10 : ∀ (l : List UInt8) (acc k : Nat), allD l = true → acc < 10 ^ k → k + l.length ≤ 18 → ∃ u, Lib.parseUint10 acc l = .ok u ∧ (u : Int) = l.foldl (fun n c => 10 * n + ((c.toNat : Int) - 48)) acc := by
  intro l
  induction l with
  | nil => intro acc k _ _ _; exact ⟨acc, rfl, rfl⟩
  | cons c l ih =>
    intro acc k hd ha hk
    have h1 := allD_mem hd c (by simp)
    have hd' : allD l = true := by unfold allD at hd ⊢; rw [List.all_cons, Bool.and_eq_true] at hd; exact hd.2
    have hk' : k + 1 + l.length ≤ 18 := by simp at hk; omega
    have hb : acc * 10 + (c.toNat - 48) < 10 ^ (k + 1) := by rw [Nat.pow_succ]; omega
    have hp : (10 : Nat) ^ (k + 1) ≤ 10 ^ 18 := Nat.pow_le_pow_right (by decide) (by omega)
    have hp1 : (10 : Nat) ^ 18 = 1000000000000000000 := by decide
    obtain ⟨u, hu, hv⟩ := ih (acc * 10 + (c.toNat - 48)) (k + 1) hd' hb hk'
    refine ⟨u, ?_, ?_⟩
    · rw [Lib.parseUint10, if_pos h1, if_neg (by omega), if_neg (by omega)]; exact hu
    · rw [List.foldl_cons, hv]; congr 1; omega
theorem atoi_dint {n : Int} (h0 : -99999 ≤ n) (h : n ≤ 99999) : Lib.atoiAll (dint n) = .ok n := by
  have key : ∀ m : Nat, m ≤ 99999 → Lib.parseMag (dg m) = .ok m := by
    intro m hm
    obtain ⟨u, hu, hv⟩ := parse10 (dg m) 0 0 (dg_all m) (by decide) (by have := dg_lt 4 m (by omega); omega)
    have : (u : Int) = m := by rw [hv]; exact dg_numv m
    have hp := dg_pos m
    unfold Lib.parseMag
    rw [if_neg (by intro e; rw [e] at hp; simp at hp), hu]; congr 1; omega
  unfold dint
  split
  · rename_i hn
    unfold Lib.atoiAll
    simp only [show (45 : UInt8).toNat = 45 from rfl, or_true, if_true, key _ (show n.natAbs ≤ 99999 by omega)]
    rw [if_neg (by simp), if_neg (by simp; omega)]
    simp; omega
  · rename_i hn
    have hp := dg_pos n.natAbs
    cases hd : dg n.natAbs with
    | nil => rw [hd] at hp; simp at hp
    | cons c r =>
      have hc := allD_mem (dg_all n.natAbs) c (by rw [hd]; simp)
      unfold Lib.atoiAll
      have n45 : ¬ c.toNat = 45 := by omega
      have n43 : ¬ c.toNat = 43 := by omega
      have hk := key _ (show n.natAbs ≤ 99999 by omega)
      rw [hd] at hk
      simp only [n45, n43, or_self, if_false, hk]
      rw [if_neg (by simp; omega), if_neg (by simp)]
      congr 1; omega

/-- the number that a string spells just as a program's string does -/
def pn (s : List UInt8) : Option Int := match Lib.atoiAll s with | .ok v => if Lib.itoa v = s then some v else none | _ => none
theorem pn_some {s : List UInt8} {v : Int} (h : pn s = some v) : dint v = s := by
  unfold pn at h
  split at h
  · split at h
    · rename_i h1; cases h; rw [← itoa_dint]; exact h1
    · cases h
  · cases h
theorem pn_dint {n : Int} (h0 : -99999 ≤ n) (h : n ≤ 99999) : pn (dint n) = some n := by unfold pn; rw [atoi_dint h0 h]; simp only [itoa_dint, if_true]

theorem below_bytes (w : World) (e : TypeId) (s : ByteArray) : Below w.heap.size w (Lib.bytesWorld w e s) := ⟨rfl, rfl, rfl, by rw [Lib.bytesWorld_size]; omega, fun k hk => Lib.bytesWorld_at_old w e s k hk⟩
theorem below_grow (w : World) (k : Nat) (os : Array Obj) : Below w.heap.size w (Go.Sort.grow (w.drewN k) os) :=
  ⟨rfl, rfl, rfl, by simp [Go.Sort.grow, World.drewN], fun j hj => by show (w.heap ++ os)[j]? = _; rw [Array.getElem?_append_left hj]⟩
theorem Itoa_any (n : Int) (w : World) (h0 : -9223372036854775808 ≤ n) (h1 : n ≤ 9223372036854775807) (hE : Env w) :
    Calls Tryz.prog 128 #[.int .i64 n] w fun e w' => e = .returned (.string (S (Lib.itoa n))) ∧ Below w.heap.size w w' :=
  (Tryz.strconv_Itoa n h0 h1 w hE.tab).mono fun e w' h => by
    obtain ⟨he, k, os, rfl⟩ := h
    exact ⟨he, below_grow w k os⟩
theorem Atoi_ok (s : ByteArray) (v : Int) (w : World) (hs : s.size ≤ 281474976710656) (h : Lib.atoiAll s.data.toList = .ok v) :
    Calls Tryz.prog 217 #[.string s] w fun e w' => e = .returned (.tuple #[.int .i64 v, .nilIface]) ∧ Below w.heap.size w w' :=
  (Tryz.strconv_Atoi_ok s (by omega) v h w).mono fun e w' h => by
    obtain ⟨he, rfl | ⟨t, rfl⟩⟩ := h
    · exact ⟨he, Below.refl _ _⟩
    · exact ⟨he, below_bytes _ _ _⟩
def AtoiBad (w : World) (e : Ending) (w' : World) : Prop := ∃ n t p, e = .returned (.tuple #[.int .i64 n, .iface t p]) ∧ Below w.heap.size w w'
theorem Atoi_bad (s : ByteArray) (w : World) (hs : s.size ≤ 281474976710656) (h : ∀ v, Lib.atoiAll s.data.toList ≠ .ok v) (hE : Env w) :
    Calls Tryz.prog 217 #[.string s] w (AtoiBad w) := by
  by_cases ha : Lib.atoiAll s.data.toList = .range
  · obtain ⟨tp, p, hv⟩ := hE.rng
    exact (Tryz.strconv_Atoi_range_var s hs ha tp p w hv).mono fun e w' h => by
      obtain ⟨N, he, _, _, hb⟩ := h
      exact ⟨_, _, _, he, hb⟩
  · obtain ⟨tp, p, hv⟩ := hE.syn
    exact (Tryz.strconv_Atoi_syntax_var s hs h ha tp p w hv).mono fun e w' h => by
      obtain ⟨N, he, _, _, hb⟩ := h
      exact ⟨_, _, _, he, hb⟩
theorem atoi_range {l : List UInt8} {v : Int} (h : Lib.atoiAll l = .ok v) : -9223372036854775808 ≤ v ∧ v ≤ 9223372036854775807 := by
  have := Lib.atoiAll_bounds h; omega

def PNo (w : World) (e : Ending) (w' : World) : Prop := ∃ n : Int, e = .returned (.tuple #[.int .i64 n, .bool false]) ∧ Below w.heap.size w w'

set_option maxHeartbeats 800000 in
theorem parseNumber_itoa (v : Int) (w : World) (hz : (S (Lib.itoa v)).size ≤ 281474976710656) (h : Lib.atoiAll (Lib.itoa v) = .ok v) (hE : Env w) :
    Calls Tryz.prog 187 #[.string (S (Lib.itoa v))] w fun e w' => e = .returned (.tuple #[.int .i64 v, .bool true]) ∧ Below w.heap.size w w' := by
  obtain ⟨r0, r1⟩ := atoi_range h
  have H := Lib.hid h; have HZ := Lib.hid hz; have HE := Lib.hid hE; clear h hz hE
  go_enter Tryz.func187, Tryz.ntmps187
  go_wp2_with fail
  refine (Atoi_ok _ v _ HZ.out H.out).mono ?_
  rintro e w1 ⟨rfl, h1⟩
  have E1 := Lib.hid (HE.out.below h1)
  go_wp2_with fail
  refine (Itoa_any v _ r0 r1 E1.out).mono ?_
  rintro e w2 ⟨rfl, h2⟩
  go_wp2
  go_ret2
  exact ⟨rfl, h1.trans (h2.mono h1.size)⟩
theorem parseNumber_yes (s : ByteArray) (v : Int) (w : World) (hs : s.size ≤ 281474976710656) (h : pn s.data.toList = some v) (hE : Env w) :
    Calls Tryz.prog 187 #[.string s] w fun e w' => e = .returned (.tuple #[.int .i64 v, .bool true]) ∧ Below w.heap.size w w' := by
  unfold pn at h
  split at h
  · rename_i u hu
    split at h
    · rename_i h1; cases h
      have hS : S (Lib.itoa v) = s := by rw [h1]
      rw [← hS]
      exact parseNumber_itoa v w (by rw [hS]; exact hs) (by rw [h1]; exact hu) hE
    · cases h
  · cases h

set_option maxHeartbeats 800000 in
theorem parseNumber_bad (s : ByteArray) (w : World) (hs : s.size ≤ 281474976710656) (h : ∀ v, Lib.atoiAll s.data.toList ≠ .ok v) (hE : Env w) :
    Calls Tryz.prog 187 #[.string s] w (PNo w) := by
  have H := Lib.hid (Atoi_bad s w hs h hE); clear h
  go_enter Tryz.func187, Tryz.ntmps187
  go_wp2_with fail
  refine H.out.mono ?_
  rintro e w1 ⟨n, t, p, rfl, h1⟩
  go_wp2
  go_ret2
  exact ⟨n, rfl, h1⟩

set_option maxHeartbeats 800000 in
theorem parseNumber_other (l : List UInt8) (v : Int) (w : World) (hs : (S l).size ≤ 281474976710656) (h : Lib.atoiAll l = .ok v) (hn : Lib.itoa v ≠ l) (hE : Env w) :
    Calls Tryz.prog 187 #[.string (S l)] w (PNo w) := by
  obtain ⟨r0, r1⟩ := atoi_range h
  have n2 : (Lib.itoa v == l) = false := beq_eq_false_iff_ne.2 hn
  have H := Lib.hid h; have HE := Lib.hid hE; have HS := Lib.hid hs; clear h hE hn hs
  go_enter Tryz.func187, Tryz.ntmps187
  go_wp2_with fail
  refine (Atoi_ok _ v _ HS.out H.out).mono ?_
  rintro e w1 ⟨rfl, h1⟩
  have E1 := Lib.hid (HE.out.below h1)
  go_wp2_with fail
  refine (Itoa_any v _ r0 r1 E1.out).mono ?_
  rintro e w2 ⟨rfl, h2⟩
  go_wp2
  go_ret2
  exact ⟨v, rfl, h1.trans (h2.mono h1.size)⟩
theorem parseNumber_no (s : ByteArray) (w : World) (hs : s.size ≤ 281474976710656) (h : pn s.data.toList = none) (hE : Env w) :
    Calls Tryz.prog 187 #[.string s] w (PNo w) := by
  unfold pn at h
  split at h
  · rename_i u hu
    split at h
    · cases h
    · rename_i h1; exact parseNumber_other s.data.toList u w hs hu h1 hE
  · rename_i h1; exact parseNumber_bad s w hs (fun v hv => h1 v hv) hE

/-- a valid tree that is a number, as a number -/
theorem decodeNumber_yes (s : List UInt8) (w : World) (hv : vld s = true) (ha : alt s = true) (hE : Env w) :
    Calls Tryz.prog 156 #[.string (S s)] w fun e w' => e = .returned (.tuple #[.int .i64 (val s), .bool true]) ∧ Below w.heap.size w w' := by
  obtain ⟨m, hm⟩ := hE.ml
  have H := Lib.hid (Value_num (S s) m w hv hm ha); clear hv ha hm
  go_enter Tryz.func156, Tryz.ntmps156
  go_wp2_with fail
  refine H.out.mono ?_
  rintro e w1 ⟨rfl, h1⟩
  go_wp2
  go_ret2
  exact ⟨rfl, h1⟩
theorem decodeNumber_no (s : List UInt8) (w : World) (hv : vld s = true) (ha : alt s = false) (hE : Env w) :
    Calls Tryz.prog 156 #[.string (S s)] w fun e w' => e = .returned (.tuple #[.int .i64 0, .bool false]) ∧ Below w.heap.size w w' := by
  obtain ⟨m, hm⟩ := hE.ml
  have H := Lib.hid (Value_none (S s) m w hv hm ha); clear hv ha hm
  go_enter Tryz.func156, Tryz.ntmps156
  go_wp2_with fail
  refine H.out.mono ?_
  rintro e w1 ⟨rfl, h1⟩
  go_wp2
  go_ret2
  exact ⟨rfl, h1⟩
theorem codeNumber_yes (n : Nat) (w : World) (h : n ≤ 999999) :
    Calls Tryz.prog 149 #[.int .i64 n] w fun e w' => e = .returned (.string (S (num n))) ∧ Below w.heap.size w w' := by
  go_enter Tryz.func149, Tryz.ntmps149
  go_wp2_with fail
  refine (Number_yes n _ h).mono ?_
  rintro e w1 ⟨rfl, h1⟩
  go_wp2
  go_ret
  exact ⟨rfl, h1⟩
theorem copyTree_any (s : ByteArray) (w : World) (hs : s.size ≤ 281474976710656) :
    Calls Tryz.prog 192 #[.string s] w fun e w' => e = .returned (.tuple #[.string s, .bool (vld s.data.toList)]) ∧ Below w.heap.size w w' := by
  have H := Lib.hid (fun W => Valid_is (vld s.data.toList) s W hs rfl)
  go_enter Tryz.func192, Tryz.ntmps192
  go_wp2_with fail
  refine (Clone_any s _ hs).mono ?_
  rintro e w1 ⟨rfl, h1⟩
  go_wp2_with fail
  refine (H.out _).mono ?_
  rintro e w2 ⟨rfl, h2⟩
  go_wp2
  go_ret2
  exact ⟨rfl, h1.trans (h2.mono h1.size)⟩
end Go.Proofs.YtmhoacnbmbhcjaaGreatDoor

namespace Go.Proofs.YtmhoacnbmbhcjaaGreatDoor
open Go.RowKit Pl

/-- the trees, m of them and what remains, of which a tree is nested -/
def unn : Nat → List UInt8 → Option (List (List UInt8))
  | 0, s => some [s]
  | m + 1, s => if s = [48] then none else (unn m (tl s)).map (hd s :: ·)
theorem unn_len : ∀ {m : Nat} {s : List UInt8} {l : List (List UInt8)}, unn m s = some l → l.length = m + 1 := by
  intro m
  induction m with
  | zero => intro s l h; simp only [unn, Option.some.injEq] at h; rw [← h]; rfl
  | succ m ih =>
    intro s l h
    simp only [unn] at h
    split at h
    · cases h
    · cases h1 : unn m (tl s) with
      | none => rw [h1] at h; cases h
      | some l1 => rw [h1] at h; simp only [Option.map_some, Option.some.injEq] at h; rw [← h, List.length_cons, ih h1]
theorem unn_vld : ∀ {m : Nat} {s : List UInt8} {l : List (List UInt8)}, vld s = true → unn m s = some l → ∀ x ∈ l, vld x = true := by
  intro m
  induction m with
  | zero => intro s l hv h; simp only [unn, Option.some.injEq] at h; rw [← h]; intro x hx; simp at hx; rw [hx]; exact hv
  | succ m ih =>
    intro s l hv h
    simp only [unn] at h
    split at h
    · cases h
    · cases h1 : unn m (tl s) with
      | none => rw [h1] at h; cases h
      | some l1 =>
        rw [h1] at h; simp only [Option.map_some, Option.some.injEq] at h
        rw [← h]
        intro x hx
        rcases List.mem_cons.1 hx with rfl | hx
        · exact (vld_hd hv).1
        · exact ih (vld_hd hv).2 h1 x hx
def UnPost (w : World) (r : Option (List (List UInt8))) (e : Ending) (w' : World) : Prop :=
  match r with
  | some l => ∃ v, e = .returned (.tuple #[v, .bool true]) ∧ w'.ownsRow w.heap.size 9 1 v l.length (strsV l) ∧ Below w.heap.size w w'
  | none => e = .returned (.tuple #[.slice none 0 0, .bool false]) ∧ Below w.heap.size w w'
def UnRel (s : List UInt8) (m k : Nat) (acc : List (List UInt8)) (cur : List UInt8) : Prop := vld cur = true ∧ acc.length = k ∧ unn m s = (unn (m - k) cur).map (acc ++ ·)
theorem UnRel.stop {s : List UInt8} {m k : Nat} {acc : List (List UInt8)} {cur : List UInt8} (h : UnRel s m k acc cur) (hk : k < m) (hc : cur = [48]) : unn m s = none := by
  obtain ⟨j, hj⟩ : ∃ j, m - k = j + 1 := ⟨m - k - 1, by omega⟩
  rw [h.2.2, hj, unn, if_pos hc]; rfl
theorem UnRel.step {s : List UInt8} {m k : Nat} {acc : List (List UInt8)} {cur : List UInt8} (h : UnRel s m k acc cur) (hk : k < m) (hc : cur ≠ [48]) : UnRel s m (k + 1) (acc ++ [hd cur]) (tl cur) := by
  obtain ⟨j, hj⟩ : ∃ j, m - k = j + 1 := ⟨m - k - 1, by omega⟩
  refine ⟨(vld_hd h.1).2, by simp [h.2.1], ?_⟩
  rw [h.2.2, hj, unn, if_neg hc, show m - (k + 1) = j by omega]
  cases unn j (tl cur) <;> simp
theorem UnRel.done {s : List UInt8} {m : Nat} {acc : List (List UInt8)} {cur : List UInt8} (h : UnRel s m m acc cur) : unn m s = some (acc ++ [cur]) := by
  rw [h.2.2, Nat.sub_self, unn]; rfl

set_option maxHeartbeats 3200000 in
set_option maxRecDepth 100000 in
theorem unnest_any (s : List UInt8) (m : Nat) (w : World) (hv : vld s = true) (hm : m ≤ 1000) :
    Calls Tryz.prog 155 #[.string (S s), .int .i64 ((m : Int) + 1)] w (UnPost w (unn m s)) := by
  obtain ⟨i0, hi, hz0, hz1, hz2⟩ := info_parts Tryz.infoStr
  have HV := Lib.hid hv; clear hv
  go_enter Tryz.func155, Tryz.ntmps155
  go_wp2
  go_loopw [0, 6, 13] (fun c v i wr => ∃ (k : Nat) (acc : List (List UInt8)) (cur : List UInt8), k ≤ m ∧ i = .int .i64 k ∧ c = .string (S cur) ∧ Hid (UnRel s m k acc cur) ∧ wr.ownsRow w.heap.size 9 1 v k (strsV acc) ∧ Below w.heap.size w wr) (fun _ _ i _ => m - (intOf i).toNat)
  case atStart => exact ⟨0, [], s, Nat.zero_le _, rfl, rfl, Lib.hid ⟨HV.out, rfl, by simp⟩, World.ownsRow_nil _ _ _ _, Below.refl _ _⟩
  case round =>
    obtain ⟨k, acc, cur, hk, rfl, rfl, hr, hown, hb⟩ := hrel
    have hsz := hb.size
    have hcv := Lib.hid hr.out.1
    have hcl : cur.length ≤ 2000000 := (vld_iff.1 hr.out.1).1
    by_cases hlt : k < m
    · have h1 : (k : Int) < (m : Int) := by omega
      by_cases hc : cur = [48]
      · have HN := Lib.hid (hr.out.stop hlt hc)
        have c1 : (cur == [48]) = true := by rw [hc]; rfl
        clear hc
        go_wp2_with fail
        go_ret2
        rw [HN.out]
        exact ⟨rfl, hb⟩
      · have HN := Lib.hid (hr.out.step hlt hc)
        have c1 : (cur == [48]) = false := beq_eq_false_iff_ne.2 hc
        clear hc
        go_wp2_with fail
        refine (Head_yes (S cur) _ hcv.out).mono ?_
        rintro e w1 ⟨rfl, h1⟩
        go_wp2_with fail
        refine (Tail_yes (S cur) _ hcv.out).mono ?_
        rintro e w2 ⟨rfl, h2⟩
        have hb2 : Below wr.heap.size wr w2 := h1.trans (h2.mono h1.size)
        have hown2 := own_keep hown hb2
        have hz2' := hb2.size
        go_wp2_with (at_builtin; refine wpList_append_own _ rfl _ _ 100 rfl w.heap.size 9 i0 (.string ⟨#[]⟩) 1 16 Tryz.underlying100 hi hz0 hz1 hz2 rfl (by decide) _ _ _ rfl (hown2.alloc _) ⟨w2.heap.size, 0, none⟩ 1 1 [.string (S (hd cur))] rfl rfl ?c1 ?c2 ?c3 ?c4 ?c5 ?_)
        case c1 =>
          intro t u ht
          match t, ht with
          | 0, ht => simp at ht; subst ht; simp [Addr.add]
        case c2 => intro u hu; simp at hu; subst hu; rfl
        case c3 => unfold maxLen; omega
        case c4 => omega
        case c5 => simp; omega
        intro v' w3 hown' hgrow _
        have hb4 := app_below (hb.trans (hb2.mono hsz)) (by omega) hown2 hgrow
        have ho : w3.ownsRow w.heap.size 9 1 v' (k + 1) (strsV (acc ++ [hd cur])) := by
          rw [strsV_snoc]; exact hown'
        have HO := Lib.hid ho
        clear ho hown' hgrow hown hown2 hb hb2 h1 h2
        go_wp2
        go_roundw
        case rel => exact ⟨k + 1, acc ++ [hd cur], tl cur, by omega, by go_num, rfl, HN, HO.out, hb4⟩
        case measure => simp [intOf]; omega
    · obtain rfl : k = m := by omega
      have HN := Lib.hid hr.out.done
      have HL := Lib.hid hr.out.2.1
      go_wp2_with (at_builtin; refine wpList_append_own _ rfl _ _ 100 rfl w.heap.size 9 i0 (.string ⟨#[]⟩) 1 16 Tryz.underlying100 hi hz0 hz1 hz2 rfl (by decide) _ _ _ rfl (hown.alloc _) ⟨wr.heap.size, 0, none⟩ 1 1 [.string (S cur)] rfl rfl ?c1 ?c2 ?c3 ?c4 ?c5 ?_)
      case c1 =>
        intro t u ht
        match t, ht with
        | 0, ht => simp at ht; subst ht; simp [Addr.add]
      case c2 => intro u hu; simp at hu; subst hu; rfl
      case c3 => unfold maxLen; omega
      case c4 => omega
      case c5 => simp; omega
      intro v' w3 hown' hgrow _
      have hb4 := app_below hb hsz hown hgrow
      have ho : w3.ownsRow w.heap.size 9 1 v' (acc ++ [cur]).length (strsV (acc ++ [cur])) := by
        rw [strsV_snoc, List.length_append, HL.out]; exact hown'
      have HO := Lib.hid ho
      clear ho hown' hgrow hown hb
      go_wp2
      go_ret2
      rw [HN.out]
      exact ⟨_, rfl, HO.out, hb4⟩
end Go.Proofs.YtmhoacnbmbhcjaaGreatDoor

namespace Go.Proofs.YtmhoacnbmbhcjaaGreatDoor
open Go.RowKit Pl

theorem own_cap {w : World} {base n : Nat} {e : TypeId} {size : Nat} {v : Value} {xs : List Value} (h : w.ownsRow base e size v n xs) (hn : 0 < n) : ∃ g cap, v = .slice (some ⟨g, 0, none⟩) n cap ∧ n ≤ cap ∧ base ≤ g ∧ g < w.heap.size := by
  have hlt := h.lt
  rcases h.2 with ⟨_, h0⟩ | ⟨g, cap, cur, rfl, hb, _, hc, _⟩
  · omega
  · exact ⟨g, cap, rfl, hc, hb, (hlt g rfl).2⟩
/-- the tree of a distance -/
def cd (n : Int) : List UInt8 := if n < 0 then pr [49, 48, 48] (num (-n).toNat) else pr [48] (num n.toNat)
theorem codeDistance_nat (n : Nat) (w : World) (h : n ≤ 900000) :
    Calls Tryz.prog 198 #[.int .i64 n] w fun e w' => e = .returned (.string (S (pr [48] (num n)))) ∧ Below w.heap.size w w' := by
  have HV := Lib.hid (num_vld (n := n) (by omega))
  have HN := Lib.hid (fun W => Cons_ok [48] (num n) W (by decide) (num_vld (by omega)) (by rw [pr_len, num_len]; simp; omega))
  go_enter Tryz.func198, Tryz.ntmps198
  go_wp2_with fail
  refine (codeNumber_yes n _ (by omega)).mono ?_
  rintro e w1 ⟨rfl, h1⟩
  go_wp2_with fail
  refine (HN.out _).mono ?_
  rintro e w2 ⟨rfl, h2⟩
  go_wp2
  go_ret
  exact ⟨rfl, h1.trans (h2.mono h1.size)⟩
theorem codeDistance_neg (n : Nat) (w : World) (h0 : 0 < n) (h : n ≤ 900000) :
    Calls Tryz.prog 198 #[.int .i64 (-(n : Int))] w fun e w' => e = .returned (.string (S (pr [49, 48, 48] (num n)))) ∧ Below w.heap.size w w' := by
  have HN := Lib.hid (fun W => Cons_ok [49, 48, 48] (num n) W (by decide) (num_vld (by omega)) (by rw [pr_len, num_len]; simp; omega))
  have e0 : (-(n : Int)) < 0 := by omega
  go_enter Tryz.func198, Tryz.ntmps198
  go_wp2_with fail
  refine (codeNumber_yes n _ (by omega)).mono ?_
  rintro e w1 ⟨rfl, h1⟩
  go_wp2_with fail
  refine (HN.out _).mono ?_
  rintro e w2 ⟨rfl, h2⟩
  go_wp2
  go_ret
  exact ⟨rfl, h1.trans (h2.mono h1.size)⟩
theorem codeDistance_any (n : Int) (w : World) (h0 : -900000 ≤ n) (h1 : n ≤ 900000) :
    Calls Tryz.prog 198 #[.int .i64 n] w fun e w' => e = .returned (.string (S (cd n))) ∧ Below w.heap.size w w' := by
  unfold cd
  by_cases h : n < 0
  · obtain ⟨k, hk⟩ : ∃ k : Nat, n = -(k : Int) := ⟨n.natAbs, by omega⟩
    subst hk
    rw [if_pos h, show (- -(k : Int)).toNat = k by omega]
    exact codeDistance_neg k w (by omega) (by omega)
  · obtain ⟨k, hk⟩ : ∃ k : Nat, n = (k : Int) := ⟨n.natAbs, by omega⟩
    subst hk
    rw [if_neg h, Int.toNat_natCast]
    exact codeDistance_nat k w (by omega)

/-- the distance that a tree is -/
def dd (s : List UInt8) : Option Int :=
  if s = [48] then none
  else if hd s = [48] then (if alt (tl s) = true then some (val (tl s)) else none)
  else if hd s = [49, 48, 48] then (if alt (tl s) = true ∧ 0 < val (tl s) then some (-val (tl s)) else none)
  else none
def DPost (w : World) (r : Option Int) (e : Ending) (w' : World) : Prop :=
  match r with
  | some v => e = .returned (.tuple #[.int .i64 v, .bool true]) ∧ Below w.heap.size w w'
  | none => PNo w e w'
/-- decodeNumber of a valid tree -/
def DNum (s : List UInt8) : Option Int := if alt s = true then some (val s) else none
theorem decodeNumber_any (s : List UInt8) (w : World) (hv : vld s = true) (hE : Env w) :
    Calls Tryz.prog 156 #[.string (S s)] w fun e w' => e = .returned (.tuple #[.int .i64 (if alt s = true then val s else 0), .bool (alt s)]) ∧ Below w.heap.size w w' := by
  cases h : alt s with
  | true => rw [if_pos rfl]; exact decodeNumber_yes s w hv h hE
  | false => rw [if_neg (by decide)]; exact decodeNumber_no s w hv h hE

set_option maxHeartbeats 1600000 in
theorem decodeDistance_any (s : List UInt8) (w : World) (hv : vld s = true) (hE : Env w) :
    Calls Tryz.prog 200 #[.string (S s)] w (DPost w (dd s)) := by
  have H := Lib.hid (fun W => unnest_any s 1 W hv (by omega))
  have HT := Lib.hid (vld_hd hv).2
  have HE := Lib.hid hE
  clear hE
  have HV := Lib.hid hv; clear hv
  by_cases h0 : s = [48]
  · have HU : Hid (unn 1 s = none) := Lib.hid (by rw [h0]; rfl)
    have HD : Hid (dd s = none) := Lib.hid (by unfold dd; rw [if_pos h0])
    clear h0
    go_enter Tryz.func200, Tryz.ntmps200
    go_wp2_with fail
    refine (H.out _).mono ?_
    rw [HU.out]
    rintro e w1 ⟨rfl, h1⟩
    go_wp2
    go_ret2
    rw [HD.out]
    exact ⟨0, rfl, h1⟩
  · have HU : Hid (unn 1 s = some [hd s, tl s]) := Lib.hid (by simp [unn, h0])
    have HD : Hid (dd s = if hd s = [48] then (if alt (tl s) = true then some (val (tl s)) else none) else if hd s = [49, 48, 48] then (if alt (tl s) = true ∧ 0 < val (tl s) then some (-val (tl s)) else none) else none) := Lib.hid (by unfold dd; rw [if_neg h0])
    clear h0
    have hvl := val_ge (tl s)
    have hvu := val_le (tl s)
    have hlen : (tl s).length ≤ 2000000 := (vld_iff.1 HT.out).1
    go_enter Tryz.func200, Tryz.ntmps200
    go_wp2_with fail
    refine (H.out _).mono ?_
    rw [HU.out]
    rintro e w1 ⟨v, rfl, hown, h1⟩
    obtain ⟨g, cap, rfl, hcap, hg0, hg⟩ := own_cap hown (by simp)
    have c0 := hown.cellAt 0 (by simp)
    have c1 := hown.cellAt 1 (by simp)
    simp only [strsV, List.map_cons, List.map_nil, List.getElem?_cons_zero, List.getElem?_cons_succ] at c0 c1
    have E1 := Lib.hid (HE.out.below h1)
    clear hown
    go_wp2_with fail
    cases ha : alt (tl s) with
    | false =>
      have HA := Lib.hid ha
      refine (decodeNumber_no (tl s) _ HT.out ha E1.out).mono ?_
      rintro e w2 ⟨rfl, h2⟩
      clear ha
      have k0 := (h2.cell (p := ⟨g, 0, none⟩) hg).trans c0
      have hb2 : Below w.heap.size w w2 := h1.trans (h2.mono h1.size)
      have hN : dd s = none := by rw [HD.out, HA.out]; simp
      have HN := Lib.hid hN
      clear hN
      by_cases a0 : hd s = [48]
      · have q0 : (hd s == [48]) = true := by rw [a0]; rfl
        clear a0
        go_wp2
        go_ret2
        rw [HN.out]
        exact ⟨_, rfl, hb2⟩
      · have q0 : (hd s == [48]) = false := beq_eq_false_iff_ne.2 a0
        by_cases a1 : hd s = [49, 48, 48]
        · have q1 : (hd s == [49, 48, 48]) = true := by rw [a1]; rfl
          clear a0 a1
          go_wp2
          go_ret2
          rw [HN.out]
          exact ⟨_, rfl, hb2⟩
        · have q1 : (hd s == [49, 48, 48]) = false := beq_eq_false_iff_ne.2 a1
          clear a0 a1
          go_wp2
          go_ret2
          rw [HN.out]
          exact ⟨_, rfl, hb2⟩
    | true =>
      have HA := Lib.hid ha
      refine (decodeNumber_yes (tl s) _ HT.out ha E1.out).mono ?_
      rintro e w2 ⟨rfl, h2⟩
      clear ha
      have k0 := (h2.cell (p := ⟨g, 0, none⟩) hg).trans c0
      have hb2 : Below w.heap.size w w2 := h1.trans (h2.mono h1.size)
      by_cases a0 : hd s = [48]
      · have HN : Hid (dd s = some (val (tl s))) := Lib.hid (by rw [HD.out, if_pos a0, if_pos HA.out])
        have q0 : (hd s == [48]) = true := by rw [a0]; rfl
        clear a0
        go_wp2
        go_ret2
        rw [HN.out]
        exact ⟨rfl, hb2⟩
      · have q0 : (hd s == [48]) = false := beq_eq_false_iff_ne.2 a0
        by_cases a1 : hd s = [49, 48, 48]
        · have q1 : (hd s == [49, 48, 48]) = true := by rw [a1]; rfl
          by_cases hp : 0 < val (tl s)
          · have HN : Hid (dd s = some (-val (tl s))) := Lib.hid (by rw [HD.out, if_neg a0, if_pos a1, if_pos ⟨HA.out, hp⟩])
            clear a0 a1
            go_wp2
            go_ret2
            rw [HN.out]
            exact ⟨rfl, hb2⟩
          · have HN : Hid (dd s = none) := Lib.hid (by rw [HD.out, if_neg a0, if_pos a1, if_neg (fun h => hp h.2)])
            have hp2 : decide (0 < val (tl s)) = false := decide_eq_false hp
            clear a0 a1 hp
            go_wp2
            go_ret2
            rw [HN.out]
            exact ⟨_, rfl, hb2⟩
        · have q1 : (hd s == [49, 48, 48]) = false := beq_eq_false_iff_ne.2 a1
          have HN : Hid (dd s = none) := Lib.hid (by rw [HD.out, if_neg a0, if_neg a1])
          clear a0 a1
          go_wp2
          go_ret2
          rw [HN.out]
          exact ⟨_, rfl, hb2⟩
end Go.Proofs.YtmhoacnbmbhcjaaGreatDoor
