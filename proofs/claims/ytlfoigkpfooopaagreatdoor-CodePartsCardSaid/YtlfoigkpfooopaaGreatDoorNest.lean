/- slices.Backward over strings, and nest: a range over a function whose body calls Cons. By an AI agent. -/
import Derived.RangeFuncNested
import Derived.RangeFuncBound
import Derived.RangeFuncCalls
import Derived.RangeFuncLeaves
import Derived.Shelf.Abstract
import Derived.Shelf.RegionOpen
import Derived.WalkKit
import Derived.OwnWalkIn
import Derived.TacticsInMore
import Derived.LoopNIn
import Derived.LoopIn
import Derived.Test.YtlfoigkpfooopaaGreatDoorOperations
namespace Go.Proofs.YtlfoigkpfooopaaGreatDoor
open Go.RowKit Go.Shelf Pl

attribute [local go_sem] Oper.semAt_some

/-- what lay below n₀, and block Bs, are as they were -/
def Kq (n₀ Bs : Nat) (W W' : World) : Prop := Below n₀ W W' ∧ W'.heap[Bs]? = W.heap[Bs]?
theorem Kq.refl (n₀ Bs : Nat) (W : World) : Kq n₀ Bs W W := ⟨Below.refl _ _, rfl⟩
theorem Kq.trans {n₀ Bs : Nat} {A B C : World} (h : Kq n₀ Bs A B) (k : Kq n₀ Bs B C) : Kq n₀ Bs A C := ⟨h.1.trans k.1, k.2.trans h.2⟩
theorem Kq.below {n₀ Bs : Nat} {A B : World} (h : Below A.heap.size A B) (hn : n₀ ≤ A.heap.size) (hb : Bs < A.heap.size) : Kq n₀ Bs A B := ⟨h.mono hn, h.block Bs hb⟩
theorem Kq.cell {n₀ Bs : Nat} {A B : World} (h : Kq n₀ Bs A B) (o : Nat) : B.cell? ⟨Bs, o, none⟩ = A.cell? ⟨Bs, o, none⟩ := by simp only [World.cell?, h.2]
theorem Kq.putObj {n₀ Bs : Nat} {w : World} (hn : n₀ ≤ w.heap.size) (hb : Bs < w.heap.size) (W : World) (l : Nat) (ob o' : Obj) (hl : w.heap.size ≤ l) (h : W.heap[l]? = some ob) (h1 : ob.isCells = false) (h2 : ob.isWalk = false) : Kq n₀ Bs W (W.putObj l o') :=
  ⟨belowK_b hn W l ob o' hl h h1 h2, World.putObj_heap_other (by omega)⟩
theorem Kq.set {n₀ Bs : Nat} {W : World} {b o : Nat} {v : Value} (h1 : n₀ ≤ b) (h2 : b ≠ Bs) : Kq n₀ Bs W (W.setCell ⟨b, o, none⟩ v) :=
  ⟨(Below.refl _ _).setCell (p := ⟨b, o, none⟩) h1 _, by simp [World.setCell, Array.getElem?_modify, h2]⟩
theorem keepsOthers_below {W W' : World} (h : Below W.heap.size W W') : KeepsOthers W W' := ⟨h.size, fun k _ hk _ => (h.block k (Array.getElem?_eq_some_iff.1 hk).1).trans hk⟩
def bwE (xs : List (List UInt8)) (k : Nat) : Array Value := #[.int .i64 ((xs.length : Int) - 1 - k), .string (S (xs[xs.length - 1 - k]?.getD [48]))]

set_option maxRecDepth 100000 in
set_option maxHeartbeats 2000000 in
theorem backward1_in (F : Fence) (n : Nat) (h7 : F.fn 112) (hro : F.round = none) (hn : 1 ≤ n) (l Bs n₀ b cap : Nat) (xs : List (List UInt8)) (hlen : xs.length ≤ 1000) (hb : b < n₀) (J Jx : List Nat → World → Prop)
    (hY : ∀ pre x W, J pre W → pre.length < xs.length → YieldAt F (n - 1) Tryz.prog l (bwE xs x) W fun e W' =>
      (e = .returned (.bool true) ∧ J (pre ++ [x]) W' ∧ Kq n₀ Bs W W') ∨ (e = .returned (.bool false) ∧ Jx (pre ++ [x]) W'))
    (W : World) (hBs : W.cell? ⟨Bs, 0, none⟩ = some (.slice (some ⟨b, 0, none⟩) xs.length cap)) (hc : ∀ j, j < xs.length → W.cell? ⟨b, j, none⟩ = some (.string (S (xs[j]?.getD [48])))) (h0 : J [] W) :
    CallsIn F n Tryz.prog 112 #[.func (.yield l) #[] #[], .pointer (some ⟨Bs, 0, none⟩)] W fun e W' => (∃ v, e = .returned v) ∧
      ((∃ ys, ys = List.range xs.length ∧ J ys W') ∨ (∃ pre, (∃ k, k ≤ xs.length ∧ pre = List.range k) ∧ Jx pre W')) := by
  generalize hN : xs.length = N at *
  have HN := Lib.hid hN; clear hN
  have HC := Lib.hid hc; have HB := Lib.hid hBs; clear hc
  refine callsIn_of_wp Tryz.func112 rfl h7 ?_ hro
  simp only [Tryz.ntmps112, List.size_toArray, List.length_cons, List.length_nil, Nat.reduceAdd, Nat.reduceSub, Array.replicate_succ, Array.replicate_zero, List.push_toArray, List.append_toArray, List.nil_append, List.cons_append]
  gi_wp2
  clear hBs
  gi_loopw [3] (fun i wr => ∃ k : Nat, k ≤ N ∧ i = .int .i64 ((N : Int) - 1 - k) ∧ J (List.range k) wr ∧ Kq n₀ Bs W wr)
    (fun i _ => (intOf i + 1).toNat)
  case atStart => exact ⟨0, Nat.zero_le _, by simp, h0, Kq.refl _ _ _⟩
  case round =>
    obtain ⟨k, hk, rfl, hJs, hnx⟩ := hrel
    have hBw : wr.cell? ⟨Bs, 0, none⟩ = some (.slice (some ⟨b, 0, none⟩) N cap) := (hnx.cell 0).trans HB.out
    by_cases hlt : k < N
    · obtain ⟨m, hm⟩ : ∃ m, N = m + 1 + k := ⟨N - 1 - k, by omega⟩
      have e1 : (N : Int) - 1 - k = m := by omega
      have hcx := (hnx.1.cell (p := ⟨b, m, none⟩) hb).trans (HC.out m (by omega))
      obtain ⟨fn, tmps, assign, body, hy, hR⟩ := hY (List.range k) k wr hJs (by simpa using hlt)
      have e2 : xs.length - 1 - k = m := by have := HN.out; omega
      have e3 : (xs.length : Int) - 1 - k = m := by have := HN.out; omega
      unfold bwE at hy
      rw [e2, e3] at hy
      rw [e1]
      have hmN : m < N := by omega
      have HM := Lib.hid hm
      have E1 := Lib.hid e1
      clear e1 e2 e3 hm
      gi_wp2
      refine hR.mono ?_
      rintro e W3 (⟨rfl, hJ3, hk3⟩ | ⟨rfl, hJx3⟩)
      · gi_wp2
        go_roundw
        case rel => exact ⟨k + 1, by omega, by have := E1.out; congr 1; push_cast; omega, by rw [List.range_succ]; exact hJ3, hnx.trans hk3⟩
        case measure => simp [intOf]
      · gi_wp2
        refine bodyPost_ret (results_none rfl _ _ _) rfl ?_
        exact ⟨⟨_, rfl⟩, .inr ⟨_, ⟨k + 1, by omega, List.range_succ.symm⟩, hJx3⟩⟩
    · obtain rfl : k = N := by omega
      have e1 : (k : Int) - 1 - k = -1 := by omega
      rw [e1]
      clear e1
      gi_wp2
      go_end0
      exact ⟨⟨_, rfl⟩, .inl ⟨_, rfl, hJs⟩⟩

theorem backward_stops (F : Fence) (n : Nat) (h7 : F.fn 112) (hro : F.round = none) (hn : 1 ≤ n) (Bs n₀ b cap : Nat) (xs : List (List UInt8)) (hlen : xs.length ≤ 1000) (hb : b < n₀) (w : World) (hBsn : Bs < w.heap.size) (hn₀ : n₀ ≤ w.heap.size)
    (hBs : w.cell? ⟨Bs, 0, none⟩ = some (.slice (some ⟨b, 0, none⟩) xs.length cap)) (hc : ∀ j, j < xs.length → w.cell? ⟨b, j, none⟩ = some (.string (S (xs[j]?.getD [48])))) :
    SeqStopsK F n Tryz.prog 112 #[.pointer (some ⟨Bs, 0, none⟩)] (bwE xs) (Kq n₀ Bs) (fun ys => ys = List.range xs.length) (fun pre => ∃ k, k ≤ xs.length ∧ pre = List.range k) xs.length w := fun l J Jx W hW _ _ hY h0 =>
  backward1_in F n h7 hro hn l Bs n₀ b cap xs hlen hb J Jx hY W ((hW.cell (p := ⟨Bs, 0, none⟩) hBsn).trans hBs) (fun j hj => (hW.cell (p := ⟨b, j, none⟩) (by show b < _; omega)).trans (hc j hj)) h0
theorem backward_in (F : Fence) (n : Nat) (h5 : F.fn 98) (hro : F.round = none) (a : Option Addr) (len cap : Nat) (w : World) :
    CallsIn F n Tryz.prog 98 #[.slice a len cap] w fun e w' => e = .returned (.func (.func 112) #[] #[.pointer (some ⟨w.heap.size, 0, none⟩)]) ∧ w' = w.alloc (.cells #[.slice a len cap] 40) := by
  refine callsIn_of_wp Tryz.func98 rfl h5 ?_ hro
  simp only [Tryz.ntmps98, List.size_toArray, List.length_cons, List.length_nil, Nat.reduceAdd, Nat.reduceSub, Array.replicate_succ, Array.replicate_zero, List.push_toArray, List.append_toArray, List.nil_append, List.cons_append]
  gi_wp2
  go_ret
  exact ⟨rfl, rfl⟩

/-- the pair of the first tree and the pair of the second one and so on, up to the last one -/
def nestL : List (List UInt8) → List UInt8 → List UInt8
  | [], z => z
  | x :: xs, z => pr x (nestL xs z)
/-- what has been made when so many rounds are over -/
def fld (xs : List (List UInt8)) (z : List UInt8) (pre : List Nat) : List UInt8 := pre.foldl (fun s k => pr (xs[xs.length - 1 - k]?.getD [48]) s) z
theorem fld_snoc (xs : List (List UInt8)) (z : List UInt8) (pre : List Nat) (k : Nat) : fld xs z (pre ++ [k]) = pr (xs[xs.length - 1 - k]?.getD [48]) (fld xs z pre) := by simp [fld]
theorem fld_range (xs : List (List UInt8)) (z : List UInt8) : ∀ k, k ≤ xs.length → fld xs z (List.range k) = nestL (xs.drop (xs.length - k)) z := by
  intro k
  induction k with
  | zero => intro _; simp [fld, nestL]
  | succ k ih =>
    intro hk
    rw [List.range_succ, fld_snoc, ih (by omega)]
    have h1 : xs.length - (k + 1) < xs.length := by omega
    rw [List.drop_eq_getElem_cons h1, nestL, show xs.length - 1 - k = xs.length - (k + 1) by omega, List.getElem?_eq_getElem h1, show xs.length - (k + 1) + 1 = xs.length - k by omega]
    rfl
theorem fld_all (xs : List (List UInt8)) (z : List UInt8) : fld xs z (List.range xs.length) = nestL xs z := by rw [fld_range xs z _ (Nat.le_refl _)]; simp
theorem nestL_drop_le (xs : List (List UInt8)) (z : List UInt8) (k : Nat) : (nestL (xs.drop k) z).length ≤ (nestL xs z).length := by
  induction xs generalizing k with
  | nil => simp
  | cons x xs ih =>
    cases k with
    | zero => simp
    | succ k => have := ih k; simp only [List.drop_succ_cons, nestL, pr_len]; omega
theorem Cons_two (a b : List UInt8) (w : World) (ha : vld a = true) (hb : vld b = true) :
    Calls Tryz.prog 99 #[.string (S a), .string (S b)] w fun e w' => (((pr a b).length ≤ 2000000 ∧ e = .returned (.tuple #[.string (S (pr a b)), .int .i64 0])) ∨ (2000000 < (pr a b).length ∧ e = .returned (.tuple #[.string (S []), .int .i64 3]))) ∧ Below w.heap.size w w' := by
  by_cases h : (pr a b).length ≤ 2000000
  · exact (Cons_yes (S a) (S b) w ha hb (by rw [S_size, S_size]; rw [pr_len] at h; omega)).mono fun e w' h1 => ⟨.inl ⟨h, h1.1⟩, h1.2⟩
  · exact (Cons_size (S a) (S b) w ha hb (by rw [S_size, S_size]; rw [pr_len] at h; omega)).mono fun e w' h1 => ⟨.inr ⟨by omega, h1.1⟩, h1.2⟩

theorem set_cell {W : World} {a b : Nat} {u v : Value} (h : a ≠ b) (hc : W.cell? ⟨b, 0, none⟩ = some u) : (W.setCell ⟨a, 0, none⟩ v).cell? ⟨b, 0, none⟩ = some u := by
  exact (World.cell?_setCell_other (w := W) (a := ⟨a, 0, none⟩) (b := ⟨b, 0, none⟩) (v := v) (by intro e; cases e; exact h rfl)).trans hc
theorem Cons_ok (a b : List UInt8) (w : World) (ha : vld a = true) (hb : vld b = true) (h : (pr a b).length ≤ 2000000) :
    Calls Tryz.prog 99 #[.string (S a), .string (S b)] w fun e w' => e = .returned (.tuple #[.string (S (pr a b)), .int .i64 0]) ∧ Below w.heap.size w w' :=
  Cons_yes (S a) (S b) w ha hb (by rw [S_size, S_size]; rw [pr_len] at h; omega)
theorem Cons_big (a b : List UInt8) (w : World) (ha : vld a = true) (hb : vld b = true) (h : 2000000 < (pr a b).length) :
    Calls Tryz.prog 99 #[.string (S a), .string (S b)] w fun e w' => e = .returned (.tuple #[.string (S []), .int .i64 3]) ∧ Below w.heap.size w w' :=
  Cons_size (S a) (S b) w ha hb (by rw [S_size, S_size]; rw [pr_len] at h; omega)

def NestI (w : World) (xs : List (List UInt8)) (z : List UInt8) (pre : List Nat) (W : World) : Prop :=
  (w.heap.size + 1 + 1 + 1 < W.heap.size ∧ vld (fld xs z pre) = true ∧ W.cell? ⟨w.heap.size, 0, none⟩ = some (.string ⟨#[]⟩) ∧ W.frozen? ⟨w.heap.size, 0, none⟩ = false ∧ W.cell? ⟨w.heap.size + 1, 0, none⟩ = some (.int .i64 0) ∧ W.frozen? ⟨w.heap.size + 1, 0, none⟩ = false ∧
    W.cell? ⟨w.heap.size + 1 + 1, 0, none⟩ = some (.string (S (fld xs z pre))) ∧ W.frozen? ⟨w.heap.size + 1 + 1, 0, none⟩ = false) ∧ Below w.heap.size w W
def NestX (w : World) (xs : List (List UInt8)) (z : List UInt8) (c : Code) (pre : List Nat) (W : World) : Prop :=
  (c = .ret ∧ 2000000 < (fld xs z pre).length ∧ W.cell? ⟨w.heap.size, 0, none⟩ = some (.string ⟨#[]⟩) ∧ W.cell? ⟨w.heap.size + 1, 0, none⟩ = some (.int .i64 3)) ∧ Below w.heap.size w W

set_option maxRecDepth 100000 in
set_option maxHeartbeats 4000000 in
theorem nest_any (b cap : Nat) (xs : List (List UInt8)) (z : List UInt8) (hlen : xs.length ≤ 999) (hv : ∀ x ∈ xs, vld x = true) (hz : vld z = true) (w : World) (hbw : b < w.heap.size) (hcap : xs.length + 1 ≤ cap)
    (hc : ∀ j, j < xs.length → w.cell? ⟨b, j, none⟩ = some (.string (S (xs[j]?.getD [48])))) (hcz : w.cell? ⟨b, xs.length, none⟩ = some (.string (S z))) :
    Calls Tryz.prog 61 #[.slice (some ⟨b, 0, none⟩) (xs.length + 1) cap] w fun e W' =>
      (((nestL xs z).length ≤ 2000000 ∧ e = .returned (.tuple #[.string (S (nestL xs z)), .int .i64 0])) ∨ (2000000 < (nestL xs z).length ∧ e = .returned (.tuple #[.string (S []), .int .i64 3]))) ∧ Below w.heap.size w W' := by
  refine (callsIn_wide (n := 5)).1 ?_
  have HC := Lib.hid hc; clear hc
  have HV := Lib.hid hv; clear hv
  generalize hN : xs.length = N at *
  have HN := Lib.hid hN; clear hN
  refine callsIn_of_wp_marks Tryz.func61 rfl trivial ?_ rfl
  simp only [Tryz.ntmps61, List.size_toArray, List.length_cons, List.length_nil, Nat.reduceAdd, Nat.reduceSub, Array.replicate_succ, Array.replicate_zero, List.push_toArray, List.append_toArray, List.nil_append, List.cons_append]
  gi_wp2_with (refine ⟨trivial, ?_⟩; gi_at_call 98; refine (backward_in Fence.wide 4 trivial rfl _ _ _ _).mono ?_; rintro e w' ⟨rfl, rfl⟩)
  have b0 := ((Boxed.new w 9 (.string ⟨#[]⟩)).alloc (.cells #[.int .i64 0] 25)).alloc (.cells #[.string (S z)] 9)
  have b1 := (Boxed.new (w.alloc (.cells #[.string ⟨#[]⟩] 9)) 25 (.int .i64 0)).alloc (.cells #[.string (S z)] 9)
  have b2 := Boxed.new ((w.alloc (.cells #[.string ⟨#[]⟩] 9)).alloc (.cells #[.int .i64 0] 25)) 9 (.string (S z))
  have hB0 : Below w.heap.size w (((w.alloc (.cells #[.string ⟨#[]⟩] 9)).alloc (.cells #[.int .i64 0] 25)).alloc (.cells #[.string (S z)] 9)) := (((Below.refl _ w).alloc (Nat.le_refl _) _).alloc (by simp) _).alloc (by simp; omega) _
  have hsz : (((w.alloc (.cells #[.string ⟨#[]⟩] 9)).alloc (.cells #[.int .i64 0] 25)).alloc (.cells #[.string (S z)] 9)).heap.size = w.heap.size + 1 + 1 + 1 := by simp
  simp only [World.size_alloc] at b1 b2
  generalize (((w.alloc (.cells #[.string ⟨#[]⟩] 9)).alloc (.cells #[.int .i64 0] 25)).alloc (.cells #[.string (S z)] 9)) = w3 at *
  have bN := Boxed.new w3 40 (.slice (some ⟨b, 0, none⟩) N cap)
  have HB0 := Lib.hid hB0; have HSZ := Lib.hid hsz
  clear hB0 hsz
  have hbw3 : b < w3.heap.size := by have := HSZ.out; omega
  have hB1 : Below w.heap.size w (w3.alloc (.cells #[.slice (some ⟨b, 0, none⟩) N cap] 40)) := HB0.out.alloc (by have := HSZ.out; omega) _
  have c0 := b0.alloc (.cells #[.slice (some ⟨b, 0, none⟩) N cap] 40)
  have c1 := b1.alloc (.cells #[.slice (some ⟨b, 0, none⟩) N cap] 40)
  have c2 := b2.alloc (.cells #[.slice (some ⟨b, 0, none⟩) N cap] 40)
  refine wpIn_rangeFunc_ownF (n := 5) rfl (by decide) (gf := 112) (lb := #[.pointer (some ⟨w.heap.size + 1 + 1 + 1, 0, none⟩)]) rfl trivial (enters_of Tryz.func112 (by kernel_rfl) rfl)
    (backward_stops Fence.wide 4 trivial rfl (by decide) (w.heap.size + 1 + 1 + 1) w.heap.size b cap xs (by have := HN.out; omega) hbw _ (by simp; have := HSZ.out; omega) (by simp; have := HSZ.out; omega) (by rw [HN.out, ← HSZ.out]; exact bN.cell) (fun j hj => by rw [hB1.cell (p := ⟨b, j, none⟩) hbw]; exact HC.out j (by have := HN.out; omega)))
    (fun h k => h.trans k) (Kq.putObj (w := w3.alloc (.cells #[.slice (some ⟨b, 0, none⟩) N cap] 40)) (by simp; have := HSZ.out; omega) (by simp; have := HSZ.out; omega)) (Below.refl _ _) (fun _ => by rfl)
    (NestI w xs z) (NestX w xs z)
    (OwnFrom.and (Own.from (fun s A B row hs hg hr => ⟨Nat.lt_of_lt_of_le hs.1 hg.size, hs.2.1, cell_kept hs.2.2.1 hg hr, (frozen_kept hs.2.2.1 hg hr).trans hs.2.2.2.1, cell_kept hs.2.2.2.2.1 hg hr, (frozen_kept hs.2.2.2.2.1 hg hr).trans hs.2.2.2.2.2.1, cell_kept hs.2.2.2.2.2.2.1 hg hr, (frozen_kept hs.2.2.2.2.2.2.1 hg hr).trans hs.2.2.2.2.2.2.2⟩) _) (ownFrom_below (Nat.le_refl _) (by simp; have := HSZ.out; omega)))
    (fun c => OwnFrom.and (Own.from (fun s A B row hs hg hr => ⟨hs.1, hs.2.1, cell_kept hs.2.2.1 hg hr, cell_kept hs.2.2.2 hg hr⟩) _) (ownFrom_below (Nat.le_refl _) (by simp; have := HSZ.out; omega)))
    ⟨⟨by simp; have := HSZ.out; omega, hz, c0.cell, c0.frozen, c1.cell, c1.frozen, c2.cell, c2.frozen⟩, hB1⟩
    (fun k => { tmps := #[.slice (some ⟨b, 0, none⟩) (N + 1) cap, undef, .pointer (some ⟨w.heap.size, 0, none⟩), .pointer (some ⟨w.heap.size + 1, 0, none⟩), .int .i64 N, .pointer (some ⟨w.heap.size + 1 + 1, 0, none⟩), undef, .string (S (xs[xs.length - 1 - k]?.getD [48])), undef, undef, .slice (some ⟨b, 0, none⟩) (N + 1) cap, .int .i64 (N + 1), .int .i64 N, .slice (some ⟨b, 0, none⟩) (N + 1) cap, .int .i64 N, .pointer (some ⟨b, N, none⟩), .string (S z), .slice (some ⟨b, 0, none⟩) (N + 1) cap, .int .i64 N, .slice (some ⟨b, 0, none⟩) N cap, .func (.func 112) #[] #[.pointer (some ⟨w.heap.size + 1 + 1 + 1, 0, none⟩)], .int .i64 ((xs.length : Int) - 1 - k), .string (S (xs[xs.length - 1 - k]?.getD [48])), undef, undef, undef, undef, undef, undef, undef, undef, undef, undef, undef], defers := [] }) ?assign ?body ?done ?stop
  case assign =>
    intro l x W K hK
    simp only [bwE]
    gi_wp2
    exact hK
  case body =>
    rintro l pre x W ⟨⟨hWz, hv, g0, f0, g1, f1, g2, f2⟩, hB⟩ _
    have hx : vld (xs[xs.length - 1 - x]?.getD [48]) = true := by
      rcases Nat.lt_or_ge (xs.length - 1 - x) xs.length with h | h
      · rw [List.getElem?_eq_getElem h]; exact HV.out _ (List.getElem_mem h)
      · rw [List.getElem?_eq_none h]; decide
    by_cases hs : (pr (xs[xs.length - 1 - x]?.getD [48]) (fld xs z pre)).length ≤ 2000000
    · have H := Lib.hid (fun W => Cons_ok _ _ W hx hv hs)
      have HP := Lib.hid (vld_pr hx hv hs)
      clear hx hs
      gi_wp2_with fail
      refine ⟨trivial, ?_⟩
      refine (CallsIn.inRound l (callsIn_wide.2 (H.out _))).mono ?_
      rintro e w4 ⟨rfl, h4⟩
      have k0 := (h4.cell (p := ⟨w.heap.size, 0, none⟩) (by show w.heap.size < _; omega)).trans g0
      have j0 := (h4.frozen (p := ⟨w.heap.size, 0, none⟩) (by show w.heap.size < _; omega)).trans f0
      have k1 := (h4.cell (p := ⟨w.heap.size + 1, 0, none⟩) (by show w.heap.size + 1 < _; omega)).trans g1
      have j1 := (h4.frozen (p := ⟨w.heap.size + 1, 0, none⟩) (by show w.heap.size + 1 < _; omega)).trans f1
      have k2 := (h4.cell (p := ⟨w.heap.size + 1 + 1, 0, none⟩) (by show w.heap.size + 1 + 1 < _; omega)).trans g2
      have j2 := (h4.frozen (p := ⟨w.heap.size + 1 + 1, 0, none⟩) (by show w.heap.size + 1 + 1 < _; omega)).trans f2
      gi_wp2
      refine ⟨(keepsOthers_below h4).trans (KeepsOthers.setCell _ _ _), (Kq.below h4 (by omega) (by omega)).trans (Kq.set (by omega) (by omega)), ⟨by have := h4.size; simp; omega, by rw [fld_snoc]; exact HP.out, ?_, ?_, ?_, ?_, ?_, ?_⟩, (hB.trans (h4.mono (by omega))).setCell (by simp; omega) _⟩
      · exact set_cell (by omega) k0
      · rw [World.frozen?_setCell]; exact j0
      · exact set_cell (by omega) k1
      · rw [World.frozen?_setCell]; exact j1
      · rw [fld_snoc]; exact World.cell?_setCell_same' _ _ _ (by rw [k2]; rfl)
      · rw [World.frozen?_setCell]; exact j2
    · have H := Lib.hid (fun W => Cons_big _ _ W hx hv (by omega))
      clear hx
      have HS := Lib.hid hs; clear hs
      gi_wp2_with fail
      refine ⟨trivial, ?_⟩
      refine (CallsIn.inRound l (callsIn_wide.2 (H.out _))).mono ?_
      rintro e w4 ⟨rfl, h4⟩
      have k0 := (h4.cell (p := ⟨w.heap.size, 0, none⟩) (by show w.heap.size < _; omega)).trans g0
      have j0 := (h4.frozen (p := ⟨w.heap.size, 0, none⟩) (by show w.heap.size < _; omega)).trans f0
      have k1 := (h4.cell (p := ⟨w.heap.size + 1, 0, none⟩) (by show w.heap.size + 1 < _; omega)).trans g1
      have j1 := (h4.frozen (p := ⟨w.heap.size + 1, 0, none⟩) (by show w.heap.size + 1 < _; omega)).trans f1
      have k2 := (h4.cell (p := ⟨w.heap.size + 1 + 1, 0, none⟩) (by show w.heap.size + 1 + 1 < _; omega)).trans g2
      have j2 := (h4.frozen (p := ⟨w.heap.size + 1 + 1, 0, none⟩) (by show w.heap.size + 1 + 1 < _; omega)).trans f2
      gi_wp2
      refine ⟨((keepsOthers_below h4).trans (KeepsOthers.setCell _ _ _)).trans (KeepsOthers.setCell _ _ _), ⟨rfl, by rw [fld_snoc]; have := HS.out; omega, set_cell (by omega) (World.cell?_setCell_same' _ _ _ (by rw [k0]; rfl)), World.cell?_setCell_same' _ _ _ (by rw [set_cell (by omega) k1]; rfl)⟩, ((hB.trans (h4.mono (by omega))).setCell (by simp) _).setCell (by simp) _⟩
  case done =>
    rintro D ys W hD rfl ⟨⟨hWz, hv, g0, f0, g1, f1, g2, f2⟩, hB⟩ hK
    gi_wp2
    have hK1 := ((KeepsOthers.setCell W ⟨w.heap.size, 0, none⟩ (.string (S (fld xs z (List.range xs.length))))).trans (KeepsOthers.setCell _ ⟨w.heap.size + 1, 0, none⟩ (.int .i64 0))).same D _ hK rfl
    refine ⟨by simp, .inl ⟨_, _, rfl, run_takeDeferred hK1, ?_⟩⟩
    have q1 := World.cell?_setCell_same' (W.setCell ⟨w.heap.size, 0, none⟩ (.string (S (fld xs z (List.range xs.length))))) ⟨w.heap.size + 1, 0, none⟩ (.int .i64 0) (by rw [set_cell (by omega) g1]; rfl)
    have q0 : ((W.setCell ⟨w.heap.size, 0, none⟩ (.string (S (fld xs z (List.range xs.length))))).setCell ⟨w.heap.size + 1, 0, none⟩ (.int .i64 0)).cell? ⟨w.heap.size, 0, none⟩ = some (.string (S (fld xs z (List.range xs.length)))) := set_cell (by omega) (World.cell?_setCell_same' _ _ _ (by rw [g0]; rfl))
    have p0 := cell_kept q0 (grownBy_putObj' _ D (.deferred none)) (fun r e => by cases e; exact ⟨_, hK1, rfl⟩)
    have p1 := cell_kept q1 (grownBy_putObj' _ D (.deferred none)) (fun r e => by cases e; exact ⟨_, hK1, rfl⟩)
    refine ⟨.tuple #[.string (S (fld xs z (List.range xs.length))), .int .i64 0], by simp [results, Tryz.f61, go_sem, p0, p1], ?_, ?_⟩
    · rw [← fld_all]
      exact .inl ⟨(vld_iff.1 hv).1, rfl⟩
    · exact ((hB.setCell (p := ⟨w.heap.size, 0, none⟩) (Nat.le_refl _) _).setCell (p := ⟨w.heap.size + 1, 0, none⟩) (by show w.heap.size ≤ w.heap.size + 1; omega) _).trans (belowK_b (w := w) (Nat.le_refl _) _ D _ _ (by simp at hD; have := HSZ.out; omega) hK1 rfl rfl)
  case stop =>
    rintro D c pre W hD ⟨k, hk, rfl⟩ ⟨⟨rfl, hs, g0, g1⟩, hB⟩ hK
    gi_wp2
    refine ⟨by simp, .inl ⟨_, _, rfl, run_takeDeferred hK, ?_⟩⟩
    have p0 := cell_kept g0 (grownBy_putObj' _ D (.deferred none)) (fun r e => by cases e; exact ⟨_, hK, rfl⟩)
    have p1 := cell_kept g1 (grownBy_putObj' _ D (.deferred none)) (fun r e => by cases e; exact ⟨_, hK, rfl⟩)
    refine ⟨.tuple #[.string (S []), .int .i64 3], by simp [results, Tryz.f61, go_sem, p0, p1], .inr ⟨?_, rfl⟩, hB.trans (belowK_b (w := w) (Nat.le_refl _) W D _ _ (by simp at hD; have := HSZ.out; omega) hK rfl rfl)⟩
    rw [fld_range xs z k hk] at hs
    exact Nat.lt_of_lt_of_le hs (nestL_drop_le xs z _)
end Go.Proofs.YtlfoigkpfooopaaGreatDoor
