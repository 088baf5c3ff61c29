/- narcissustop: play, returns, lasts, composes. By an AI agent. -/
import Derived.Test.YtmhoacnbmbhcjabTopE
import Derived.Test.YtmhoacnbmbhcjabTopM
import Derived.Test.YtmhoacnbmbhcjabBld4
namespace Go.Proofs.Ytmhoacnbmbhcjab
open Go.RowKit Pl

set_option maxHeartbeats 3200000 in
set_option maxRecDepth 100000 in
theorem follow_none (w : World) (a : Option Addr) (cap K : Nat) (x : Tr) (X : Option Addr) (hx : NodeW 106 w x (.pointer X)) (hxl : (tx x).length ≤ 2000000) :
    Calls Try.prog 82 #[.slice a 0 cap, .pointer X, .int .i64 (K : Int)] w (FollowOut w [] x K) := by
  obtain ⟨i0, hi, hz0, hz1, hz2⟩ := info_parts Try.infoTCell
  have HX0 := Lib.hid hx; have HXL := Lib.hid hxl
  generalize hQ : FollowOut w [] x K = Q at *
  have HQ := Lib.hid hQ
  clear hx hQ
  have HR1 : Hid ((w.alloc (.cells nil32 133)).heap[w.heap.size]? = some (.cells nil32 133 (0, 0))) := Lib.hid (heap_alloc_new w _)
  have HB1 : Hid (Below w.heap.size w (w.alloc (.cells nil32 133))) := Lib.hid (alloc_below w _)
  have HZ1 : Hid ((w.alloc (.cells nil32 133)).heap.size = w.heap.size + 1) := Lib.hid (by simp)
  go_enter Try.func82, Try.ntmps82
  go_wp2_with (at_make; refine wpList_make_full _ rfl _ _ 100 rfl (w.heap.size + 1) 65 i0 (.pointer none) 1 Try.underlying100 hi hz0 hz1 .i64 .i64 _ _ 0 rfl rfl rfl rfl (by rw [hz2]; omega) (by unfold maxLen; omega) (by simp) ?_)
  intro w2 hown hgrow
  change (w.alloc (.cells nil32 133)).grownBy w2 none at hgrow
  have HR2 : Hid (w2.heap[w.heap.size]? = some (.cells nil32 133 (0, 0))) := Lib.hid ((hgrow.block w.heap.size (by rw [HZ1.out]; omega) (by simp)).trans HR1.out)
  have HB2 : Hid (Below w.heap.size w w2) := Lib.hid (HB1.out.grown hgrow (by rw [HZ1.out]; omega) (by simp))
  clear hown hgrow HR1 HB1 HZ1 hi hz0 hz1 hz2
  go_wp2_with fail
  go_loopw [12] (fun i wr => i = .int .i64 0 ∧ wr = w2) (fun _ _ => 0)
  case atStart => exact ⟨rfl, rfl⟩
  case round =>
    obtain ⟨rfl, rfl⟩ := hrel
    have hX1 : NodeW 106 wr x (.pointer X) := NodeW.below HX0.out HB2.out
    have hB3 : Below w.heap.size w (wr.setCell ⟨w.heap.size, 0, none⟩ (.pointer X)) := HB2.out.setCell (p := ⟨w.heap.size, 0, none⟩) (Nat.le_refl _) _
    have HB3 := Lib.hid hB3
    have cR : wr.cell? ⟨w.heap.size, 0, none⟩ = some (.pointer none) := Lib.cell_of_heap HR2.out 0
    have fR : wr.frozen? ⟨w.heap.size, 0, none⟩ = false := Lib.frozen_of_heap HR2.out 0
    have HCX : Hid ((wr.setCell ⟨w.heap.size, 0, none⟩ (.pointer X)).cell? ⟨w.heap.size, 0, none⟩ = some (.pointer X)) := Lib.hid (set_same cR)
    have HNX : Hid (NodeW 106 (wr.setCell ⟨w.heap.size, 0, none⟩ (.pointer X)) x (.pointer X)) := Lib.hid (NodeW.keep hX1 (KeepT.setCell (TagB.ne ⟨_, (), HR2.out⟩ (by decide)) _))
    have HTS := Lib.hid (fun W h => tsize_any W x (.pointer X) h)
    have hl : ((tx x).length : Int) ≤ 2000000 := by omega
    have hl0 : (0 : Int) ≤ ((tx x).length : Int) := by omega
    have HT31 := Lib.hid (tot_first x)
    generalize hq : (tx x).length = q at *
    clear hX1 hB3 hq
    go_wp2_with fail
    refine (HTS.out _ HNX.out).mono ?_
    rintro e w4 ⟨rfl, rfl⟩
    generalize wr.setCell ⟨w.heap.size, 0, none⟩ (.pointer X) = w4 at *
    clear cR fR
    go_wp2_with fail
    go_loopw [13, 14, 15, 16] (fun sat sall smost sk w5 => sat = .int .i64 0 ∧ sall = .int .i64 ((q : Int) + 31) ∧ smost = .int .i64 ((q : Int) + 31) ∧ sk = .int .i64 0 ∧ w5 = w4) (fun _ _ _ _ _ => 0)
    case atStart => exact ⟨rfl, by congr 1 <;> omega, by congr 1 <;> omega, rfl, rfl⟩
    case round =>
      obtain ⟨rfl, rfl, rfl, rfl, rfl⟩ := hrel
      have c0 := HCX.out
      have HE : Hid ((tot (first x) : Int) = (q : Int) + 31) := Lib.hid (by rw [HT31.out]; push_cast; rfl)
      go_wp2_with fail
      exact bodyPost_ret (v := .tuple #[.pointer X, .int .i64 0, .int .i64 0, .int .i64 ((q : Int) + 31)]) (by simp [results, Try.f82, go_sem]) rfl (by rw [← HQ.out]; exact ⟨HB3.out, .inl ⟨0, first x, (q : Int) + 31, X, by rw [← HE.out]; exact .zero, Nat.zero_le _, rfl, rfl, HNX.out⟩⟩)
theorem follow_any (w : World) (v : Value) (K : Nat) (ps : List Ins) (x : Tr) (X : Option Addr) (h : ArgP w v ps) (hv : PValid ps) (hx : NodeW 106 w x (.pointer X)) (hxl : (tx x).length ≤ 2000000) (hK : K ≤ 10000000) :
    Calls Try.prog 82 #[v, .pointer X, .int .i64 (K : Int)] w (FollowOut w ps x K) := by
  rcases h with ⟨rfl, h⟩ | ⟨h0, b, off, cap, rfl, hc⟩
  · obtain ⟨a, cap, rfl⟩ := empty_arg h
    exact follow_none w a cap K x X hx hxl
  · exact follow_some w b off cap K ps x X hc h0 hv hx hxl hK
/-- what play returns -/
def PlayOut (w : World) (ps : List Ins) (x : Tr) (K : Nat) (e : Ending) (w' : World) : Prop :=
  Below w.heap.size w w' ∧
  ((∃ y n Y, out ps K (first x) = .ok y n ∧ n ≤ K ∧ (tx y).length ≤ 2000000 ∧ e = .returned (.tuple #[.pointer Y, .int .i64 (n : Int), .int .i64 0]) ∧ NodeW 106 w' y (.pointer Y)) ∨
   (out ps K (first x) = .fuel ∧ e = .returned (.tuple #[.pointer none, .int .i64 (K : Int), .int .i64 1])) ∨
   (∃ n : Nat, out ps K (first x) = .size ∧ n < K ∧ e = .returned (.tuple #[.pointer none, .int .i64 (n : Int), .int .i64 2])))
set_option maxHeartbeats 1600000 in
set_option maxRecDepth 100000 in
theorem play_any (w : World) (v : Value) (K : Nat) (ps : List Ins) (x : Tr) (X : Option Addr) (h : ArgP w v ps) (hv : PValid ps) (hx : NodeW 106 w x (.pointer X)) (hxl : (tx x).length ≤ 2000000) (hK : K ≤ 10000000) :
    Calls Try.prog 45 #[v, .pointer X, .int .i64 (K : Int)] w (PlayOut w ps x K) := by
  have HF := Lib.hid (follow_any w v K ps x X h hv hx hxl hK)
  have HOK := Lib.hid (fun (n : Nat) (s : St) (hs : Steps ps (first x) n s) => St.reg_le (hs.ok hv (first_ok ps.length hxl)) 0)
  clear h hv hx hxl hK
  generalize hQ : PlayOut w ps x K = Q at *
  have HQ := Lib.hid hQ
  clear hQ
  go_enter Try.func45, Try.ntmps45
  go_wp2_with fail
  refine HF.out.mono ?_
  rintro e w1 ⟨hb, ⟨n, s, m, Y, hp, hn, he, rfl, hY⟩ | ⟨s, m, hp, he, rfl⟩ | ⟨n, s, m, hp, hn, he, hst, rfl⟩⟩
  · have H : Hid (PlayOut w ps x K (.returned (.tuple #[.pointer Y, .int .i64 (n : Int), .int .i64 0])) w1) := Lib.hid ⟨hb, .inl ⟨s.reg 0, n, Y, out_end hp.steps hn he, hn, HOK.out _ _ hp.steps, rfl, hY⟩⟩
    clear hb hp hn he hY
    go_wp2
    go_ret3
    rw [← HQ.out]; exact H.out
  · have H : Hid (PlayOut w ps x K (.returned (.tuple #[.pointer none, .int .i64 (K : Int), .int .i64 1])) w1) := Lib.hid ⟨hb, .inr (.inl ⟨out_fuel hp.steps he, rfl⟩)⟩
    clear hb hp he
    go_wp2
    go_ret3
    rw [← HQ.out]; exact H.out
  · have H : Hid (PlayOut w ps x K (.returned (.tuple #[.pointer none, .int .i64 (n : Int), .int .i64 2])) w1) := Lib.hid ⟨hb, .inr (.inr ⟨n, out_large hp.steps hn he hst, hn, rfl⟩)⟩
    clear hb hp hn he hst
    go_wp2
    go_ret3
    rw [← HQ.out]; exact H.out
theorem pvalid_trees {ps : List Ins} (hv : PValid ps) : ∀ x ∈ ps, x.tree.length ≤ 281474976710656 := fun x hx => by
  have := PV_tree_le hv hx; omega
set_option maxHeartbeats 1600000 in
set_option maxRecDepth 100000 in
theorem returns_ok (w : World) (v : Value) (K : Nat) (ps : List Ins) (x y : Tr) (X Y : Option Addr) (h : ArgP w v ps) (hv : PValid ps) (hx : NodeW 106 w x (.pointer X)) (hy : NodeW 106 w y (.pointer Y)) (hxl : (tx x).length ≤ 2000000) (hK : K ≤ 10000000) (ho : out ps K (first x) = .ok y K) :
    Calls Try.prog 48 #[v, .int .i64 0, .pointer X, .pointer Y, .int .i64 (K : Int)] w fun e w' => e = .returned (.bool true) ∧ Below w.heap.size w w' := by
  have HW := Lib.hid (whole_arg w v ps true h (pvalid_trees hv) (by simp [hv]))
  have HP := Lib.hid (fun W h hx => play_any W v K ps x X h hv hx hxl hK)
  have HA := Lib.hid h; have HX := Lib.hid hx; have HY := Lib.hid hy; have HO := Lib.hid ho
  clear h hv hx hy hxl hK ho
  go_enter Try.func48, Try.ntmps48
  go_wp2_with fail
  refine HW.out.mono ?_
  rintro e w1 ⟨rfl, h1⟩
  have HB1 := Lib.hid h1
  clear h1
  go_wp2_with fail
  refine (HP.out _ (HA.out.below HB1.out) (NodeW.below HX.out HB1.out)).mono ?_
  rintro e w2 ⟨h2, ⟨z, n, Z, hz, hn, hzl, rfl, hZ⟩ | ⟨hz, _⟩ | ⟨_, hz, _⟩⟩
  · rw [HO.out] at hz
    injection hz with e1 e2
    subst e1; subst e2
    have HB2 := Lib.hid (bstep HB1.out h2)
    have HE := Lib.hid (fun W h1 h2 => tequal_any W y y (.pointer Z) (.pointer Y) true h1 h2 hzl hzl (by simp))
    have HZ := Lib.hid hZ; have HY2 := Lib.hid (NodeW.below HY.out HB2.out)
    clear hn hzl hZ h2
    go_wp2_with fail
    refine (HE.out _ HZ.out HY2.out).mono ?_
    rintro e w3 ⟨rfl, h3⟩
    have HB3 := Lib.hid (bstep HB2.out h3)
    clear h3
    go_wp2_with fail
    go_ret
    exact ⟨rfl, HB3.out⟩
  · rw [HO.out] at hz; cases hz
  · rw [HO.out] at hz; cases hz
set_option maxHeartbeats 1600000 in
set_option maxRecDepth 100000 in
theorem lasts_ok (w : World) (v : Value) (K : Nat) (ps : List Ins) (x : Tr) (X : Option Addr) (h : ArgP w v ps) (hv : PValid ps) (hx : NodeW 106 w x (.pointer X)) (hxl : (tx x).length ≤ 2000000) (hK : K ≤ 10000000) (ho : out ps K (first x) = .fuel) :
    Calls Try.prog 46 #[v, .int .i64 0, .pointer X, .int .i64 (K : Int)] w fun e w' => e = .returned (.bool true) ∧ Below w.heap.size w w' := by
  have HW := Lib.hid (whole_arg w v ps true h (pvalid_trees hv) (by simp [hv]))
  have HP := Lib.hid (fun W h hx => play_any W v K ps x X h hv hx hxl hK)
  have HA := Lib.hid h; have HX := Lib.hid hx; have HO := Lib.hid ho
  clear h hv hx hxl hK ho
  go_enter Try.func46, Try.ntmps46
  go_wp2_with fail
  refine HW.out.mono ?_
  rintro e w1 ⟨rfl, h1⟩
  have HB1 := Lib.hid h1
  clear h1
  go_wp2_with fail
  refine (HP.out _ (HA.out.below HB1.out) (NodeW.below HX.out HB1.out)).mono ?_
  rintro e w2 ⟨h2, ⟨z, n, Z, hz, hn, hzl, rfl, hZ⟩ | ⟨hz, rfl⟩ | ⟨_, hz, _⟩⟩
  · rw [HO.out] at hz; cases hz
  · have HB2 := Lib.hid (bstep HB1.out h2)
    clear hz h2
    go_wp2_with fail
    go_ret
    exact ⟨rfl, HB2.out⟩
  · rw [HO.out] at hz; cases hz
set_option maxHeartbeats 400000 in
set_option maxRecDepth 100000 in
theorem ttail_any (w : World) : Calls Try.prog 81 #[] w fun e w' => e = .returned (.slice (some ⟨w.heap.size, 0, none⟩) 1 1) ∧ w' = w.alloc (.cells (progV pTail).toArray 39) := by
  go_enter Try.func81, Try.ntmps81
  go_wp2
  go_ret
  exact ⟨rfl, rfl⟩
theorem out_tail (K : Nat) (t : Tr) : out pTail (K + 1) (first t) = .ok (tlT t) 1 := by
  have h : Steps pTail (first t) 1 ((first t).put 0 (tlT t)) := .succ .zero (Nat.zero_ne_one) rfl
  rw [out_end h (by omega) rfl]; rfl
def t10 : Tr := .pair .nil (.pair .nil (.pair .nil .nil))
theorem ex_composes : out (thenL [pTail, pTail]) 2 (first t10) = .ok (.pair .nil .nil) 2 := by
  have h := then_end (x := t10) (F := 1) pTail_valid pTail_valid (by decide) (out_tail 0 _) (out_tail 0 _)
  exact h
theorem then_valid2 : PValid (thenL [pTail, pTail]) := (fits_valid (allR_then (by intro p hp; simp at hp; subst hp; exact pTail_valid))).2 ⟨by decide, by decide⟩
set_option maxHeartbeats 1600000 in
set_option maxRecDepth 100000 in
theorem composes_any (w : World) : Calls Try.prog 43 #[] w fun e w' => e = .returned (.bool true) ∧ Below w.heap.size w w' := by
  have HG1 := Lib.hid (fun W => grow_any [49, 48, 49, 48, 49, 48, 48] 10 W (by decide) (by omega))
  have HG2 := Lib.hid (fun W => grow_any [49, 48, 48] 10 W (by decide) (by omega))
  have HTH := Lib.hid (fun W b cap h => Then_some W b 0 cap [pTail, pTail] h (by decide) (by intro p hp; simp at hp; subst hp; exact ⟨by decide, by simp [pTail]⟩))
  rw [show dueP [pTail, pTail] (thenL [pTail, pTail]) = 0 from by
    unfold dueP
    rw [if_neg (by rintro ⟨p, hp, hn⟩; simp at hp; subst hp; exact hn pTail_valid), if_neg (by rintro ⟨p, hp, hn⟩; simp at hp; subst hp; exact absurd hn (by decide)), if_pos ⟨by decide, by decide⟩]] at HTH
  go_enter Try.func43, Try.ntmps43
  go_wp2_with fail
  refine (ttail_any _).mono ?_
  rintro e w1 ⟨rfl, rfl⟩
  have A1 := Lib.hid (lit_prog w pTail (by decide))
  have B1 := Lib.hid (alloc_below w (.cells (progV pTail).toArray 39))
  generalize w.alloc (.cells (progV pTail).toArray 39) = w1 at *
  go_wp2_with fail
  refine (ttail_any _).mono ?_
  rintro e w2 ⟨rfl, rfl⟩
  have A2 := Lib.hid (lit_prog w1 pTail (by decide))
  have hb2 := alloc_below w1 (.cells (progV pTail).toArray 39)
  have A12 := Lib.hid (A1.out.below hb2)
  have B2 := Lib.hid (bstep B1.out hb2)
  clear hb2
  generalize w1.alloc (.cells (progV pTail).toArray 39) = w2 at *
  have L3 := Lib.hid (lit_pieces w2 [.slice (some ⟨w.heap.size, 0, none⟩) 1 1, .slice (some ⟨w1.heap.size, 0, none⟩) 1 1] [pTail, pTail] ⟨A12.out, A2.out, trivial⟩)
  have B3 := Lib.hid (bstep B2.out (alloc_below w2 (.cells #[.slice (some ⟨w.heap.size, 0, none⟩) 1 1, .slice (some ⟨w1.heap.size, 0, none⟩) 1 1] 23)))
  go_wp2_with fail
  refine (HTH.out _ _ 2 L3.out).mono ?_
  rintro e w4 ⟨h4, ⟨_, v4, rfl, ha4⟩ | ⟨h0, _⟩⟩
  rotate_left
  · exact absurd rfl h0
  have A4 := Lib.hid ha4
  have B4 := Lib.hid (bstep B3.out h4)
  clear ha4 h4
  go_wp2_with fail
  refine (HG1.out _).mono ?_
  rintro e w5 ⟨h5, ⟨t5, v5, ht5, rfl, hn5⟩ | ⟨hno, _⟩⟩
  rotate_left
  · exact absurd ⟨t10, rfl⟩ hno
  obtain rfl : t5 = t10 := tx_inj (by rw [ht5]; rfl)
  obtain ⟨V5, rfl⟩ := hn5.one
  have N5 := Lib.hid hn5; have B5 := Lib.hid (bstep B4.out h5); have A5 := Lib.hid (A4.out.below h5)
  clear hn5 h5 ht5
  go_wp2_with fail
  refine (HG2.out _).mono ?_
  rintro e w6 ⟨h6, ⟨t6, v6, ht6, rfl, hn6⟩ | ⟨hno, _⟩⟩
  rotate_left
  · exact absurd ⟨.pair .nil .nil, rfl⟩ hno
  obtain rfl : t6 = .pair .nil .nil := tx_inj (by rw [ht6]; rfl)
  obtain ⟨V6, rfl⟩ := hn6.one
  have N6 := Lib.hid hn6; have B6 := Lib.hid (bstep B5.out h6); have A6 := Lib.hid (A5.out.below h6)
  have N56 := Lib.hid (NodeW.below N5.out h6)
  clear hn6 h6 ht6
  go_wp2_with fail
  refine (returns_ok _ _ 2 _ t10 (.pair .nil .nil) V5 V6 A6.out then_valid2 N56.out N6.out (by decide) (by decide) ex_composes).mono ?_
  rintro e w7 ⟨rfl, h7⟩
  have B7 := Lib.hid (bstep B6.out h7)
  clear h7
  go_wp2_with fail
  go_ret
  exact ⟨rfl, B7.out⟩
end Go.Proofs.Ytmhoacnbmbhcjab
