/- The contract of Depth (package tree). By an AI agent. -/
import Derived.Test.YtkodkimdhalpcaaLawA
import Derived.Test.YtkodkimdhalpcaaMathC
import Derived.Lib.OthersKept
namespace Go.Proofs.Ytkodkimdhalpcaa
open Go.RowKit Pl

theorem Try.infoInt : (Try.prog.info? 3).map (fun i => (i.zero, i.size, i.bytes)) = some (some (.int .i64 0), 1, 8) := by kernel_rfl
/-- a stack, its top first, as cells -/
def cellsOf (l : List Nat) : List Value := l.reverse.map fun (x : Nat) => Value.int .i64 (x : Int)
theorem cellsOf_len (l : List Nat) : (cellsOf l).length = l.length := by simp [cellsOf]
theorem cellsOf_cons (x : Nat) (l : List Nat) : cellsOf (x :: l) = cellsOf l ++ [.int .i64 (x : Int)] := by simp [cellsOf]
theorem own_iter {w : World} {k base n : Nat} {e : TypeId} {size : Nat} {v : Value} {xs : List Value} {s : ByteArray} {p : Nat} (h : w.ownsRow base e size v n xs) (hk : k < base) : (w.iterAt k s p).ownsRow base e size v n xs := by
  refine ⟨h.1, ?_⟩
  rcases h.2 with h0 | ⟨g, cap, cur, hv, hb, hg, rest⟩
  · exact Or.inl h0
  · exact Or.inr ⟨g, cap, cur, hv, hb, (Lib.iterAt_other w k g s p (by omega)).trans hg, rest⟩
/-- a stack: empty, or its cells are known, and it can be cut by its top -/
theorem own_stack {w : World} {base : Nat} {e : TypeId} {v : Value} {l : List Nat} (h : w.ownsRow base e 1 v l.length (cellsOf l)) :
    (v = .slice none 0 0 ∧ l = []) ∨ ∃ g cap, v = .slice (some ⟨g, 0, none⟩) l.length cap ∧ l.length ≤ cap ∧ ∀ x r, l = x :: r → w.cell? ⟨g, r.length, none⟩ = some (.int .i64 (x : Int)) ∧ w.ownsRow base e 1 (.slice (some ⟨g, 0, none⟩) r.length cap) r.length (cellsOf r) := by
  rcases h.2 with ⟨h1, h2⟩ | ⟨g, cap, cur, rfl, hb, hg, hle, hm, hs, ht⟩
  · exact Or.inl ⟨h1, List.length_eq_zero_iff.1 h2⟩
  · refine Or.inr ⟨g, cap, rfl, hle, ?_⟩
    rintro x r rfl
    constructor
    · rw [h.cellAt r.length (by simp), cellsOf_cons, List.getElem?_append_right (by rw [cellsOf_len]; exact Nat.le_refl _), cellsOf_len]
      simp
    · refine ⟨by rw [cellsOf_len]; simp, Or.inr ⟨g, cap, cur, rfl, hb, hg, by simp only [List.length_cons] at hle; omega, hm, hs, ?_⟩⟩
      have h3 := congrArg (List.take (r.length * 1)) ht
      rw [List.take_take, cellsOf_cons] at h3
      rw [show min (r.length * 1) ((x :: r).length * 1) = r.length * 1 from by simp only [List.length_cons]; omega] at h3
      rw [h3]
      simp [cellsOf_len]

theorem next_lit_at (w : World) (k : Nat) (s : ByteArray) (pos : Nat) (ty : TypeId) (hk : w.heap[k]? = some (.stringIter s pos)) (h : pos < s.size) (n : Nat) (hn : n < 128) (c : UInt8) (hc : s[pos] = c) (hcn : c.toNat = n) :
    (Instr.next (.pointer (some ⟨k, 0, none⟩)) true ty).run Try.prog w = .ok (.tuple #[.bool true, .int .i64 pos, .int .i32 n]) (w.iterAt k s (pos + 1)) := by
  have := Lib.run_next_ascii_at (P := Try.prog) w k s pos ty hk h (by rw [hc]; omega)
  rw [this, hc, hcn]
set_option maxHeartbeats 1600000 in
set_option maxRecDepth 100000 in
theorem Depth_yes (s : ByteArray) (w : World) (hv : vld s.data.toList = true) :
    Calls Try.prog 14 #[.string s] w fun e w' => e = .returned (.tuple #[.int .i64 (dep s.data.toList), .int .i64 0]) ∧ Below w.heap.size w w' := by
  obtain ⟨i0, hi, hz0, hz1, hz2⟩ := info_parts Try.infoInt
  have hs := vld_size hv
  have HS := Lib.hid (DRel.start (vld_iff.1 hv).2)
  have HV := Lib.hid hv; clear hv
  go_enter Try.func14, Try.ntmps14
  go_wp2_with (go_at_call 17; refine (Valid_is true s _ (by omega) HV.out).mono ?_; rintro e w0 ⟨rfl, hb0⟩)
  go_loopw [4, 5, 6] (fun d l v wr => ∃ (pos cur level : Nat) (tails : List Nat), d = .int .i64 cur ∧ l = .int .i64 level ∧ wr.heap[w0.heap.size]? = some (.stringIter s pos) ∧ pos ≤ s.size ∧ wr.ownsRow (w0.heap.size + 1) 3 1 v tails.length (cellsOf tails) ∧ Below w0.heap.size w0 wr ∧ DRel s.data.toList pos cur level tails ∧ cur ≤ pos ∧ level ≤ pos ∧ tails.length ≤ pos) (fun _ _ _ wr => s.size - wr.iterPos w0.heap.size)
  case atStart => exact ⟨0, 0, 0, [], rfl, rfl, World.iter_heap w0 s 0, Nat.zero_le _, World.ownsRow_nil _ _ _ _, (Below.refl _ w0).alloc (Nat.le_refl _) _, HS.out, by omega, by omega, by simp⟩
  case round =>
    obtain ⟨pos, cur, level, tails, rfl, rfl, hit, hps, hown, hbw, hD, hb1, hb2, hb3⟩ := hrel
    have hsz : w0.heap.size < wr.heap.size := (Array.getElem?_eq_some_iff.1 hit).1
    by_cases hp : pos < s.size
    · obtain ⟨hl, hg⟩ := at_list s pos hp
      have own2 := own_iter (s := s) (p := pos + 1) hown (Nat.lt_succ_self _)
      have hit2 := Lib.iterAt_heap wr w0.heap.size s pos (pos + 1) hit
      have hbw2 := Lib.below_iterAt hbw (k := w0.heap.size) (Nat.le_refl _) s (pos + 1)
      have hsz2 : w0.heap.size < (wr.iterAt w0.heap.size s (pos + 1)).heap.size := by rw [Lib.iterAt_size]; exact hsz
      rcases hD.byte hl with hc | hc
      · have HIP := Lib.hid (show wr.iterPos w0.heap.size = pos by simp only [World.iterPos, hit])
        have HIP4 := Lib.hid (show (wr.iterAt w0.heap.size s (pos + 1)).iterPos w0.heap.size = pos + 1 by simp only [World.iterPos, hit2])
        match tails, hD, own2, hb3 with
        | [], hD, own2, hb3 =>
          have hD2 := hD.last hl hc
          rw [hg] at hc
          have hnx : ∀ ty, (Instr.next (.pointer (some ⟨w0.heap.size, 0, none⟩)) true ty).run Try.prog wr = _ := fun ty => next_lit_at wr w0.heap.size s pos ty hit hp 48 (by omega) 48 hc rfl
          generalize wr.iterAt w0.heap.size s (pos + 1) = w2 at *
          have HIT := Lib.hid hit2; have HO := Lib.hid own2
          clear hc hg hD hown hit hbw hit2
          rcases own_stack own2 with ⟨rfl, _⟩ | ⟨g, cap, rfl, hcap, _⟩
          · clear own2
            go_wp2
            go_roundw
            case rel => exact ⟨pos + 1, cur, level, [], rfl, rfl, HIT.out, by omega, HO.out, hbw2, hD2, by omega, by omega, by simp⟩
            case measure => rw [HIP4.out, HIP.out]; omega
          · clear own2
            go_wp2
            go_roundw
            case rel => exact ⟨pos + 1, cur, level, [], rfl, rfl, HIT.out, by omega, HO.out, hbw2, hD2, by omega, by omega, by simp⟩
            case measure => rw [HIP4.out, HIP.out]; omega
        | x :: r, hD, own2, hb3 =>
          have hD2 := hD.pop hl hc
          have hxl : x ≤ cur := (hD.at hl).2 x (by simp)
          rw [hg] at hc
          have hnx : ∀ ty, (Instr.next (.pointer (some ⟨w0.heap.size, 0, none⟩)) true ty).run Try.prog wr = _ := fun ty => next_lit_at wr w0.heap.size s pos ty hit hp 48 (by omega) 48 hc rfl
          generalize wr.iterAt w0.heap.size s (pos + 1) = w2 at *
          have HIT := Lib.hid hit2
          clear hc hg hD hown hit hbw hit2
          rcases own_stack own2 with ⟨_, h0⟩ | ⟨g, cap, rfl, hcap, hk⟩
          · cases h0
          · obtain ⟨hcell, hnew⟩ := hk x r rfl
            have HO := Lib.hid hnew
            clear own2 hk hnew
            simp only [List.length_cons] at hb3 hcap ⊢
            generalize hq : r.length = q at *
            have HQ := Lib.hid hq; clear hq
            have hge : decide ((0 : Int) ≤ (q : Int)) = true := by simp
            go_wp2
            go_roundw
            case rel => exact ⟨pos + 1, cur, x, r, rfl, rfl, HIT.out, by omega, by rw [HQ.out]; exact HO.out, hbw2, hD2, by omega, by omega, by rw [HQ.out]; omega⟩
            case measure => rw [HIP4.out, HIP.out]; omega
      · have hD2 := hD.one hl hc
        rw [hg] at hc
        have hnx : ∀ ty, (Instr.next (.pointer (some ⟨w0.heap.size, 0, none⟩)) true ty).run Try.prog wr = _ := fun ty => next_lit_at wr w0.heap.size s pos ty hit hp 49 (by omega) 49 hc rfl
        generalize wr.iterAt w0.heap.size s (pos + 1) = w2 at *
        have HIP := Lib.hid (show wr.iterPos w0.heap.size = pos by simp only [World.iterPos, hit])
        clear hc hg hD hown hit hbw
        go_wp2_with (at_builtin; refine wpList_append_own _ rfl _ _ 49 rfl (w0.heap.size + 1) 3 i0 (.int .i64 0) 1 8 Try.underlying49 hi hz0 hz1 hz2 rfl (by decide) _ _ _ rfl (own2.alloc _) ⟨w2.heap.size, 0, none⟩ 1 1 [.int .i64 ((level : Int) + 1)] rfl rfl ?c1 ?c2 ?c3 ?c4 ?c5 ?_)
        case c1 =>
          intro t u ht
          match t, ht with
          | 0, ht => simp at ht; subst ht; simp [Addr.add]
        case c2 => intro u hu; simp at hu; subst hu; rfl
        case c3 => unfold maxLen; omega
        case c4 => omega
        case c5 => simp; omega
        intro v' w1 hown' hgrow _
        have hb4 : Below w0.heap.size w0 w1 := (hbw2.alloc (Nat.le_of_lt hsz2) _).grown hgrow (by simp; omega) (fun k h => by have := (own2.lt k h).1; omega)
        have hit4 : w1.heap[w0.heap.size]? = some (.stringIter s (pos + 1)) := by
          rw [hgrow.block _ (by simp; omega) (by intro h; have := (own2.lt _ h.symm).1; omega), Lib.alloc_old w2 _ _ hsz2]; exact hit2
        have ho1 : w1.ownsRow (w0.heap.size + 1) 3 1 v' ((level + 1) :: tails).length (cellsOf ((level + 1) :: tails)) := by
          rw [cellsOf_cons]; exact hown'
        have HIP4 := Lib.hid (show w1.iterPos w0.heap.size = pos + 1 by simp only [World.iterPos, hit4])
        have HIT := Lib.hid hit4; have HO := Lib.hid ho1
        clear hown' hgrow own2 hit2 hbw2 hit4 ho1 hnx
        go_wp2
        go_roundw
        case rel => exact ⟨pos + 1, max cur (level + 1), level + 1, (level + 1) :: tails, by congr 1; omega, by go_num, HIT.out, by omega, HO.out, hb4, hD2, by omega, by omega, by simp; omega⟩
        case measure => rw [HIP4.out, HIP.out]; omega
    · have hnx : ∀ ty, (Instr.next (.pointer (some ⟨w0.heap.size, 0, none⟩)) true ty).run Try.prog wr = _ := fun ty => Lib.run_next_end_at wr w0.heap.size s pos ty hit hp
      have HE := Lib.hid (hD.done (by rw [len_eq]; omega))
      clear hit hown hD
      go_wp2
      go_ret2
      exact ⟨by rw [← HE.out]; rfl, bstep hb0 hbw⟩

set_option maxHeartbeats 400000 in
set_option maxRecDepth 100000 in
theorem Depth_no (s : ByteArray) (w : World) (hs : s.size ≤ 281474976710656) (hv : vld s.data.toList = false) :
    Calls Try.prog 14 #[.string s] w fun e w' => e = .returned (.tuple #[.int .i64 0, .int .i64 1]) ∧ Below w.heap.size w w' := by
  have HV := Lib.hid hv; clear hv
  go_enter Try.func14, Try.ntmps14
  go_wp2_with (go_at_call 17; refine (Valid_is false s _ hs HV.out).mono ?_; rintro e w1 ⟨rfl, hb⟩)
  go_ret2
  exact ⟨rfl, hb⟩

/-! TreeDepths -/
set_option maxHeartbeats 800000 in
set_option maxRecDepth 100000 in
theorem depths_form (a b : ByteArray) (w : World) (ha : a.size ≤ 281474976710656) (hb : b.size ≤ 281474976710656) (h : (vld a.data.toList && vld b.data.toList) = false) :
    Calls Try.prog 10 #[.string a, .string b] w fun e w' => e = .returned (.bool true) ∧ Below w.heap.size w w' := by
  have HC := Lib.hid (fun W => Cons_form a b W ha hb h); clear h
  go_enter Try.func10, Try.ntmps10
  go_wp2_with fail
  refine (HC.out _).mono ?_
  rintro e w1 ⟨rfl, h1⟩
  go_wp2_with fail
  refine (awake_any _).mono ?_
  rintro e w3 ⟨rfl, h3⟩
  go_wp2_with fail
  go_ret
  exact ⟨rfl, bstep h1 h3⟩
set_option maxHeartbeats 800000 in
set_option maxRecDepth 100000 in
theorem depths_size (a b : ByteArray) (w : World) (h1 : vld a.data.toList = true) (h2 : vld b.data.toList = true) (hz : 2000000 < 1 + a.size + b.size) :
    Calls Try.prog 10 #[.string a, .string b] w fun e w' => e = .returned (.bool true) ∧ Below w.heap.size w w' := by
  have HC := Lib.hid (fun W => Cons_size a b W h1 h2 hz); clear h1 h2 hz
  go_enter Try.func10, Try.ntmps10
  go_wp2_with fail
  refine (HC.out _).mono ?_
  rintro e w1 ⟨rfl, h1⟩
  go_wp2_with fail
  refine (awake_any _).mono ?_
  rintro e w3 ⟨rfl, h3⟩
  go_wp2_with fail
  go_ret
  exact ⟨rfl, bstep h1 h3⟩
theorem ones_cons (a b : List UInt8) : ones (49 :: (a ++ b)) = 1 + ones a + ones b := by
  unfold ones; rw [List.count_cons_self, List.count_append]; omega
set_option maxHeartbeats 1600000 in
set_option maxRecDepth 100000 in
theorem depths_yes (a b : ByteArray) (w : World) (ha : vld a.data.toList = true) (hb : vld b.data.toList = true) (hz : 1 + a.size + b.size ≤ 2000000) :
    Calls Try.prog 10 #[.string a, .string b] w fun e w' => e = .returned (.bool true) ∧ Below w.heap.size w w' := by
  have hv : vld (49 :: (a.data.toList ++ b.data.toList)) = true := vld_cons ha hb (by rw [len_eq, len_eq]; omega)
  have HC := Lib.hid (fun W => Cons_yes a b W ha hb hz)
  have HA := Lib.hid (fun W => Depth_yes a W ha)
  have HB := Lib.hid (fun W => Depth_yes b W hb)
  have hD := fun W => Depth_yes (S (49 :: (a.data.toList ++ b.data.toList))) W hv
  simp only [dep_cons ha hb] at hD
  have HD := Lib.hid hD
  have HK := Lib.hid (fun W => Pairs_yes a W ha)
  have HL := Lib.hid (fun W => Pairs_yes b W hb)
  have hM := fun W => Pairs_yes (S (49 :: (a.data.toList ++ b.data.toList))) W hv
  simp only [ones_cons] at hM
  have HM := Lib.hid hM
  have d1 := dep_le (vld_iff.1 ha).2
  have d2 := dep_le (vld_iff.1 hb).2
  have d3 := vld_count ha
  have d4 := vld_count hb
  rw [len_eq] at d1 d2 d3 d4
  have k1 : dep a.data.toList ≤ 2000000 := by omega
  have k2 : dep b.data.toList ≤ 2000000 := by omega
  have k3 : ones a.data.toList ≤ 2000000 := by omega
  have k4 : ones b.data.toList ≤ 2000000 := by omega
  clear d1 d2 d3 d4 ha hb hz hv hD hM
  generalize dep a.data.toList = x at *
  generalize dep b.data.toList = y at *
  generalize ones a.data.toList = p at *
  generalize ones b.data.toList = q at *
  generalize 49 :: (a.data.toList ++ b.data.toList) = l at *
  have hmx : ((max x y : Nat) : Int) = max (x : Int) (y : Int) := by omega
  go_enter Try.func10, Try.ntmps10
  go_wp2_with fail
  refine (HC.out _).mono ?_
  rintro e w1 ⟨rfl, h1⟩
  go_wp2_with fail
  refine (HA.out _).mono ?_
  rintro e w2 ⟨rfl, h2⟩
  go_wp2_with fail
  refine (HB.out _).mono ?_
  rintro e w3 ⟨rfl, h3⟩
  go_wp2_with fail
  refine (HD.out _).mono ?_
  rintro e w4 ⟨rfl, h4⟩
  go_wp2_with fail
  refine (HK.out _).mono ?_
  rintro e w5 ⟨rfl, h5⟩
  go_wp2_with fail
  refine (HL.out _).mono ?_
  rintro e w6 ⟨rfl, h6⟩
  go_wp2_with fail
  refine (HM.out _).mono ?_
  rintro e w7 ⟨rfl, h7⟩
  go_wp2_with fail
  refine (awake_any _).mono ?_
  rintro e w8 ⟨rfl, h8⟩
  go_wp2_with fail
  go_ret
  exact ⟨rfl, bstep (bstep (bstep (bstep (bstep (bstep (bstep h1 h2) h3) h4) h5) h6) h7) h8⟩
theorem TreeDepths_any (a b : ByteArray) (w : World) (ha : a.size ≤ 281474976710656) (hb : b.size ≤ 281474976710656) :
    Calls Try.prog 10 #[.string a, .string b] w fun e w' => e = .returned (.bool true) ∧ Below w.heap.size w w' := by
  cases g : (vld a.data.toList && vld b.data.toList) with
  | false => exact depths_form a b w ha hb g
  | true =>
    rw [Bool.and_eq_true] at g
    rcases Nat.lt_or_ge 2000000 (1 + a.size + b.size) with hz | hz
    · exact depths_size a b w g.1 g.2 hz
    · exact depths_yes a b w g.1 g.2 hz
end Go.Proofs.Ytkodkimdhalpcaa
