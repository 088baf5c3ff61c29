/- The walk of TreeLists. By an AI agent. -/
import Derived.Test.YtkodkimdhalpcaaRList
import Derived.Laws.AppendOwnNone
namespace Go.Proofs.Ytkodkimdhalpcaa
open Go.RowKit Pl

theorem Try.infoStr : (Try.prog.info? 9).map (fun i => (i.zero, i.size, i.bytes)) = some (some (.string ⟨#[]⟩), 1, 16) := by kernel_rfl
theorem own_empty {w : World} {base : Nat} {e : TypeId} {size : Nat} {v : Value} {xs : List Value} (h : w.ownsRow base e size v 0 xs) : ∃ b d, v = .slice b 0 d := by
  rcases h.2 with ⟨h1, _⟩ | ⟨g, cap, cur, h1, _⟩
  · exact ⟨_, _, h1⟩
  · exact ⟨_, _, h1⟩
theorem mstep1 (q x : Nat) : min ((q : Int) + 1 + (x : Int)) 2000001 = ((min (q + 1 + x) 2000001 : Nat) : Int) := by omega
theorem mstep2 (q : Nat) : min q 2000001 ≤ 2000001 := Nat.min_le_right _ _
theorem mstep {q u x : Nat} (h : min (q + 1) 2000001 = u) : min ((u : Int) + 1 + (x : Int)) 2000001 = ((min (q + (1 + x) + 1) 2000001 : Nat) : Int) := by omega
theorem mtop {q : Nat} (h : 2000000 < q + 1) : min (q + 1) 2000001 = 2000001 := by omega
theorem mlow {q : Nat} (h : q + 1 ≤ 2000000) : min (q + 1) 2000001 = q + 1 := by omega
theorem mlow2 {q : Nat} (h : q + 1 ≤ 2000000) : decide ((2000000 : Int) < (q : Int) + 1) = false := by rw [decide_eq_false_iff_not]; omega
/-- strings as cells -/
def strsV (ls : List (List UInt8)) : List Value := ls.map fun l => Value.string (S l)
theorem strsV_len (ls : List (List UInt8)) : (strsV ls).length = ls.length := by simp [strsV]

theorem own_strs {w : World} {base n : Nat} {e : TypeId} {v : Value} {ls : List (List UInt8)} (h : w.ownsRow base e 1 v n (strsV ls)) (hl : 0 < n) :
    ∃ g cap, v = .slice (some ⟨g, 0, none⟩) ls.length cap ∧ n = ls.length ∧ base ≤ g ∧ StrAt w g 0 ls := by
  have hc := fun (g : Nat) => h.cells (g := g)
  have hlt := h.lt
  obtain ⟨h1, h2⟩ := h
  rw [strsV_len, Nat.mul_one] at h1
  rcases h2 with ⟨_, h0⟩ | ⟨g, cap, cur, rfl, _⟩
  · omega
  · refine ⟨g, cap, by rw [h1], h1.symm, (hlt g rfl).1, (hlt g rfl).2, fun k hk => ?_⟩
    have := hc g (by simp [Value.ownBlock]) k (.string (S (ls.getD k []))) (by simp [strsV, List.getD, hk])
    rw [show ((⟨g, 0, none⟩ : Addr).add k) = ⟨g, 0 + k, none⟩ from by unfold Addr.add; split <;> simp_all] at this
    exact this
theorem strs_news {w : World} {b off : Nat} {ls : List (List UInt8)} (h : StrAt w b off ls) (o : Obj) : ∀ j u, (strsV ls)[j]? = some u → (w.alloc o).cell? ((⟨b, off, none⟩ : Addr).add j) = some u := by
  intro j u hu
  have hj : j < ls.length := by
    have := (List.getElem?_eq_some_iff.1 hu).1
    rwa [strsV_len] at this
  have := h.2 j hj
  rw [show ((⟨b, off, none⟩ : Addr).add j) = ⟨b, off + j, none⟩ from by unfold Addr.add; split <;> simp_all]
  rw [World.cell?_alloc_past _ _ _ h.1, this]
  simpa [strsV, List.getD, hj] using hu
theorem strs_one (ls : List (List UInt8)) : ∀ u ∈ strsV ls, u.oneCell' = true := by
  intro u hu
  simp only [strsV, List.mem_map] at hu
  obtain ⟨l, _, rfl⟩ := hu
  rfl
theorem List_zero (w : World) (a : Option Addr) (cap : Nat) :
    Calls Try.prog 30 #[.slice a 0 cap] w fun e w' => e = .returned (.tuple #[.string ⟨#[48]⟩, .int .i64 0]) ∧ Below w.heap.size w w' := List_none w a cap

set_option maxHeartbeats 1600000 in
set_option maxRecDepth 100000 in
theorem lists_nil (w : World) :
    Calls Try.prog 6 #[.slice none 0 0] w fun e w' => e = .returned (.bool true) ∧ Below w.heap.size w w' := by
  obtain ⟨i0, hi, hz0, hz1, hz2⟩ := info_parts Try.infoStr
  have HO := Lib.hid (World.ownsRow_lit (e := 9) (size := 1) (base := w.heap.size) w #[] 0 (Nat.le_refl _) (by unfold maxLen; omega) rfl)
  go_enter Try.func6, Try.ntmps6
  go_wp2_with (at_builtin; refine wpList_append_own_none rfl _ _ 27 rfl w.heap.size 9 i0 1 Try.underlying27 hi _ _ _ rfl HO.out rfl ?_)
  refine (List_zero _ _ _).mono ?_
  rintro e w1 ⟨rfl, h1⟩
  have h1' : Below w.heap.size w w1 := ((Below.refl _ w).alloc (Nat.le_refl _) _).trans (h1.mono (by simp))
  clear h1
  go_wp2_with fail
  refine (Same_none _ _ _ _ _).mono ?_
  rintro e w2 ⟨rfl, rfl⟩
  go_wp2_with fail
  go_loop [6, 7] (fun z i => i = .int .i64 0 ∧ z = .int .i64 1) (fun _ _ => 0)
  case atStart => exact ⟨rfl, rfl⟩
  case round =>
    obtain ⟨rfl, rfl⟩ := hrel
    go_wp2_with fail
    refine (rList_none _ _ _).mono ?_
    rintro e w3 ⟨rfl, h3⟩
    go_wp2_with fail
    refine (awake_any _).mono ?_
    rintro e w4 ⟨rfl, h4⟩
    go_wp2_with fail
    go_ret
    exact ⟨rfl, bstep (bstep h1' h3) h4⟩

set_option maxHeartbeats 1600000 in
set_option maxRecDepth 100000 in
theorem lists_zero (w : World) (ad : Addr) (cap : Nat) :
    Calls Try.prog 6 #[.slice (some ad) 0 cap] w fun e w' => e = .returned (.bool true) ∧ Below w.heap.size w w' := by
  obtain ⟨i0, hi, hz0, hz1, hz2⟩ := info_parts Try.infoStr
  have HO := Lib.hid (World.ownsRow_lit (e := 9) (size := 1) (base := w.heap.size) w #[] 0 (Nat.le_refl _) (by unfold maxLen; omega) rfl)
  go_enter Try.func6, Try.ntmps6
  go_wp2_with (at_builtin; refine wpList_append_own _ rfl _ _ 27 rfl w.heap.size 9 i0 (.string ⟨#[]⟩) 1 16 Try.underlying27 hi hz0 hz1 hz2 rfl (by decide) _ _ _ rfl HO.out ad 0 cap [] rfl rfl (by intro j u h; simp at h) (by intro u h; simp at h) (by unfold maxLen; omega) (by omega) (by simp) ?_; intro v' w0 hown hgrow _)
  have h0 : Below w.heap.size w w0 := ((Below.refl _ w).alloc (Nat.le_refl _) _).grown hgrow (by simp) (fun k h => (HO.out.lt k h).1)
  obtain ⟨vb, vd, rfl⟩ := own_empty (by exact hown)
  clear hown hgrow
  refine (List_zero _ _ _).mono ?_
  rintro e w1 ⟨rfl, h1⟩
  have h1' := bstep h0 h1
  clear h1 h0
  go_wp2_with fail
  refine (Same_none _ _ _ _ _).mono ?_
  rintro e w2 ⟨rfl, rfl⟩
  go_wp2_with fail
  go_loop [6, 7] (fun z i => i = .int .i64 0 ∧ z = .int .i64 1) (fun _ _ => 0)
  case atStart => exact ⟨rfl, rfl⟩
  case round =>
    obtain ⟨rfl, rfl⟩ := hrel
    go_wp2_with fail
    refine (rList_none _ _ _).mono ?_
    rintro e w3 ⟨rfl, h3⟩
    go_wp2_with fail
    refine (awake_any _).mono ?_
    rintro e w4 ⟨rfl, h4⟩
    go_wp2_with fail
    go_ret
    exact ⟨rfl, bstep (bstep h1' h3) h4⟩

set_option maxHeartbeats 3200000 in
set_option maxRecDepth 100000 in
theorem lists_form (w : World) (b off cap : Nat) (ls : List (List UInt8)) (hc : StrAt w b off ls) (hp : 0 < ls.length) (hm : ls.length * 16 ≤ 140737488355328) (hz : ∀ l ∈ ls, l.length ≤ 281474976710656) (hn : ¬ AllV ls) :
    Calls Try.prog 6 #[.slice (some ⟨b, off, none⟩) ls.length cap] w fun e w' => e = .returned (.bool true) ∧ Below w.heap.size w w' := by
  obtain ⟨i0, hi, hz0, hz1, hz2⟩ := info_parts Try.infoStr
  have HO := Lib.hid (World.ownsRow_lit (e := 9) (size := 1) (base := w.heap.size) w #[] 0 (Nat.le_refl _) (by unfold maxLen; omega) rfl)
  have HW := Lib.hid (strs_news hc (.cells #[] 9))
  have H1 := Lib.hid (strs_one ls)
  have HL := Lib.hid (show (strsV ls).length = ls.length * 1 by rw [strsV_len, Nat.mul_one])
  have hK := fun (W : World) (h : StrAt W b off ls) => List_form W b off cap ls h (by omega) hz hn
  have hS := fun (W : World) (g cap2 : Nat) (h : StrAt W b off ls) (h2 : StrAt W g 0 ls) => Same_yes W b off cap g 0 cap2 ls h h2 (by omega)
  have hG := fun (W : World) (v : Value) (h : W.ownsRow w.heap.size 9 1 v (0 + ls.length) ([] ++ strsV ls)) => own_strs (ls := ls) h (by omega)
  have HA := Lib.hid hn; have HZ := Lib.hid hz; clear hn hz
  generalize hnn : ls.length = n at *
  have HN := Lib.hid hnn; clear hnn
  have HK := Lib.hid hK; have HS := Lib.hid hS; have HC := Lib.hid hc; have HG := Lib.hid hG; clear hK hS hc hG
  go_enter Try.func6, Try.ntmps6
  go_wp2_with (at_builtin; refine wpList_append_own _ rfl _ _ 27 rfl w.heap.size 9 i0 (.string ⟨#[]⟩) 1 16 Try.underlying27 hi hz0 hz1 hz2 rfl (by decide) _ _ _ rfl HO.out ⟨b, off, none⟩ n cap (strsV ls) rfl HL.out HW.out H1.out (by unfold maxLen; omega) (by omega) (by simp) ?_; intro v' w0 hown hgrow _)
  have h0 : Below w.heap.size w w0 := ((Below.refl _ w).alloc (Nat.le_refl _) _).grown hgrow (by simp) (fun k h => (HO.out.lt k h).1)
  obtain ⟨g, cap2, rfl, _, hgb, hst⟩ := HG.out _ _ (by exact hown)
  have HST := Lib.hid hst
  clear hown hgrow hst
  refine (HK.out _ (HC.out.below h0)).mono ?_
  rintro e w1 ⟨rfl, h1⟩
  have HST1 := Lib.hid (HST.out.below h1)
  have h1' := bstep h0 h1
  clear h1 h0
  go_wp2_with fail
  refine (HS.out _ _ _ (HC.out.below h1') HST1.out).mono ?_
  rintro e w2 ⟨rfl, h2⟩
  have h2' := bstep h1' h2
  clear h1' h2
  go_wp2_with fail
  go_loop [6, 7] (fun z i => ∃ k : Nat, k ≤ n ∧ i = .int .i64 k ∧ Hid (∀ j, j < k → vld (ls.getD j []) = true) ∧ ∃ q : Nat, z = .int .i64 q ∧ q ≤ 2000001) (fun _ i => n - (intOf i).toNat)
  case atStart => exact ⟨0, Nat.zero_le _, rfl, Lib.hid (fun j hj => by omega), 1, rfl, by omega⟩
  case round =>
    obtain ⟨k, hk, rfl, hK, q, rfl, hq⟩ := hrel
    by_cases hlt : k < n
    · have hcell := (HC.out.below h2').2 k (by rw [HN.out]; exact hlt)
      have hxl : (ls.getD k []).length ≤ 281474976710656 := HZ.out _ (by simp [List.getD, HN.out, hlt])
      generalize hX : ls.getD k [] = x at *
      have HX := Lib.hid hX; clear hX
      by_cases hv : vld x = true
      · have hV := fun W : World => rValid_is true (S x) W (by rw [S_size]; exact hxl) hv
        have HVX := Lib.hid hv; have HW := Lib.hid hV; clear hv hV
        go_wp2_with (go_at_call 18; refine (HW.out _).mono ?_; rintro e w5 ⟨rfl, rfl⟩)
        go_round
        case rel => exact ⟨k + 1, by omega, by go_num, Lib.hid (fun j hj => by
          rcases Nat.lt_or_ge j k with h | h
          · exact hK.out j h
          · obtain rfl : j = k := by omega
            rw [HX.out]; exact HVX.out), min (q + 1 + x.length) 2000001, congrArg (Value.int .i64) (mstep1 q x.length), mstep2 _⟩
        case measure => simp [intOf]; omega
      · have hv : vld x = false := by simpa using hv
        have hV := fun W : World => rValid_is false (S x) W (by rw [S_size]; exact hxl) hv
        have HW := Lib.hid hV; clear hv hV
        go_wp2_with fail
        refine (HW.out _).mono ?_
        rintro e w5 ⟨rfl, rfl⟩
        go_wp2_with fail
        refine (awake_any _).mono ?_
        rintro e w6 ⟨rfl, h6⟩
        go_wp2_with fail
        go_ret
        exact ⟨rfl, bstep h2' h6⟩
    · exfalso
      refine HA.out (fun l hl => ?_)
      obtain ⟨j, hj, rfl⟩ := List.getElem_of_mem hl
      have := hK.out j (by have := HN.out; omega)
      simpa [List.getD, hj] using this

set_option maxHeartbeats 3200000 in
set_option maxRecDepth 100000 in
theorem lists_size (w : World) (b off cap : Nat) (ls : List (List UInt8)) (hc : StrAt w b off ls) (hp : 0 < ls.length) (hm : ls.length * 16 ≤ 140737488355328) (hn : AllV ls) (hz : 2000000 < (enc ls).length) :
    Calls Try.prog 6 #[.slice (some ⟨b, off, none⟩) ls.length cap] w fun e w' => e = .returned (.bool true) ∧ Below w.heap.size w w' := by
  obtain ⟨i0, hi, hz0, hz1, hz2⟩ := info_parts Try.infoStr
  have HO := Lib.hid (World.ownsRow_lit (e := 9) (size := 1) (base := w.heap.size) w #[] 0 (Nat.le_refl _) (by unfold maxLen; omega) rfl)
  have HW := Lib.hid (strs_news hc (.cells #[] 9))
  have H1 := Lib.hid (strs_one ls)
  have HL := Lib.hid (show (strsV ls).length = ls.length * 1 by rw [strsV_len, Nat.mul_one])
  have hK := fun (W : World) (h : StrAt W b off ls) => List_size W b off cap ls h (by omega) hn hz
  have hS := fun (W : World) (g cap2 : Nat) (h : StrAt W b off ls) (h2 : StrAt W g 0 ls) => Same_yes W b off cap g 0 cap2 ls h h2 (by omega)
  have hG := fun (W : World) (v : Value) (h : W.ownsRow w.heap.size 9 1 v (0 + ls.length) ([] ++ strsV ls)) => own_strs (ls := ls) h (by omega)
  have HA := Lib.hid hn; have HZ := Lib.hid hz; clear hn hz
  generalize hnn : ls.length = n at *
  have HN := Lib.hid hnn; clear hnn
  have HK := Lib.hid hK; have HS := Lib.hid hS; have HC := Lib.hid hc; have HG := Lib.hid hG; clear hK hS hc hG
  go_enter Try.func6, Try.ntmps6
  go_wp2_with (at_builtin; refine wpList_append_own _ rfl _ _ 27 rfl w.heap.size 9 i0 (.string ⟨#[]⟩) 1 16 Try.underlying27 hi hz0 hz1 hz2 rfl (by decide) _ _ _ rfl HO.out ⟨b, off, none⟩ n cap (strsV ls) rfl HL.out HW.out H1.out (by unfold maxLen; omega) (by omega) (by simp) ?_; intro v' w0 hown hgrow _)
  have h0 : Below w.heap.size w w0 := ((Below.refl _ w).alloc (Nat.le_refl _) _).grown hgrow (by simp) (fun k h => (HO.out.lt k h).1)
  obtain ⟨g, cap2, rfl, _, hgb, hst⟩ := HG.out _ _ (by exact hown)
  have HST := Lib.hid hst
  clear hown hgrow hst
  refine (HK.out _ (HC.out.below h0)).mono ?_
  rintro e w1 ⟨rfl, h1⟩
  have HST1 := Lib.hid (HST.out.below h1)
  have h1' := bstep h0 h1
  clear h1 h0
  go_wp2_with fail
  refine (HS.out _ _ _ (HC.out.below h1') HST1.out).mono ?_
  rintro e w2 ⟨rfl, h2⟩
  have h2' := bstep h1' h2
  clear h1' h2
  go_wp2_with fail
  go_loop [6, 7] (fun z i => ∃ k : Nat, k ≤ n ∧ i = .int .i64 k ∧ z = .int .i64 ((min ((encTo ls k).length + 1) 2000001 : Nat) : Int)) (fun _ i => n - (intOf i).toNat)
  case atStart => exact ⟨0, Nat.zero_le _, rfl, rfl⟩
  case round =>
    obtain ⟨k, hk, rfl, rfl⟩ := hrel
    by_cases hlt : k < n
    · have hcell := (HC.out.below h2').2 k (by rw [HN.out]; exact hlt)
      have hv := HA.out.at (k := k) (by rw [HN.out]; exact hlt)
      have hst := encTo_len ls k (by rw [HN.out]; exact hlt)
      have hxl := (vld_iff.1 hv).1
      generalize ls.getD k [] = x at *
      have HX := Lib.hid hst; clear hst
      generalize (encTo ls k).length = q at *
      have hV := fun W : World => rValid_is true (S x) W (by rw [S_size]; omega) hv
      have HW := Lib.hid hV; clear hv hV
      generalize hmq : min (q + 1) 2000001 = u at *
      have hub : u ≤ 2000001 := by omega
      have HU := Lib.hid hmq; clear hmq
      go_wp2_with (go_at_call 18; refine (HW.out _).mono ?_; rintro e w5 ⟨rfl, rfl⟩)
      go_round
      case rel => exact ⟨k + 1, by omega, by go_num, by rw [HX.out]; exact congrArg (Value.int .i64) (mstep HU.out)⟩
      case measure => simp [intOf]; omega
    · have hE := encTo_out ls (k := k) (by rw [HN.out]; omega)
      have hF := congrArg List.length (enc_all ls)
      rw [← hE, List.length_append] at hF
      simp only [List.length_cons, List.length_nil, Nat.zero_add] at hF
      have hZ := HZ.out
      rw [hF] at hZ
      have hu : min ((encTo ls k).length + 1) 2000001 = 2000001 := mtop hZ
      rw [hu]
      clear hZ hE hF hu
      go_wp2_with fail
      refine (awake_any _).mono ?_
      rintro e w6 ⟨rfl, h6⟩
      go_wp2_with fail
      go_ret
      exact ⟨rfl, bstep h2' h6⟩

set_option maxHeartbeats 3200000 in
set_option maxRecDepth 100000 in
theorem lists_ok (w : World) (b off cap : Nat) (ls : List (List UInt8)) (hc : StrAt w b off ls) (hp : 0 < ls.length) (hm : ls.length * 16 ≤ 140737488355328) (hn : AllV ls) (hz : (enc ls).length ≤ 2000000) :
    Calls Try.prog 6 #[.slice (some ⟨b, off, none⟩) ls.length cap] w fun e w' => e = .returned (.bool true) ∧ Below w.heap.size w w' := by
  obtain ⟨i0, hi, hz0, hz1, hz2⟩ := info_parts Try.infoStr
  have HO := Lib.hid (World.ownsRow_lit (e := 9) (size := 1) (base := w.heap.size) w #[] 0 (Nat.le_refl _) (by unfold maxLen; omega) rfl)
  have HW := Lib.hid (strs_news hc (.cells #[] 9))
  have H1 := Lib.hid (strs_one ls)
  have HL := Lib.hid (show (strsV ls).length = ls.length * 1 by rw [strsV_len, Nat.mul_one])
  have hK := fun (W : World) (h : StrAt W b off ls) => List_yes W b off cap ls h (by omega) hn hz
  have hS := fun (W : World) (g cap2 : Nat) (h : StrAt W b off ls) (h2 : StrAt W g 0 ls) => Same_yes W b off cap g 0 cap2 ls h h2 (by omega)
  have hG := fun (W : World) (v : Value) (h : W.ownsRow w.heap.size 9 1 v (0 + ls.length) ([] ++ strsV ls)) => own_strs (ls := ls) h (by omega)
  have hR := fun (W : World) (h : StrAt W b off ls) => rList_yes W b off cap ls h (by omega) hz
  have HA := Lib.hid hn; have HZ := Lib.hid hz; clear hn hz
  generalize hnn : ls.length = n at *
  have HN := Lib.hid hnn; clear hnn
  have HK := Lib.hid hK; have HS := Lib.hid hS; have HC := Lib.hid hc; have HG := Lib.hid hG; clear hK hS hc hG
  have HR := Lib.hid hR; clear hR
  generalize hEn : enc ls = en at *
  have HEN := Lib.hid hEn; clear hEn
  go_enter Try.func6, Try.ntmps6
  go_wp2_with (at_builtin; refine wpList_append_own _ rfl _ _ 27 rfl w.heap.size 9 i0 (.string ⟨#[]⟩) 1 16 Try.underlying27 hi hz0 hz1 hz2 rfl (by decide) _ _ _ rfl HO.out ⟨b, off, none⟩ n cap (strsV ls) rfl HL.out HW.out H1.out (by unfold maxLen; omega) (by omega) (by simp) ?_; intro v' w0 hown hgrow _)
  have h0 : Below w.heap.size w w0 := ((Below.refl _ w).alloc (Nat.le_refl _) _).grown hgrow (by simp) (fun k h => (HO.out.lt k h).1)
  obtain ⟨g, cap2, rfl, _, hgb, hst⟩ := HG.out _ _ (by exact hown)
  have HST := Lib.hid hst
  clear hown hgrow hst
  refine (HK.out _ (HC.out.below h0)).mono ?_
  rintro e w1 ⟨rfl, h1⟩
  have HST1 := Lib.hid (HST.out.below h1)
  have h1' := bstep h0 h1
  clear h1 h0
  go_wp2_with fail
  refine (HS.out _ _ _ (HC.out.below h1') HST1.out).mono ?_
  rintro e w2 ⟨rfl, h2⟩
  have h2' := bstep h1' h2
  clear h1' h2
  go_wp2_with fail
  go_loop [6, 7] (fun z i => ∃ k : Nat, k ≤ n ∧ i = .int .i64 k ∧ z = .int .i64 ((min ((encTo ls k).length + 1) 2000001 : Nat) : Int)) (fun _ i => n - (intOf i).toNat)
  case atStart => exact ⟨0, Nat.zero_le _, rfl, rfl⟩
  case round =>
    obtain ⟨k, hk, rfl, rfl⟩ := hrel
    by_cases hlt : k < n
    · have hcell := (HC.out.below h2').2 k (by rw [HN.out]; exact hlt)
      have hv := HA.out.at (k := k) (by rw [HN.out]; exact hlt)
      have hst := encTo_len ls k (by rw [HN.out]; exact hlt)
      have hxl := (vld_iff.1 hv).1
      generalize ls.getD k [] = x at *
      have HX := Lib.hid hst; clear hst
      generalize (encTo ls k).length = q at *
      have hV := fun W : World => rValid_is true (S x) W (by rw [S_size]; omega) hv
      have HW := Lib.hid hV; clear hv hV
      generalize hmq : min (q + 1) 2000001 = u at *
      have hub : u ≤ 2000001 := by omega
      have HU := Lib.hid hmq; clear hmq
      go_wp2_with (go_at_call 18; refine (HW.out _).mono ?_; rintro e w5 ⟨rfl, rfl⟩)
      go_round
      case rel => exact ⟨k + 1, by omega, by go_num, by rw [HX.out]; exact congrArg (Value.int .i64) (mstep HU.out)⟩
      case measure => simp [intOf]; omega
    · have hE := encTo_out ls (k := k) (by rw [HN.out]; omega)
      have hF := congrArg List.length (HEN.out.symm.trans (enc_all ls))
      rw [← hE, List.length_append] at hF
      simp only [List.length_cons, List.length_nil, Nat.zero_add] at hF
      have hZ := HZ.out
      rw [hF] at hZ
      have hu : min ((encTo ls k).length + 1) 2000001 = (encTo ls k).length + 1 := mlow hZ
      rw [hu]
      have hlow := mlow2 hZ
      clear hE hF hu hZ
      generalize (encTo ls k).length = q at *
      go_wp2_with fail
      refine (HR.out _ (HC.out.below h2')).mono ?_
      rintro e w5 ⟨rfl, h5⟩
      go_wp2_with fail
      refine (awake_any _).mono ?_
      rintro e w6 ⟨rfl, h6⟩
      go_wp2_with fail
      go_ret
      exact ⟨rfl, bstep (bstep h2' h5) h6⟩
theorem TreeLists_any (w : World) (b off cap : Nat) (ls : List (List UInt8)) (hc : StrAt w b off ls) (hp : 0 < ls.length) (hm : ls.length * 16 ≤ 140737488355328) (hz : ∀ l ∈ ls, l.length ≤ 281474976710656) :
    Calls Try.prog 6 #[.slice (some ⟨b, off, none⟩) ls.length cap] w fun e w' => e = .returned (.bool true) ∧ Below w.heap.size w w' := by
  by_cases hn : AllV ls
  · rcases Nat.lt_or_ge 2000000 (enc ls).length with h | h
    · exact lists_size w b off cap ls hc hp hm hn h
    · exact lists_ok w b off cap ls hc hp hm hn h
  · exact lists_form w b off cap ls hc hp hm hz hn
end Go.Proofs.Ytkodkimdhalpcaa
