/- The walks of TreeOneWay and TreeParts. By an AI agent. -/
import Derived.Test.YtkodkimdhalpcaaLawA
namespace Go.Proofs.Ytkodkimdhalpcaa
open Go.RowKit Pl

set_option maxHeartbeats 800000 in
set_option maxRecDepth 100000 in
theorem oneWay_a (s more : ByteArray) (cut : Int) (w : World) (hs : s.size ≤ 281474976710656) (h : vld s.data.toList = false) :
    Calls Try.prog 8 #[.string s, .string more, .int .i64 cut] w fun e w' => e = .returned (.bool true) ∧ Below w.heap.size w w' := by
  have H := Lib.hid h; clear h
  go_enter Try.func8, Try.ntmps8
  go_wp2_with fail
  refine (Valid_is false s _ hs H.out).mono ?_
  rintro e w1 ⟨rfl, h1⟩
  go_wp2_with fail
  refine (awake_any _).mono ?_
  rintro e w3 ⟨rfl, h3⟩
  go_wp2_with fail
  go_ret
  exact ⟨rfl, bstep h1 h3⟩

theorem tmod_lo (c : Int) (n : Nat) (h : 0 < n) : -(n : Int) < c.tmod n ∧ c.tmod n < n := by
  have h1 := Int.tmod_lt_of_pos c (b := (n : Int)) (by omega)
  have h2 := Int.tmod_lt_of_pos (-c) (b := (n : Int)) (by omega)
  rw [Int.neg_tmod] at h2
  omega

set_option maxHeartbeats 800000 in
set_option maxRecDepth 100000 in
theorem oneWay_tail (s : ByteArray) (cut : Int) (h : vld s.data.toList = true) :
    0 ≤ cut.tmod s.size % (s.size : Int) ∧ cut.tmod s.size % (s.size : Int) < s.size ∧ -(s.size : Int) < cut.tmod s.size ∧ cut.tmod s.size < s.size ∧ 1 ≤ s.size ∧
      vld (s.extract 0 (cut.tmod s.size % (s.size : Int)).toNat).data.toList = false := by
  have hp : 1 ≤ s.size := by
    have := fs_ge (vld_iff.1 h).2
    rwa [len_eq] at this
  have hb := tmod_lo cut s.size hp
  have h0 := Int.emod_nonneg (cut.tmod s.size) (b := (s.size : Int)) (by omega)
  have h1 := Int.emod_lt_of_pos (cut.tmod s.size) (b := (s.size : Int)) (by omega)
  refine ⟨h0, h1, hb.1, hb.2, hp, ?_⟩
  rw [ex_list, List.drop_zero]
  exact vld_cut h (by rw [len_eq]; omega)

set_option maxHeartbeats 800000 in
set_option maxRecDepth 100000 in
theorem oneWay_b (s : ByteArray) (cut : Int) (w : World) (h : vld s.data.toList = true) :
    Calls Try.prog 8 #[.string s, .string ⟨#[]⟩, .int .i64 cut] w fun e w' => e = .returned (.bool true) ∧ Below w.heap.size w w' := by
  have hs := vld_size h
  obtain ⟨k0, k1, k2, k3, k4, k5⟩ := oneWay_tail s cut h
  have hn := vld_count h
  rw [len_eq] at hn
  have H := Lib.hid h; clear h
  have K := Lib.hid k5; clear k5
  have hne : ((s.size : Int) != 2 * (ones s.data.toList : Int) + 1) = false := by rw [bne_eq_false_iff_eq]; omega
  have hon : ones s.data.toList ≤ 1000000 := by omega
  have HP := Lib.hid (Pairs_yes s)
  generalize ones s.data.toList = q at *
  have hnz : ¬ (s.size : Int) = 0 := by omega
  clear hn
  go_enter Try.func8, Try.ntmps8
  go_wp2_with fail
  refine (Valid_is true s _ (by omega) H.out).mono ?_
  rintro e w1 ⟨rfl, h1⟩
  go_wp2_with fail
  refine (HP.out _ H.out).mono ?_
  rintro e w2 ⟨rfl, h2⟩
  go_wp2_with fail
  refine (Valid_is false _ _ (by rw [ByteArray.size_extract]; omega) K.out).mono ?_
  rintro e w3 ⟨rfl, h3⟩
  go_wp2_with fail
  refine (awake_any _).mono ?_
  rintro e w4 ⟨rfl, h4⟩
  go_wp2_with fail
  go_ret
  exact ⟨rfl, bstep (bstep (bstep h1 h2) h3) h4⟩

theorem app_list (s t : ByteArray) : (s ++ t).data.toList = s.data.toList ++ t.data.toList := by simp
set_option maxHeartbeats 800000 in
set_option maxRecDepth 100000 in
theorem oneWay_c (s more : ByteArray) (cut : Int) (w : World) (hmz : more.size ≤ 140737488355328) (h : vld s.data.toList = true) (hm : more.data.toList ≠ []) :
    Calls Try.prog 8 #[.string s, .string more, .int .i64 cut] w fun e w' => e = .returned (.bool true) ∧ Below w.heap.size w w' := by
  have hs := vld_size h
  obtain ⟨k0, k1, k2, k3, k4, k5⟩ := oneWay_tail s cut h
  have hn := vld_count h
  rw [len_eq] at hn
  have hmo : vld (s ++ more).data.toList = false := by rw [app_list]; exact vld_more h hm
  have HMO := Lib.hid hmo; clear hmo
  have m1 : more.toList.isEmpty = false := by rw [ByteArray.toList_eq]; simpa using hm
  have m2 : (more.toList == []) = false := by rw [ByteArray.toList_eq, beq_eq_false_iff_ne]; exact hm
  have hsm : (s ++ more).size ≤ 2000000 + 140737488355328 := by rw [ByteArray.size_append]; omega
  have hV : ∀ W, Calls Try.prog 17 #[.string (s ++ more)] W fun e w' => e = .returned (.bool false) ∧ Below W.heap.size W w' := fun W => Valid_is false (s ++ more) W (by omega) HMO.out
  have HV := Lib.hid hV; clear hV
  have H := Lib.hid h; clear h
  have K := Lib.hid k5; clear k5
  have hne : ((s.size : Int) != 2 * (ones s.data.toList : Int) + 1) = false := by rw [bne_eq_false_iff_eq]; omega
  have hon : ones s.data.toList ≤ 1000000 := by omega
  have HP := Lib.hid (Pairs_yes s)
  generalize ones s.data.toList = q at *
  have hnz : ¬ (s.size : Int) = 0 := by omega
  clear hn hm
  go_enter Try.func8, Try.ntmps8
  go_wp2_with fail
  refine (Valid_is true s _ (by omega) H.out).mono ?_
  rintro e w1 ⟨rfl, h1⟩
  go_wp2_with fail
  refine (HP.out _ H.out).mono ?_
  rintro e w2 ⟨rfl, h2⟩
  go_wp2_with fail
  refine (HV.out _).mono ?_
  rintro e w2b ⟨rfl, h2b⟩
  go_wp2_with fail
  refine (Valid_is false _ _ (by rw [ByteArray.size_extract]; omega) K.out).mono ?_
  rintro e w3 ⟨rfl, h3⟩
  go_wp2_with fail
  refine (awake_any _).mono ?_
  rintro e w4 ⟨rfl, h4⟩
  go_wp2_with fail
  go_ret
  exact ⟨rfl, bstep (bstep (bstep (bstep h1 h2) h2b) h3) h4⟩

theorem TreeOneWay_any (s more : ByteArray) (cut : Int) (w : World) (hs : s.size ≤ 281474976710656) (hmz : more.size ≤ 140737488355328) :
    Calls Try.prog 8 #[.string s, .string more, .int .i64 cut] w fun e w' => e = .returned (.bool true) ∧ Below w.heap.size w w' := by
  cases g : vld s.data.toList with
  | false => exact oneWay_a s more cut w hs g
  | true =>
    by_cases hm : more.data.toList = []
    · obtain rfl : more = S [] := S_inj hm
      exact oneWay_b s cut w g
    · exact oneWay_c s more cut w hmz g hm

/-! TreeParts -/
set_option maxHeartbeats 800000 in
set_option maxRecDepth 100000 in
theorem parts_no (a b : ByteArray) (w : World) (ha : a.size ≤ 281474976710656) (hb : b.size ≤ 281474976710656) (h : (vld a.data.toList && vld b.data.toList) = false) :
    Calls Try.prog 7 #[.string a, .string b] w fun e w' => e = .returned (.bool true) ∧ Below w.heap.size w w' := by
  cases g : vld a.data.toList with
  | false =>
    have G := Lib.hid g; clear g h
    go_enter Try.func7, Try.ntmps7
    go_wp2_with fail
    refine (rValid_is false a _ ha G.out).mono ?_
    rintro e w1 ⟨rfl, rfl⟩
    go_wp2_with fail
    refine (awake_any _).mono ?_
    rintro e w3 ⟨rfl, h3⟩
    go_wp2_with fail
    go_ret
    exact ⟨rfl, h3⟩
  | true =>
    rw [g, Bool.true_and] at h
    have G := Lib.hid g; clear g
    have H := Lib.hid h; clear h
    go_enter Try.func7, Try.ntmps7
    go_wp2_with fail
    refine (rValid_is true a _ ha G.out).mono ?_
    rintro e w1 ⟨rfl, rfl⟩
    go_wp2_with fail
    refine (rValid_is false b _ hb H.out).mono ?_
    rintro e w1 ⟨rfl, rfl⟩
    go_wp2_with fail
    refine (awake_any _).mono ?_
    rintro e w3 ⟨rfl, h3⟩
    go_wp2_with fail
    go_ret
    exact ⟨rfl, h3⟩

/-- the pair: too large, or its parts are a and b -/
theorem S_list (l : List UInt8) : (S l).data.toList = l := rfl
theorem seq_ne {l : List UInt8} {s : ByteArray} (h : s.data.toList = l) : (l == s.toList) = true := by rw [ByteArray.toList_eq, h]; simp

set_option maxHeartbeats 1600000 in
set_option maxRecDepth 100000 in
theorem parts_zero (b : ByteArray) (w : World) (hb : vld b.data.toList = true) :
    Calls Try.prog 7 #[.string ⟨#[48]⟩, .string b] w fun e w' => e = .returned (.bool true) ∧ Below w.heap.size w w' := by
  have hs := vld_size hb
  have q2 := seq_ne (s := b) rfl
  have H := Lib.hid hb
  rcases Nat.lt_or_ge 2000000 (2 + b.size) with hz | hz
  · have HC := Lib.hid (fun W => Cons_size (S [48]) b W (by decide) hb (by rw [S_size]; simp; omega))
    clear hb hz
    go_enter Try.func7, Try.ntmps7
    go_wp2_with fail
    refine (rValid_is true (S [48]) _ (by rw [S_size]; simp) (by decide)).mono ?_
    rintro e w1 ⟨rfl, rfl⟩
    go_wp2_with fail
    refine (rValid_is true b _ (by omega) H.out).mono ?_
    rintro e w1 ⟨rfl, rfl⟩
    go_wp2_with fail
    refine (HC.out _).mono ?_
    rintro e w2 ⟨rfl, h2⟩
    go_wp2_with fail
    refine (awake_any _).mono ?_
    rintro e w3 ⟨rfl, h3⟩
    go_wp2_with fail
    go_ret
    exact ⟨rfl, bstep h2 h3⟩
  · have HC := Lib.hid (fun W => Cons_yes (S [48]) b W (by decide) hb (by rw [S_size]; simp; omega))
    have hv : vld (49 :: ([48] ++ b.data.toList)) = true := vld_cons (by decide) hb (by rw [len_eq]; simp; omega)
    have hp := hd_cons (a := [48]) (b := b.data.toList) (by decide)
    have hH := fun W => Head_yes (S (49 :: ([48] ++ b.data.toList))) W hv
    have hT := fun W => Tail_yes (S (49 :: ([48] ++ b.data.toList))) W hv
    rw [S_list, hp.1] at hH
    rw [S_list, hp.2] at hT
    have HH := Lib.hid hH; have HT := Lib.hid hT
    clear hb hz hp hv hH hT
    go_enter Try.func7, Try.ntmps7
    go_wp2_with fail
    refine (rValid_is true (S [48]) _ (by rw [S_size]; simp) (by decide)).mono ?_
    rintro e w1 ⟨rfl, rfl⟩
    go_wp2_with fail
    refine (rValid_is true b _ (by omega) H.out).mono ?_
    rintro e w1 ⟨rfl, rfl⟩
    go_wp2_with fail
    refine (HC.out _).mono ?_
    rintro e w2 ⟨rfl, h2⟩
    go_wp2_with fail
    refine (HH.out _).mono ?_
    rintro e w3 ⟨rfl, h3⟩
    go_wp2_with fail
    refine (HT.out _).mono ?_
    rintro e w4 ⟨rfl, h4⟩
    go_wp2_with fail
    refine (awake_any _).mono ?_
    rintro e w5 ⟨rfl, h5⟩
    go_wp2_with fail
    go_ret
    exact ⟨rfl, bstep (bstep (bstep h2 h3) h4) h5⟩

set_option maxHeartbeats 1600000 in
set_option maxRecDepth 100000 in
theorem parts_pair (a b : ByteArray) (w : World) (ha : vld a.data.toList = true) (hb : vld b.data.toList = true) (hn : a.data.toList ≠ [48]) :
    Calls Try.prog 7 #[.string a, .string b] w fun e w' => e = .returned (.bool true) ∧ Below w.heap.size w w' := by
  have hs := vld_size hb
  have hsa := vld_size ha
  have q1 := seq_ne (s := a) rfl
  have q2 := seq_ne (s := b) rfl
  have q0 := ne_str hn
  have H := Lib.hid hb
  have G := Lib.hid ha
  obtain ⟨c1, c2, c3⟩ := cons_hd_tl ha hn
  have hA := fun W => Head_yes a W ha
  have hB := fun W => Tail_yes a W ha
  have hC := fun W => Cons_yes (S (hd a.data.toList)) (S (tl a.data.toList)) W c2 c3 (by rw [S_size, S_size]; have := congrArg List.length c1; simp at this; have := len_eq a; simp at this; omega)
  simp only [c1] at hC
  have HA := Lib.hid hA; have HB := Lib.hid hB; have HC0 := Lib.hid hC
  clear hA hB hC
  generalize hd a.data.toList = x at *
  generalize tl a.data.toList = y at *
  rcases Nat.lt_or_ge 2000000 (1 + a.size + b.size) with hz | hz
  · have HC := Lib.hid (fun W => Cons_size a b W ha hb hz)
    clear hb ha hz c1 c2 c3 hn
    go_enter Try.func7, Try.ntmps7
    go_wp2_with fail
    refine (rValid_is true a _ (by omega) G.out).mono ?_
    rintro e w1 ⟨rfl, rfl⟩
    go_wp2_with fail
    refine (rValid_is true b _ (by omega) H.out).mono ?_
    rintro e w1 ⟨rfl, rfl⟩
    go_wp2_with fail
    refine (HA.out _).mono ?_
    rintro e wa ⟨rfl, ha⟩
    go_wp2_with fail
    refine (HB.out _).mono ?_
    rintro e wb ⟨rfl, hb⟩
    go_wp2_with fail
    refine (HC0.out _).mono ?_
    rintro e wc ⟨rfl, hc⟩
    go_wp2_with fail
    refine (HC.out _).mono ?_
    rintro e w2 ⟨rfl, h2⟩
    go_wp2_with fail
    refine (awake_any _).mono ?_
    rintro e w3 ⟨rfl, h3⟩
    go_wp2_with fail
    go_ret
    exact ⟨rfl, bstep (bstep (bstep (bstep ha hb) hc) h2) h3⟩
  · have HC := Lib.hid (fun W => Cons_yes a b W ha hb hz)
    have hv : vld (49 :: (a.data.toList ++ b.data.toList)) = true := vld_cons ha hb (by rw [len_eq, len_eq]; omega)
    have hp := hd_cons (a := a.data.toList) (b := b.data.toList) ha
    have hH := fun W => Head_yes (S (49 :: (a.data.toList ++ b.data.toList))) W hv
    have hT := fun W => Tail_yes (S (49 :: (a.data.toList ++ b.data.toList))) W hv
    rw [S_list, hp.1] at hH
    rw [S_list, hp.2] at hT
    have HH := Lib.hid hH; have HT := Lib.hid hT
    clear hb ha hz c1 c2 c3 hn hp hv hH hT
    go_enter Try.func7, Try.ntmps7
    go_wp2_with fail
    refine (rValid_is true a _ (by omega) G.out).mono ?_
    rintro e w1 ⟨rfl, rfl⟩
    go_wp2_with fail
    refine (rValid_is true b _ (by omega) H.out).mono ?_
    rintro e w1 ⟨rfl, rfl⟩
    go_wp2_with fail
    refine (HA.out _).mono ?_
    rintro e wa ⟨rfl, ha⟩
    go_wp2_with fail
    refine (HB.out _).mono ?_
    rintro e wb ⟨rfl, hb⟩
    go_wp2_with fail
    refine (HC0.out _).mono ?_
    rintro e wc ⟨rfl, hc⟩
    go_wp2_with fail
    refine (HC.out _).mono ?_
    rintro e w2 ⟨rfl, h2⟩
    go_wp2_with fail
    refine (HH.out _).mono ?_
    rintro e w3 ⟨rfl, h3⟩
    go_wp2_with fail
    refine (HT.out _).mono ?_
    rintro e w4 ⟨rfl, h4⟩
    go_wp2_with fail
    refine (awake_any _).mono ?_
    rintro e w5 ⟨rfl, h5⟩
    go_wp2_with fail
    go_ret
    exact ⟨rfl, bstep (bstep (bstep (bstep (bstep (bstep ha hb) hc) h2) h3) h4) h5⟩
theorem TreeParts_any (a b : ByteArray) (w : World) (ha : a.size ≤ 281474976710656) (hb : b.size ≤ 281474976710656) :
    Calls Try.prog 7 #[.string a, .string b] w fun e w' => e = .returned (.bool true) ∧ Below w.heap.size w w' := by
  cases g : (vld a.data.toList && vld b.data.toList) with
  | false => exact parts_no a b w ha hb g
  | true =>
    rw [Bool.and_eq_true] at g
    by_cases h0 : a.data.toList = [48]
    · obtain rfl : a = S [48] := S_inj h0
      exact parts_zero b w g.2
    · exact parts_pair a b w g.1 g.2 h0
end Go.Proofs.Ytkodkimdhalpcaa
