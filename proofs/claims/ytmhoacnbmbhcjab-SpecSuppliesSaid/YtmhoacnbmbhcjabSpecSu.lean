/- The statement SpecSupplies, walked. By an AI agent. -/
import Derived.Test.YtmhoacnbmbhcjabSp5
import Derived.Test.YtmhoacnbmbhcjabPly
namespace Go.Proofs.Ytmhoacnbmbhcjab
open Go.RowKit Pl

set_option maxHeartbeats 1600000 in
set_option maxRecDepth 100000 in
/-- what is not valid: nothing is asked -/
theorem specSup_out (w : World) (v : Value) (d x : List UInt8) (f : Int) (p : List Ins) (h : ArgP w v p) (hl : p.length * 48 ≤ 140737488355328) (hz : ∀ x ∈ p, x.tree.length ≤ 281474976710656) (hd : d.length ≤ 281474976710656) (hx : x.length ≤ 281474976710656) (hn : ¬ PValid p ∨ vld d = false ∨ vld x = false ∨ f < 0 ∨ 9999997 < f) :
    Calls Try.prog 9 #[v, .string (S d), .string (S x), .int .i64 f] w fun e w' => e = .returned (.bool true) ∧ Below w.heap.size w w' := by
  obtain ⟨r, hr⟩ := pv_bool p
  have HV := Lib.hid (PV_arg w v p r h (by omega) hz hr)
  obtain ⟨b1, hb1⟩ : ∃ b, vld d = b := ⟨_, rfl⟩
  obtain ⟨b2, hb2⟩ : ∃ b, vld x = b := ⟨_, rfl⟩
  have HRV := Lib.hid (fun W => rValid_eq b1 (S d) W (by rw [S_size]; exact hd) (by rw [S_list]; exact hb1))
  have HRX := Lib.hid (fun W => rValid_eq b2 (S x) W (by rw [S_size]; exact hx) (by rw [S_list]; exact hb2))
  rw [hb1, hb2, ← hr] at hn
  clear h hl hz hd hx hr hb1 hb2
  cases r with
  | false =>
    clear hn
    go_enter Try.func9, Try.ntmps9
    go_wp2_with fail
    refine HV.out.mono ?_
    rintro e w1 ⟨rfl, h1⟩
    go_wp2_with fail
    refine (awake5_any _).mono ?_
    rintro e w2 ⟨rfl, h2⟩
    go_wp2_with fail
    go_ret
    exact ⟨rfl, bstep h1 h2⟩
  | true =>
    cases b1 with
    | false =>
      clear hn
      go_enter Try.func9, Try.ntmps9
      go_wp2_with fail
      refine HV.out.mono ?_
      rintro e w1 ⟨rfl, h1⟩
      go_wp2_with fail
      refine (HRV.out _).mono ?_
      rintro e w5 ⟨rfl, rfl⟩
      go_wp2_with fail
      refine (awake5_any _).mono ?_
      rintro e w2 ⟨rfl, h2⟩
      go_wp2_with fail
      go_ret
      exact ⟨rfl, bstep h1 h2⟩
    | true =>
      cases b2 with
      | false =>
        clear hn
        go_enter Try.func9, Try.ntmps9
        go_wp2_with fail
        refine HV.out.mono ?_
        rintro e w1 ⟨rfl, h1⟩
        go_wp2_with fail
        refine (HRV.out _).mono ?_
        rintro e w5 ⟨rfl, rfl⟩
        go_wp2_with fail
        refine (HRX.out _).mono ?_
        rintro e w6 ⟨rfl, rfl⟩
        go_wp2_with fail
        refine (awake5_any _).mono ?_
        rintro e w2 ⟨rfl, h2⟩
        go_wp2_with fail
        go_ret
        exact ⟨rfl, bstep h1 h2⟩
      | true =>
        have hf3 : f < 0 ∨ (0 ≤ f ∧ 9999997 < f) := by
          rcases hn with h | h | h | h | h
          · exact absurd rfl h
          · cases h
          · cases h
          · exact .inl h
          · exact .inr ⟨by omega, h⟩
        clear hn
        rcases hf3 with hf4 | ⟨hf4, hf5⟩
        all_goals
          go_enter Try.func9, Try.ntmps9
          go_wp2_with fail
          refine HV.out.mono ?_
          rintro e w1 ⟨rfl, h1⟩
          go_wp2_with fail
          refine (HRV.out _).mono ?_
          rintro e w5 ⟨rfl, rfl⟩
          go_wp2_with fail
          refine (HRX.out _).mono ?_
          rintro e w6 ⟨rfl, rfl⟩
          go_wp2_with fail
          refine (awake5_any _).mono ?_
          rintro e w2 ⟨rfl, h2⟩
          go_wp2_with fail
          go_ret
          exact ⟨rfl, bstep h1 h2⟩
theorem spec_out_big {p : List Ins} {d x : List UInt8} (hp : PValid p) (hd : vld d = true) (hx : vld x = true) (hb : 2000000 ≤ d.length + x.length) {K : Nat} : out (specL p d) (K + 3) (first (rd x)) = .size := by
  have h := spec_out (d := rd d) hp (x := rd x) K
  rw [tx_rd hd, if_neg (by rw [tx_pair, tx_rd hd, tx_rd hx]; omega)] at h
  exact h
theorem rd_two {d x : List UInt8} (hd : vld d = true) (hx : vld x = true) : rd (49 :: (d ++ x)) = .pair (rd d) (rd x) := by
  have h : tx (.pair (rd d) (rd x)) = 49 :: (d ++ x) := by simp [tx, tx_rd hd, tx_rd hx]
  rw [← h, rd_tx]
theorem spec_out_ok {p : List Ins} {d x : List UInt8} (hp : PValid p) (hd : vld d = true) (hx : vld x = true) (hb : d.length + x.length < 2000000) {K : Nat} : out (specL p d) (K + 3) (first (rd x)) = (out p K (first (rd (49 :: (d ++ x))))).later 3 := by
  have h := spec_out (d := rd d) hp (x := rd x) K
  rw [tx_rd hd, if_pos (by rw [tx_pair, tx_rd hd, tx_rd hx]; omega)] at h
  rw [rd_two hd hx]; exact h
theorem vld_two {d x : List UInt8} (hd : vld d = true) (hx : vld x = true) (hb : d.length + x.length < 2000000) : vld (49 :: (d ++ x)) = true := by
  have h : tx (.pair (rd d) (rd x)) = 49 :: (d ++ x) := by simp [tx, tx_rd hd, tx_rd hx]
  rw [← h]; exact vld_tx (by rw [tx_pair, tx_rd hd, tx_rd hx]; omega)
theorem cat_two (d x : List UInt8) : (⟨#[49]⟩ : ByteArray) ++ S d ++ S x = S (49 :: (d ++ x)) := by
  apply ByteArray.ext; simp [S]
set_option maxHeartbeats 1600000 in
set_option maxRecDepth 100000 in
theorem specSup_size (w : World) (v : Value) (d x : List UInt8) (K : Nat) (p : List Ins) (h : ArgP w v p) (hp : PValid p) (hd : vld d = true) (hx : vld x = true) (hK : K ≤ 9999997) (hn : ¬ FitsP (specL p d)) :
    Calls Try.prog 9 #[v, .string (S d), .string (S x), .int .i64 (K : Int)] w fun e w' => e = .returned (.bool true) ∧ Below w.heap.size w w' := by
  have hd1 := (vld_iff.1 hd).1; have hx1 := (vld_iff.1 hx).1
  have hl := hp.1
  have HV := Lib.hid (fun W h => PV_arg W v p true h (by omega) (fun x hx => by have := pvalid_tree hp hx; omega) (by simp [hp]))
  have HRV := Lib.hid (fun W => rValid_eq true (S d) W (by rw [S_size]; omega) (by rw [S_list]; exact hd))
  have HRX := Lib.hid (fun W => rValid_eq true (S x) W (by rw [S_size]; omega) (by rw [S_list]; exact hx))
  have HT := Lib.hid (fun W h => twin_any W v p h (by omega))
  have HSP := Lib.hid (fun W u h => Spec_yes W u p d h hp hd)
  rw [specDue_size hp hd hn] at HSP
  have HA := Lib.hid h
  obtain ⟨a, c, rfl⟩ := h.form
  have k0 : (0 : Int) ≤ (K : Int) := by omega
  have k1 : (K : Int) ≤ 9999997 := by omega
  clear h hp hd hx hl hK hd1 hx1 hn
  generalize p.length = q at *
  generalize S d = sd at *
  generalize S x = sx at *
  go_enter Try.func9, Try.ntmps9
  go_wp2_with fail
  refine (HV.out _ HA.out).mono ?_
  rintro e w1 ⟨rfl, h1⟩
  go_wp2_with fail
  refine (HRV.out _).mono ?_
  rintro e w5 ⟨rfl, rfl⟩
  go_wp2_with fail
  refine (HRX.out _).mono ?_
  rintro e w6 ⟨rfl, rfl⟩
  have HB1 := Lib.hid h1
  clear h1
  go_wp2_with fail
  refine (HT.out _ (HA.out.below HB1.out)).mono ?_
  rintro e w2 ⟨v2, rfl, ha2, h2⟩
  have HA2 := Lib.hid ha2; have HB2 := Lib.hid (bstep HB1.out h2)
  clear ha2 h2
  go_wp2_with fail
  refine (HSP.out _ _ HA2.out).mono ?_
  rintro e w3 ⟨h3, ⟨h0, _⟩ | ⟨_, rfl⟩⟩
  · exact absurd h0 (by decide)
  · have HB3 := Lib.hid (bstep HB2.out h3)
    clear h3
    go_wp2_with fail
    refine (awake5_any _).mono ?_
    rintro e w4 ⟨rfl, h4⟩
    have HB4 := Lib.hid (bstep HB3.out h4)
    clear h4
    go_wp2_with fail
    go_ret
    exact ⟨rfl, HB4.out⟩
set_option maxHeartbeats 1600000 in
set_option maxRecDepth 100000 in
theorem specSup_big (w : World) (v : Value) (d x : List UInt8) (K : Nat) (p : List Ins) (h : ArgP w v p) (hp : PValid p) (hd : vld d = true) (hx : vld x = true) (hK : K ≤ 9999997) (hn : FitsP (specL p d)) (hb : 2000000 ≤ d.length + x.length) :
    Calls Try.prog 9 #[v, .string (S d), .string (S x), .int .i64 (K : Int)] w fun e w' => e = .returned (.bool true) ∧ Below w.heap.size w w' := by
  have hd1 := (vld_iff.1 hd).1; have hx1 := (vld_iff.1 hx).1
  have hl := hp.1
  have HV := Lib.hid (fun W h => PV_arg W v p true h (by omega) (fun x hx => by have := pvalid_tree hp hx; omega) (by simp [hp]))
  have HRV := Lib.hid (fun W => rValid_eq true (S d) W (by rw [S_size]; omega) (by rw [S_list]; exact hd))
  have HRX := Lib.hid (fun W => rValid_eq true (S x) W (by rw [S_size]; omega) (by rw [S_list]; exact hx))
  have HT := Lib.hid (fun W h => twin_any W v p h (by omega))
  have HSP := Lib.hid (fun W u h => Spec_yes W u p d h hp hd)
  rw [specDue_yes hp hd hn] at HSP
  have HR := Lib.hid (fun W u h => Run_yes W u (specL p d) (S x) (K + 3) h ((fits_valid (allR_spec hp hd)).2 hn) (by rw [S_list]; exact hx) (by omega))
  rw [S_list, out_res, spec_out_big hp hd hx hb] at HR
  rw [show ((K + 3 : Nat) : Int) = (K : Int) + 3 from by omega] at HR
  have HA := Lib.hid h
  obtain ⟨a, c, rfl⟩ := h.form
  have k0 : (0 : Int) ≤ (K : Int) := by omega
  have k1 : (K : Int) ≤ 9999997 := by omega
  have n1 : ((S d).size : Int) ≤ 2000000 := by rw [S_size]; omega
  have n2 : ((S x).size : Int) ≤ 2000000 := by rw [S_size]; omega
  have n3 : (2000000 : Int) ≤ ((S d).size : Int) + ((S x).size : Int) := by rw [S_size, S_size]; omega
  have NN := Lib.hid (And.intro n1 (And.intro n2 n3))
  clear n1 n2 n3
  clear h hp hd hx hl hK hd1 hx1 hn hb
  generalize p.length = q at *
  generalize S d = sd at *
  generalize S x = sx at *
  go_enter Try.func9, Try.ntmps9
  go_wp2_with fail
  refine (HV.out _ HA.out).mono ?_
  rintro e w1 ⟨rfl, h1⟩
  go_wp2_with fail
  refine (HRV.out _).mono ?_
  rintro e w5 ⟨rfl, rfl⟩
  go_wp2_with fail
  refine (HRX.out _).mono ?_
  rintro e w6 ⟨rfl, rfl⟩
  have HB1 := Lib.hid h1
  clear h1
  go_wp2_with fail
  refine (HT.out _ (HA.out.below HB1.out)).mono ?_
  rintro e w2 ⟨v2, rfl, ha2, h2⟩
  have HA2 := Lib.hid ha2; have HB2 := Lib.hid (bstep HB1.out h2)
  clear ha2 h2
  go_wp2_with fail
  refine (HSP.out _ _ HA2.out).mono ?_
  rintro e w3 ⟨h3, ⟨_, v3, rfl, ha3⟩ | ⟨h0, _⟩⟩
  · have HB3 := Lib.hid (bstep HB2.out h3); have HA3 := Lib.hid ha3
    clear h3 ha3
    go_wp2_with fail
    refine (HR.out _ _ HA3.out).mono ?_
    rintro e w4 ⟨rfl, h4⟩
    have HB4 := Lib.hid (bstep HB3.out h4)
    clear h4
    obtain ⟨n1, n2, n3⟩ := NN.out
    go_wp2_with fail
    refine (awake5_any _).mono ?_
    rintro e w7 ⟨rfl, h7⟩
    have HB7 := Lib.hid (bstep HB4.out h7)
    clear h7
    go_wp2_with fail
    go_ret
    exact ⟨rfl, HB7.out⟩
  · exact absurd rfl h0
set_option maxHeartbeats 1600000 in
set_option maxRecDepth 100000 in
theorem specSup_run (w : World) (v : Value) (d x : List UInt8) (K : Nat) (p : List Ins) (h : ArgP w v p) (hp : PValid p) (hd : vld d = true) (hx : vld x = true) (hK : K ≤ 9999997) (hn : FitsP (specL p d)) (hb : d.length + x.length < 2000000) :
    Calls Try.prog 9 #[v, .string (S d), .string (S x), .int .i64 (K : Int)] w fun e w' => e = .returned (.bool true) ∧ Below w.heap.size w w' := by
  have hd1 := (vld_iff.1 hd).1; have hx1 := (vld_iff.1 hx).1
  have hl := hp.1
  have HV := Lib.hid (fun W h => PV_arg W v p true h (by omega) (fun x hx => by have := pvalid_tree hp hx; omega) (by simp [hp]))
  have HRV := Lib.hid (fun W => rValid_eq true (S d) W (by rw [S_size]; omega) (by rw [S_list]; exact hd))
  have HRX := Lib.hid (fun W => rValid_eq true (S x) W (by rw [S_size]; omega) (by rw [S_list]; exact hx))
  have HT := Lib.hid (fun W h => twin_any W v p h (by omega))
  have HSP := Lib.hid (fun W u h => Spec_yes W u p d h hp hd)
  rw [specDue_yes hp hd hn] at HSP
  have HR := Lib.hid (fun W u h => Run_yes W u (specL p d) (S x) (K + 3) h ((fits_valid (allR_spec hp hd)).2 hn) (by rw [S_list]; exact hx) (by omega))
  rw [S_list, out_res, spec_out_ok hp hd hx hb] at HR
  have HR2 := Lib.hid (fun W u h => Run_yes W u p (S (49 :: (d ++ x))) K h hp (by rw [S_list]; exact vld_two hd hx hb) (by omega))
  rw [S_list, out_res] at HR2
  rw [show ((K + 3 : Nat) : Int) = (K : Int) + 3 from by omega] at HR
  have HA := Lib.hid h
  obtain ⟨a, c, rfl⟩ := h.form
  have k0 : (0 : Int) ≤ (K : Int) := by omega
  have k1 : (K : Int) ≤ 9999997 := by omega
  have n1 : ((S d).size : Int) ≤ 2000000 := by rw [S_size]; omega
  have n2 : ((S x).size : Int) ≤ 2000000 := by rw [S_size]; omega
  have n3 : decide ((2000000 : Int) ≤ ((S d).size : Int) + ((S x).size : Int)) = false := by rw [decide_eq_false_iff_not, S_size, S_size]; omega
  have HKN := Lib.hid hK
  have HON := Lib.hid (fun y n (h : out p K (first (rd (49 :: (d ++ x)))) = .ok y n) => (out_ok h).choose_spec.2.1)
  have HC := Lib.hid (cat_two d x)
  generalize out p K (first (rd (49 :: (d ++ x)))) = o at *
  have NN := Lib.hid (And.intro n1 (And.intro n2 n3))
  clear n1 n2 n3
  clear h hp hd hx hl hK hd1 hx1 hn hb
  generalize p.length = q at *
  generalize S d = sd at *
  generalize S x = sx at *
  go_enter Try.func9, Try.ntmps9
  go_wp2_with fail
  refine (HV.out _ HA.out).mono ?_
  rintro e w1 ⟨rfl, h1⟩
  go_wp2_with fail
  refine (HRV.out _).mono ?_
  rintro e w5 ⟨rfl, rfl⟩
  go_wp2_with fail
  refine (HRX.out _).mono ?_
  rintro e w6 ⟨rfl, rfl⟩
  have HB1 := Lib.hid h1
  clear h1
  go_wp2_with fail
  refine (HT.out _ (HA.out.below HB1.out)).mono ?_
  rintro e w2 ⟨v2, rfl, ha2, h2⟩
  have HA2 := Lib.hid ha2; have HB2 := Lib.hid (bstep HB1.out h2)
  clear ha2 h2
  go_wp2_with fail
  refine (HSP.out _ _ HA2.out).mono ?_
  rintro e w3 ⟨h3, ⟨_, v3, rfl, ha3⟩ | ⟨h0, _⟩⟩
  · have HB3 := Lib.hid (bstep HB2.out h3); have HA3 := Lib.hid ha3
    clear h3 ha3
    go_wp2_with fail
    refine (HR.out _ _ HA3.out).mono ?_
    rintro e w4 ⟨rfl, h4⟩
    have HB4 := Lib.hid (bstep HB3.out h4)
    clear h4
    obtain ⟨n1, n2, n3⟩ := NN.out
    have HA4 := Lib.hid (HA.out.below HB4.out)
    cases o with
    | ok y n =>
      simp only [Out.later]
      have hn1 := HON.out y n rfl
      have := HKN.out
      have hn2 : (n : Int) ≤ 9999997 := by omega
      have hn3 : IntKind.i64.wrap ((n : Int) + 3) = (n : Int) + 3 := by rw [IntKind.wrap_i64]; omega
      have HN3 := Lib.hid hn3; have HN2 := Lib.hid hn2
      clear hn1 hn2 hn3
      go_wp2_with fail
      refine (HT.out _ HA4.out).mono ?_
      rintro e w7 ⟨v7, rfl, ha7, h7⟩
      have HA7 := Lib.hid ha7; have HB7 := Lib.hid (bstep HB4.out h7)
      clear ha7 h7
      go_wp2_with fail
      rw [HC.out]
      refine (HR2.out _ _ HA7.out).mono ?_
      rintro e w8 ⟨rfl, h8⟩
      have HB8 := Lib.hid (bstep HB7.out h8)
      clear h8 n1 n2 n3
      have hn3 := HN3.out; have hn2 := HN2.out
      generalize S (tx y) = sy at *
      go_wp2_with fail
      refine (awake5_any _).mono ?_
      rintro e w9 ⟨rfl, h9⟩
      have HB9 := Lib.hid (bstep HB8.out h9)
      clear h9
      go_wp2_with fail
      go_ret
      exact ⟨rfl, HB9.out⟩
    | size =>
      simp only [Out.later]
      go_wp2_with fail
      refine (HT.out _ HA4.out).mono ?_
      rintro e w7 ⟨v7, rfl, ha7, h7⟩
      have HA7 := Lib.hid ha7; have HB7 := Lib.hid (bstep HB4.out h7)
      clear ha7 h7
      go_wp2_with fail
      rw [HC.out]
      refine (HR2.out _ _ HA7.out).mono ?_
      rintro e w8 ⟨rfl, h8⟩
      have HB8 := Lib.hid (bstep HB7.out h8)
      clear h8 n1 n2 n3
      go_wp2_with fail
      refine (awake5_any _).mono ?_
      rintro e w9 ⟨rfl, h9⟩
      have HB9 := Lib.hid (bstep HB8.out h9)
      clear h9
      go_wp2_with fail
      go_ret
      exact ⟨rfl, HB9.out⟩
    | fuel =>
      simp only [Out.later]
      go_wp2_with fail
      refine (HT.out _ HA4.out).mono ?_
      rintro e w7 ⟨v7, rfl, ha7, h7⟩
      have HA7 := Lib.hid ha7; have HB7 := Lib.hid (bstep HB4.out h7)
      clear ha7 h7
      go_wp2_with fail
      rw [HC.out]
      refine (HR2.out _ _ HA7.out).mono ?_
      rintro e w8 ⟨rfl, h8⟩
      have HB8 := Lib.hid (bstep HB7.out h8)
      clear h8 n1 n2 n3
      go_wp2_with fail
      refine (awake5_any _).mono ?_
      rintro e w9 ⟨rfl, h9⟩
      have HB9 := Lib.hid (bstep HB8.out h9)
      clear h9
      go_wp2_with fail
      go_ret
      exact ⟨rfl, HB9.out⟩
  · exact absurd rfl h0
theorem SpecSupplies_any (w : World) (v : Value) (s x : ByteArray) (f : Int) (p : List Ins) (h : ArgP w v p) (hl : p.length * 48 ≤ 140737488355328) (hz : ∀ x ∈ p, x.tree.length ≤ 281474976710656) (hs : s.size ≤ 281474976710656) (hx : x.size ≤ 281474976710656) :
    Calls Try.prog 9 #[v, .string s, .string x, .int .i64 f] w fun e w' => e = .returned (.bool true) ∧ Below w.heap.size w w' := by
  have e1 : S s.data.toList = s := by simp [S]
  have e2 : S x.data.toList = x := by simp [S]
  have hd : s.data.toList.length ≤ 281474976710656 := by rw [len_eq]; exact hs
  have hd2 : x.data.toList.length ≤ 281474976710656 := by rw [len_eq]; exact hx
  rw [← e1, ← e2]
  generalize s.data.toList = d at *
  generalize x.data.toList = y at *
  by_cases hn : ¬ PValid p ∨ vld d = false ∨ vld y = false ∨ f < 0 ∨ 9999997 < f
  · exact specSup_out w v d y f p h hl hz hd hd2 hn
  have hp : PValid p := Classical.byContradiction fun h0 => hn (.inl h0)
  have hdv : vld d = true := by
    cases hv : vld d with
    | true => rfl
    | false => exact absurd (.inr (.inl hv)) hn
  have hyv : vld y = true := by
    cases hv : vld y with
    | true => rfl
    | false => exact absurd (.inr (.inr (.inl hv))) hn
  have hf : 0 ≤ f ∧ f ≤ 9999997 := by
    constructor
    · exact Classical.byContradiction fun h0 => hn (.inr (.inr (.inr (.inl (by omega)))))
    · exact Classical.byContradiction fun h0 => hn (.inr (.inr (.inr (.inr (by omega)))))
  clear hn
  obtain ⟨K, rfl⟩ : ∃ K : Nat, f = (K : Int) := ⟨f.toNat, by omega⟩
  by_cases hfi : FitsP (specL p d)
  · by_cases hb : 2000000 ≤ d.length + y.length
    · exact specSup_big w v d y K p h hp hdv hyv (by omega) hfi hb
    · exact specSup_run w v d y K p h hp hdv hyv (by omega) hfi (by omega)
  · exact specSup_size w v d y K p h hp hdv hyv (by omega) hfi
end Go.Proofs.Ytmhoacnbmbhcjab
