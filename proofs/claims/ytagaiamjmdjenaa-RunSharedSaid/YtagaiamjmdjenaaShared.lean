/- RunShared: its walk. By an AI agent. -/
import Derived.Test.YtagaiamjmdjenaaAwk
import Derived.Test.YtagaiamjmdjenaaAft
import Derived.Test.YtagaiamjmdjenaaMore
namespace Go.Proofs.Ytagaiamjmdjenaa
open Go.RowKit Pl

theorem tmod_two (c : Int) (n : Nat) (h : 0 < n) : -(n : Int) < c.tmod n ∧ c.tmod n < n := by
  have h1 := Int.tmod_lt_of_pos c (b := (n : Int)) (by omega)
  have h2 := Int.tmod_lt_of_pos (-c) (b := (n : Int)) (by omega)
  rw [Int.neg_tmod] at h2
  omega
theorem dbl_few {t : Tr} {j : Nat} (h : (tx (dbl t j)).length ≤ 2000000) : j < 20 := by
  have h1 := dbl_len t j
  have h2 : 2 ^ j * 2 ≤ 2 ^ j * ((tx t).length + 1) := Nat.mul_le_mul_left _ (by have := tx_pos t; omega)
  by_cases h3 : j < 20
  · exact h3
  · have h4 : 2 ^ 20 ≤ 2 ^ j := Nat.pow_le_pow_right (by decide) (by omega)
    have h5 : (2 : Nat) ^ 20 = 1048576 := by decide
    omega
/-- the numbers of the law -/
theorem less_is (less : Int) (J : Nat) (hJ : J ≤ 20) : ∃ (z1 z2 z3 z4 : Int) (k : Nat), less.tmod ((2 * J + 1 : Nat) : Int) = z1 ∧ IntKind.i64.wrap (z1 + ((2 * J + 2 : Nat) : Int)) = z2 ∧ IntKind.i64.wrap (z2 - 1) = z3 ∧ 0 ≤ z3 ∧ z3.tmod ((2 * J + 1 : Nat) : Int) = z4 ∧ z3 % ((2 * J + 1 : Nat) : Int) = z4 ∧ IntKind.i64.wrap (((2 * J : Nat) : Int) - z4) = (k : Int) ∧ k ≤ 2 * J := by
  have h1 := tmod_two less (2 * J + 1) (by omega)
  have h0 : 0 ≤ less.tmod ((2 * J + 1 : Nat) : Int) + ((2 * J + 2 : Nat) : Int) - 1 := by omega
  have h2 := Int.emod_nonneg (less.tmod ((2 * J + 1 : Nat) : Int) + ((2 * J + 2 : Nat) : Int) - 1) (b := ((2 * J + 1 : Nat) : Int)) (by omega)
  have h3 := Int.emod_lt_of_pos (less.tmod ((2 * J + 1 : Nat) : Int) + ((2 * J + 2 : Nat) : Int) - 1) (b := ((2 * J + 1 : Nat) : Int)) (by omega)
  refine ⟨_, less.tmod ((2 * J + 1 : Nat) : Int) + ((2 * J + 2 : Nat) : Int), less.tmod ((2 * J + 1 : Nat) : Int) + ((2 * J + 2 : Nat) : Int) - 1, (less.tmod ((2 * J + 1 : Nat) : Int) + ((2 * J + 2 : Nat) : Int) - 1) % ((2 * J + 1 : Nat) : Int), (((2 * J : Nat) : Int) - (less.tmod ((2 * J + 1 : Nat) : Int) + ((2 * J + 2 : Nat) : Int) - 1) % ((2 * J + 1 : Nat) : Int)).toNat, rfl, ?_, ?_, h0, Int.tmod_eq_emod_of_nonneg h0, rfl, ?_, ?_⟩
  · exact Go.IntWalk.i64_in _ (by omega)
  · exact Go.IntWalk.i64_in _ (by omega)
  · rw [Go.IntWalk.i64_in _ (by omega)]; omega
  · omega
set_option maxHeartbeats 3200000 in
set_option maxRecDepth 100000 in
theorem shared_no (w : World) (x : ByteArray) (less : Int) (hx : x.size ≤ 281474976710656) (hv : vld x.data.toList = false) :
    Calls Try.prog 9 #[.string x, .int .i64 less] w (Awake3 w) := by
  have HX := Lib.hid (fun W => rValid_eq false x W hx hv)
  clear hx hv
  go_enter Try.func9, Try.ntmps9
  go_wp2_with fail
  refine (HX.out _).mono ?_
  rintro e w2 ⟨rfl, rfl⟩
  go_wp2_with fail
  refine (awake3_any _).mono ?_
  rintro e w9 ⟨rfl, h9⟩
  go_wp2
  go_ret
  exact ⟨rfl, h9⟩
set_option maxHeartbeats 3200000 in
set_option maxRecDepth 100000 in
theorem shared_yes (w : World) (x : ByteArray) (less : Int) (hv : vld x.data.toList = true) :
    Calls Try.prog 9 #[.string x, .int .i64 less] w (Awake3 w) := by
  have HX := Lib.hid (fun W => rValid_eq true x W (by have := vld_size hv; omega) hv)
  have HR := Lib.hid (fun K (hk : K ≤ 10000000) W v h => Run_yes W v pDbl x K h pDbl_valid hv hk)
  have HF := Lib.hid (fun K s n (hk : K ≤ 10000000) hr W v h => After_some W v pDbl x K n s h pDbl_valid hv hk hr)
  have HT0 : Hid (x.size = (tx (dbl (rd x.data.toList) 0)).length) := Lib.hid (by rw [dbl, tx_rd hv, len_eq])
  have H00 : Hid ((tx (dbl (rd x.data.toList) 0)).length ≤ 2000000) := Lib.hid (by rw [← HT0.out]; exact vld_size hv)
  clear hv
  generalize rd x.data.toList = t at *
  go_enter Try.func9, Try.ntmps9
  go_wp2_with fail
  refine (HX.out _).mono ?_
  rintro e w2 ⟨rfl, rfl⟩
  go_wp2_with fail
  go_loop [5, 6] (fun a b => ∃ j : Nat, j ≤ 20 ∧ a = .int .i64 ((tx (dbl t j)).length : Int) ∧ b = .int .i64 ((2 * j : Nat) : Int) ∧ Hid (∀ i, i < j → (tx (dbl t i)).length ≤ 2000000)) (fun _ b => 42 - (intOf b).toNat)
  case atStart => exact ⟨0, Nat.zero_le _, by rw [HT0.out], rfl, Lib.hid fun i hi => absurd hi (Nat.not_lt_zero _)⟩
  case round =>
    obtain ⟨j, hj, rfl, rfl, HJ⟩ := hrel
    have hs := dbl_succ_len t j
    by_cases hc : (tx (dbl t j)).length ≤ 2000000
    · have hfew := dbl_few hc
      have HJ2 : Hid (∀ i, i < j + 1 → (tx (dbl t i)).length ≤ 2000000) := Lib.hid fun i hi => by
        rcases Nat.lt_or_ge i j with h | h
        · exact HJ.out i h
        · obtain rfl : i = j := by omega
          exact hc
      generalize (tx (dbl t j)).length = c at *
      have hc1 : (c : Int) ≤ 2000000 := by omega
      have HC := Lib.hid hc; have HS := Lib.hid hs
      clear hc hs
      go_wp2_with fail
      go_round
      case rel => exact ⟨j + 1, by omega, by rw [HS.out]; go_num, by go_num, HJ2⟩
      case measure => simp [intOf]; omega
    · obtain ⟨J, rfl⟩ : ∃ J, j = J + 1 := ⟨j - 1, by
        rcases Nat.eq_zero_or_pos j with h | h
        · subst h; exact absurd H00.out hc
        · omega⟩
      have hJ := HJ.out J (by omega)
      have hJ2 : J < 20 := dbl_few hJ
      have hnone : ∀ K, 2 * J < K → runTo pDbl K (first t) = none := fun K hK => dbl_none hJ hc hK
      have hrun : ∀ K, K ≤ 2 * J → runTo pDbl K (first t) = some (dblSt t K, K) := fun K hK => dbl_run hJ hK
      have HR1 := Lib.hid (HR.out (2 * J + 1) (by omega))
      rw [res_none (hnone _ (by omega))] at HR1
      have HR2 := Lib.hid (HR.out (2 * J) (by omega))
      rw [res_fuel (hrun _ (by omega)) (dblSt_at t _)] at HR2
      obtain ⟨z1, z2, z3, z4, k, e1, e2, e3, e4, e5, e6, e7, hk⟩ := less_is less J (by omega)
      have HR3 := Lib.hid (HF.out k (dblSt t k) k (by omega) (hrun k hk))
      have HD := Lib.hid (hrun k hk)
      have HC : Hid (∀ i, i ≤ (k + 1) / 2 → (tx (dbl t i)).length ≤ 2000000) := Lib.hid fun i hi => HJ.out i (by omega)
      have hp : IntKind.i64.wrap (((2 * (J + 1) : Nat) : Int) - 1) = ((2 * J + 1 : Nat) : Int) := by rw [Go.IntWalk.i64_in _ (by omega)]; omega
      have hr : IntKind.i64.wrap (((2 * (J + 1) : Nat) : Int) - 2) = ((2 * J : Nat) : Int) := by rw [Go.IntWalk.i64_in _ (by omega)]; omega
      have hp0 : ((2 * J + 1 : Nat) : Int) ≠ 0 := by omega
      have hgt : (2000000 : Int) < ((tx (dbl t (J + 1))).length : Int) := by omega
      have hq : ((2 * J + 2 : Nat) : Int) = ((2 * (J + 1) : Nat) : Int) := by omega
      rw [hq] at e2
      have HK := Lib.hid hk
      have HK40 : Hid (k ≤ 40) := Lib.hid (by omega)
      generalize (tx (dbl t (J + 1))).length = c at hgt ⊢
      generalize 2 * (J + 1) = q at *
      generalize 2 * J + 1 = p at *
      generalize 2 * J = r at *
      clear hs hc hJ hJ2 hnone hrun hq hj HJ HR HF hk
      go_wp2_with fail
      refine (doubles_any w).mono ?_
      rintro e w1 ⟨rfl, rfl⟩
      go_wp2_with fail
      refine (HR1.out _ _ (lit_prog w pDbl (by decide))).mono ?_
      rintro e w1 ⟨rfl, hb1⟩
      have hB1 : Below w.heap.size w w1 := ((Below.refl _ _).alloc (Nat.le_refl _) _).trans (hb1.mono (by simp))
      clear hb1
      go_wp2_with fail
      refine (doubles_any w1).mono ?_
      rintro e w2 ⟨rfl, rfl⟩
      go_wp2_with fail
      refine (HR2.out _ _ (lit_prog w1 pDbl (by decide))).mono ?_
      rintro e w2 ⟨rfl, hb2⟩
      have hB2 : Below w.heap.size w w2 := (hB1.alloc hB1.size _).trans (hb2.mono (by have := hB1.size; simp; omega))
      clear hb2 hB1
      go_wp2_with fail
      refine (doubles_any w2).mono ?_
      rintro e w3 ⟨rfl, rfl⟩
      go_wp2_with fail
      refine (HR3.out _ _ (lit_prog w2 pDbl (by decide))).mono ?_
      rintro e w3 ⟨hb3, he⟩
      rw [HD.out] at he
      obtain ⟨B, rfl, hB, hrow⟩ := he
      have hB3 : Below w.heap.size w w3 := (hB2.alloc hB2.size _).trans (hb3.mono (by have := hB2.size; simp; omega))
      have hc0 : w3.cell? ⟨B, 0, none⟩ = some (.string (S (tx (dbl t ((k + 1) / 2))))) := hrow.2 0 (by decide)
      have pb : Below w3.heap.size w3 (w3.alloc (.cells #[.int .i64 ((dblSt t k).at_ : Int), .slice (some ⟨B, 0, none⟩) 32 32] 26)) := (Below.refl _ _).alloc (Nat.le_refl _) _
      have p1 : (w3.alloc (.cells #[.int .i64 ((dblSt t k).at_ : Int), .slice (some ⟨B, 0, none⟩) 32 32] 26)).cell? ⟨w3.heap.size, 1, none⟩ = some (.slice (some ⟨B, 0, none⟩) 32 32) := by rw [World.cell?_alloc_new]; rfl
      have r0 := cell_keep pb hc0
      have HPB := Lib.hid (hB3.trans (pb.mono hB3.size))
      clear hb3 hB2 hB hrow hB3 pb hc0
      go_wp2_with fail
      generalize (w3.alloc (.cells #[.int .i64 ((dblSt t k).at_ : Int), .slice (some ⟨B, 0, none⟩) 32 32] 26)) = W at p1 r0 HPB ⊢
      obtain ⟨h, hh⟩ : ∃ h, h = (k + 1) / 2 := ⟨_, rfl⟩
      rw [← hh] at r0 HC
      have ek : ((k : Int) + 1) / 2 = (h : Int) := by omega
      have HK41 : Hid (h ≤ 40) := Lib.hid (by have := HK40.out; omega)
      have k40 : (k : Int) ≤ 40 := by have := HK40.out; omega
      have HV := Lib.hid (fun W => rValid_eq true (S (tx (dbl t h))) W (by rw [← len_eq, S_list]; have := HC.out h (Nat.le_refl _); omega) (by rw [S_list]; exact vld_tx (HC.out h (Nat.le_refl _))))
      have hsz : (S (tx (dbl t h))).size = (tx (dbl t h)).length := by rw [← len_eq, S_list]
      have HSZ := Lib.hid hsz
      clear hh HK HK40 hsz hp hr e1 e2 e3 e4 e5 e6 e7 hp0 hgt HR1 HR2 HR3 HD
      go_loop [17, 18] (fun a b => ∃ i : Nat, i ≤ h ∧ a = .int .i64 ((tx (dbl t i)).length : Int) ∧ b = .int .i64 (i : Int)) (fun _ b => 42 - (intOf b).toNat)
      case atStart => exact ⟨0, Nat.zero_le _, by rw [HT0.out], rfl⟩
      case round =>
        obtain ⟨i, hi, rfl, rfl⟩ := hrel
        have HS := Lib.hid (dbl_succ_len t i)
        have hc := HC.out i hi
        by_cases hlt : i < h
        · have hli : (i : Int) < (h : Int) := by omega
          have h40 := HK41.out
          generalize (tx (dbl t i)).length = c at *
          have HH := Lib.hid h40
          clear h40
          go_wp2_with fail
          go_round
          case rel => exact ⟨i + 1, by omega, by rw [HS.out]; go_num, by go_num⟩
          case measure => have := HH.out; simp [intOf]; omega
        · obtain rfl : i = h := by omega
          have hs2 := HSZ.out
          generalize (tx (dbl t i)).length = c at *
          have hli : ¬ (i : Int) < (i : Int) := by omega
          go_wp2_with fail
          refine (HV.out _).mono ?_
          rintro e w5 ⟨rfl, rfl⟩
          go_wp2_with fail
          refine (awake3_any _).mono ?_
          rintro e w9 ⟨rfl, h9⟩
          go_wp2
          go_ret
          exact ⟨rfl, bstep HPB.out h9⟩
/-- HOW LARGE TREES ARE COUNTS, NOT HOW THEY CAME ABOUT -/
theorem RunShared_any (w : World) (x : ByteArray) (less : Int) (hx : x.size ≤ 281474976710656) :
    Calls Try.prog 9 #[.string x, .int .i64 less] w fun e w' => e = .returned (.bool true) ∧ Below w.heap.size w w' := by
  cases hv : vld x.data.toList with
  | false => exact shared_no w x less hx hv
  | true => exact shared_yes w x less hv
end Go.Proofs.Ytagaiamjmdjenaa
