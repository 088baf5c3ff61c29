/- The reference's Decimal. By an AI agent. -/
import Derived.Test.YtpiahjbpidcjpaaDecode
namespace Go.Proofs.Ytpiahjbpidcjpaa
open Go.RowKit Pl

def dg (n : Nat) : List UInt8 := if n < 10 then [UInt8.ofNat (48 + n)] else dg (n / 10) ++ [UInt8.ofNat (48 + n % 10)]
termination_by n
decreasing_by omega
theorem dg_small {n : Nat} (h : n < 10) : dg n = [UInt8.ofNat (48 + n)] := by rw [dg, if_pos h]
theorem dg_big {n : Nat} (h : 10 ≤ n) : dg n = dg (n / 10) ++ dg (n % 10) := by rw [dg, if_neg (by omega), dg_small (n := n % 10) (by omega)]
/-- an integer in decimal -/
def dint (n : Int) : List UInt8 := if n < 0 then 45 :: dg n.natAbs else dg n.natAbs

theorem conv_one (w : World) (u : UInt8) :
    (convert 158 9 (.slice (some ⟨w.heap.size, 0, none⟩) 1 1)).run Try.prog (w.alloc (.cells #[.int .u8 (u.toNat : Int)] 5)) = .ok (.string (S [u])) (w.alloc (.cells #[.int .u8 (u.toNat : Int)] 5)) := by
  refine run_convert_bytes_back (P := Try.prog) _ 158 9 5 ⟨w.heap.size, 0, none⟩ 1 [u] Try.underlying158 Try.underlying5 Try.underlying9 ?_
  intro j hj
  obtain rfl : j = 0 := by simpa using hj
  simp [Addr.add]
set_option maxHeartbeats 1600000 in
set_option maxRecDepth 100000 in
theorem Decimal_digit (d : Nat) (hd : d < 10) (w : World) :
    Calls Try.prog 135 #[.int .i64 d] w fun e w' => e = .returned (.string (S (dg d))) ∧ Below w.heap.size w w' := by
  rw [dg_small hd]
  have h : d = 0 ∨ d = 1 ∨ d = 2 ∨ d = 3 ∨ d = 4 ∨ d = 5 ∨ d = 6 ∨ d = 7 ∨ d = 8 ∨ d = 9 := by omega
  rcases h with rfl | rfl | rfl | rfl | rfl | rfl | rfl | rfl | rfl | rfl
  · have hcv : (convert 158 9 (.slice (some ⟨w.heap.size, 0, none⟩) 1 1)).run Try.prog (w.alloc (.cells #[.int .u8 48] 5)) = .ok (.string (S [48])) (w.alloc (.cells #[.int .u8 48] 5)) := conv_one w 48
    go_enter Try.func135, Try.ntmps135
    go_wp2_with fail
    go_ret
    exact ⟨rfl, (Below.refl _ _).alloc (Nat.le_refl _) _⟩
  · have hcv : (convert 158 9 (.slice (some ⟨w.heap.size, 0, none⟩) 1 1)).run Try.prog (w.alloc (.cells #[.int .u8 49] 5)) = .ok (.string (S [49])) (w.alloc (.cells #[.int .u8 49] 5)) := conv_one w 49
    go_enter Try.func135, Try.ntmps135
    go_wp2_with fail
    go_ret
    exact ⟨rfl, (Below.refl _ _).alloc (Nat.le_refl _) _⟩
  · have hcv : (convert 158 9 (.slice (some ⟨w.heap.size, 0, none⟩) 1 1)).run Try.prog (w.alloc (.cells #[.int .u8 50] 5)) = .ok (.string (S [50])) (w.alloc (.cells #[.int .u8 50] 5)) := conv_one w 50
    go_enter Try.func135, Try.ntmps135
    go_wp2_with fail
    go_ret
    exact ⟨rfl, (Below.refl _ _).alloc (Nat.le_refl _) _⟩
  · have hcv : (convert 158 9 (.slice (some ⟨w.heap.size, 0, none⟩) 1 1)).run Try.prog (w.alloc (.cells #[.int .u8 51] 5)) = .ok (.string (S [51])) (w.alloc (.cells #[.int .u8 51] 5)) := conv_one w 51
    go_enter Try.func135, Try.ntmps135
    go_wp2_with fail
    go_ret
    exact ⟨rfl, (Below.refl _ _).alloc (Nat.le_refl _) _⟩
  · have hcv : (convert 158 9 (.slice (some ⟨w.heap.size, 0, none⟩) 1 1)).run Try.prog (w.alloc (.cells #[.int .u8 52] 5)) = .ok (.string (S [52])) (w.alloc (.cells #[.int .u8 52] 5)) := conv_one w 52
    go_enter Try.func135, Try.ntmps135
    go_wp2_with fail
    go_ret
    exact ⟨rfl, (Below.refl _ _).alloc (Nat.le_refl _) _⟩
  · have hcv : (convert 158 9 (.slice (some ⟨w.heap.size, 0, none⟩) 1 1)).run Try.prog (w.alloc (.cells #[.int .u8 53] 5)) = .ok (.string (S [53])) (w.alloc (.cells #[.int .u8 53] 5)) := conv_one w 53
    go_enter Try.func135, Try.ntmps135
    go_wp2_with fail
    go_ret
    exact ⟨rfl, (Below.refl _ _).alloc (Nat.le_refl _) _⟩
  · have hcv : (convert 158 9 (.slice (some ⟨w.heap.size, 0, none⟩) 1 1)).run Try.prog (w.alloc (.cells #[.int .u8 54] 5)) = .ok (.string (S [54])) (w.alloc (.cells #[.int .u8 54] 5)) := conv_one w 54
    go_enter Try.func135, Try.ntmps135
    go_wp2_with fail
    go_ret
    exact ⟨rfl, (Below.refl _ _).alloc (Nat.le_refl _) _⟩
  · have hcv : (convert 158 9 (.slice (some ⟨w.heap.size, 0, none⟩) 1 1)).run Try.prog (w.alloc (.cells #[.int .u8 55] 5)) = .ok (.string (S [55])) (w.alloc (.cells #[.int .u8 55] 5)) := conv_one w 55
    go_enter Try.func135, Try.ntmps135
    go_wp2_with fail
    go_ret
    exact ⟨rfl, (Below.refl _ _).alloc (Nat.le_refl _) _⟩
  · have hcv : (convert 158 9 (.slice (some ⟨w.heap.size, 0, none⟩) 1 1)).run Try.prog (w.alloc (.cells #[.int .u8 56] 5)) = .ok (.string (S [56])) (w.alloc (.cells #[.int .u8 56] 5)) := conv_one w 56
    go_enter Try.func135, Try.ntmps135
    go_wp2_with fail
    go_ret
    exact ⟨rfl, (Below.refl _ _).alloc (Nat.le_refl _) _⟩
  · have hcv : (convert 158 9 (.slice (some ⟨w.heap.size, 0, none⟩) 1 1)).run Try.prog (w.alloc (.cells #[.int .u8 57] 5)) = .ok (.string (S [57])) (w.alloc (.cells #[.int .u8 57] 5)) := conv_one w 57
    go_enter Try.func135, Try.ntmps135
    go_wp2_with fail
    go_ret
    exact ⟨rfl, (Below.refl _ _).alloc (Nat.le_refl _) _⟩
theorem dg_len (n : Nat) : (dg n).length ≤ n + 1 := by
  induction n using Nat.strongRecOn with
  | ind n ih =>
    rcases Nat.lt_or_ge n 10 with h | h
    · rw [dg_small h]; simp
    · rw [dg_big h, List.length_append, dg_small (n := n % 10) (by omega)]
      have := ih (n / 10) (by omega)
      simp only [List.length_cons, List.length_nil]; omega
set_option maxHeartbeats 1600000 in
set_option maxRecDepth 100000 in
theorem Decimal_nat (n : Nat) : n ≤ 1000000 → ∀ w : World,
    Calls Try.prog 135 #[.int .i64 n] w fun e w' => e = .returned (.string (S (dg n))) ∧ Below w.heap.size w w' := by
  induction n using Nat.strongRecOn with
  | ind n ih =>
    intro hn w
    rcases Nat.lt_or_ge n 10 with h | h
    · exact Decimal_digit n h w
    · have H1 := Lib.hid (fun W => ih (n / 10) (by omega) (by omega) W)
      have H2 := Lib.hid (fun W => Decimal_digit (n % 10) (by omega) W)
      have l1 := dg_len (n / 10); have l2 := dg_len (n % 10)
      have hst : S (dg n) = S (dg (n / 10)) ++ S (dg (n % 10)) := by
        rw [dg_big h]; symm; exact S_inj (by simp)
      have HS := Lib.hid hst
      have e1 : (n : Int) / 10 = ((n / 10 : Nat) : Int) := by omega
      have e2 : (n : Int) % 10 = ((n % 10 : Nat) : Int) := by omega
      have E1 := Lib.hid e1; have E2 := Lib.hid e2
      clear ih hst e1 e2
      go_enter Try.func135, Try.ntmps135
      go_wp2_with fail
      (try rw [E1.out])
      refine (H1.out _).mono ?_
      rintro e w1 ⟨rfl, h1⟩
      go_wp2_with fail
      (try rw [E2.out])
      refine (H2.out _).mono ?_
      rintro e w2 ⟨rfl, h2⟩
      go_wp2_with fail
      go_ret
      exact ⟨ret_str HS.out.symm, bstep h1 h2⟩
set_option maxHeartbeats 800000 in
set_option maxRecDepth 100000 in
theorem Decimal_any (n : Int) (w : World) (hn0 : -1000000 ≤ n) (hn : n ≤ 1000000) :
    Calls Try.prog 135 #[.int .i64 n] w fun e w' => e = .returned (.string (S (dint n))) ∧ Below w.heap.size w w' := by
  by_cases h : n < 0
  · obtain ⟨k, hk⟩ : ∃ k : Nat, n = -(k : Int) := ⟨n.natAbs, by omega⟩
    subst hk
    have H := Lib.hid (fun W => Decimal_nat k (by omega) W)
    have hl := dg_len k
    have hst : S (dint (-(k : Int))) = ⟨#[45]⟩ ++ S (dg k) := by
      unfold dint; rw [if_pos h, Int.natAbs_neg, Int.natAbs_natCast]; symm; exact S_inj (by simp)
    have HS := Lib.hid hst
    have E1 := Lib.hid (show - -(k : Int) = (k : Int) by omega)
    clear hst
    go_enter Try.func135, Try.ntmps135
    go_wp2_with fail
    (try rw [E1.out])
    refine (H.out _).mono ?_
    rintro e w1 ⟨rfl, h1⟩
    go_wp2_with fail
    go_ret
    exact ⟨ret_str HS.out.symm, h1⟩
  · obtain ⟨k, hk⟩ : ∃ k : Nat, n = (k : Int) := ⟨n.natAbs, by omega⟩
    subst hk
    have := Decimal_nat k (by omega) w
    unfold dint
    rw [if_neg h, Int.natAbs_natCast]
    exact this
end Go.Proofs.Ytpiahjbpidcjpaa
