/- Package run: Run. By an AI agent. -/
import Derived.Test.YtpiahjbpidcjpaaAdvR
namespace Go.Proofs.Ytpiahjbpidcjpaa
open Go.RowKit Pl

/-- what Run returns -/
noncomputable def runRes (ps : List Ins) (K : Nat) (t : Tr) : Value :=
  match runTo ps K (first t) with
  | none => .tuple #[.string (S []), .int .i64 0, .int .i64 3]
  | some (s, n) => if s.at_ = ps.length then .tuple #[.string (S (tx (s.reg 0))), .int .i64 (n : Int), .int .i64 0] else .tuple #[.string (S []), .int .i64 0, .int .i64 7]

set_option maxHeartbeats 1600000 in
set_option maxRecDepth 100000 in
theorem Run_form (w : World) (v : Value) (ps : List Ins) (x : ByteArray) (k : Int) (h : ArgP w v ps) (hl : ps.length ≤ 281474976710656) (hz : ∀ x ∈ ps, x.tree.length ≤ 281474976710656) (hx : x.size ≤ 281474976710656) (hn : ¬ PValid ps ∨ vld x.data.toList = false) :
    Calls Try.prog 32 #[v, .string x, .int .i64 k] w fun e w' => e = .returned (.tuple #[.string (S []), .int .i64 0, .int .i64 1]) ∧ Below w.heap.size w w' := by
  have H := Lib.hid (advance_form w v ps x k h hl hz hx hn)
  clear h hl hz hx hn
  go_enter Try.func32, Try.ntmps32
  go_wp2_with fail
  refine H.out.mono ?_
  rintro e w1 ⟨rfl, hb⟩
  go_wp2
  go_ret3
  exact ⟨rfl, hb⟩
set_option maxHeartbeats 1600000 in
set_option maxRecDepth 100000 in
theorem Run_arg (w : World) (v : Value) (ps : List Ins) (x : ByteArray) (k : Int) (h : ArgP w v ps) (hv : PValid ps) (hx : vld x.data.toList = true) (hk : k < 0 ∨ 10000000 < k) :
    Calls Try.prog 32 #[v, .string x, .int .i64 k] w fun e w' => e = .returned (.tuple #[.string (S []), .int .i64 0, .int .i64 2]) ∧ Below w.heap.size w w' := by
  have H := Lib.hid (advance_arg w v ps x k h hv hx hk)
  clear h hv hx hk
  go_enter Try.func32, Try.ntmps32
  go_wp2_with fail
  refine H.out.mono ?_
  rintro e w1 ⟨rfl, hb⟩
  go_wp2
  go_ret3
  exact ⟨rfl, hb⟩
set_option maxHeartbeats 1600000 in
set_option maxRecDepth 100000 in
theorem Run_yes (w : World) (v : Value) (ps : List Ins) (x : ByteArray) (K : Nat) (h : ArgP w v ps) (hv : PValid ps) (hx : vld x.data.toList = true) (hk : K ≤ 10000000) :
    Calls Try.prog 32 #[v, .string x, .int .i64 (K : Int)] w fun e w' => e = .returned (runRes ps K (rd x.data.toList)) ∧ Below w.heap.size w w' := by
  have H := Lib.hid (advance_run w v ps x K h hv hx hk)
  have hf : (first (rd x.data.toList)).ok ps.length := first_ok _ (by rw [tx_rd hx]; exact (vld_iff.1 hx).1)
  generalize rd x.data.toList = t at *
  unfold runRes
  cases hr : runTo ps K (first t) with
  | none =>
    have HR := Lib.hid hr
    clear h hv hx hk hr hf
    go_enter Try.func32, Try.ntmps32
    go_wp2_with fail
    refine H.out.mono ?_
    rintro e w1 ⟨hb, he⟩
    rw [HR.out] at he
    obtain rfl := he
    go_wp2
    go_ret3
    exact ⟨rfl, hb⟩
  | some r =>
    obtain ⟨s, n⟩ := r
    obtain ⟨hst, hnk, _⟩ := runTo_some hr
    have hok := hst.ok hv hf
    by_cases hat : s.at_ = ps.length
    · have hb1 : (s.at_ == ps.length) = true := by simp [hat]
      have HE := Lib.hid (fun W n0 M C (hm : Mach W n0 M C ps s) => ended_is hm hv hok)
      rw [hb1] at HE
      simp only [if_pos hat]
      have HT := Lib.hid (fun W v h => text_any (s.reg 0) v W h (St.reg_le hok 0))
      have HR := Lib.hid hr
      clear h hv hx hk hr hf hst hat hb1
      go_enter Try.func32, Try.ntmps32
      go_wp2_with fail
      refine H.out.mono ?_
      rintro e w1 ⟨hb, he⟩
      rw [HR.out] at he
      obtain ⟨n0, M, C, rfl, hM, hn0⟩ := he
      have HM := Lib.hid hM
      clear hM
      go_wp2_with fail
      refine (HE.out _ _ _ _ HM.out).mono ?_
      rintro e w2 ⟨rfl, q, rfl⟩
      obtain ⟨x0, hx0, hN0⟩ := HM.out.regs 0 (by omega)
      obtain ⟨X0, rfl⟩ := hN0.one
      have c3 : (w1.drewN q).cell? ⟨M, 3, none⟩ = some (.pointer X0) := hx0
      have HN0 := Lib.hid hN0
      clear hx0 hN0
      go_wp2_with fail
      refine (HT.out _ _ (NodeW.keep HN0.out (KeepT.drewN _ _ _))).mono ?_
      rintro e w3 ⟨rfl, hb3⟩
      go_wp2
      go_ret3
      exact ⟨rfl, (bdrewN hb q).trans (hb3.mono hb.size)⟩
    · have hb1 : (s.at_ == ps.length) = false := by simp [hat]
      have HE := Lib.hid (fun W n0 M C (hm : Mach W n0 M C ps s) => ended_is hm hv hok)
      rw [hb1] at HE
      simp only [if_neg hat]
      have HT := Lib.hid (fun W v h => text_any (s.reg 0) v W h (St.reg_le hok 0))
      have HR := Lib.hid hr
      clear h hv hx hk hr hf hst hat hb1
      go_enter Try.func32, Try.ntmps32
      go_wp2_with fail
      refine H.out.mono ?_
      rintro e w1 ⟨hb, he⟩
      rw [HR.out] at he
      obtain ⟨n0, M, C, rfl, hM, hn0⟩ := he
      have HM := Lib.hid hM
      clear hM
      go_wp2_with fail
      refine (HE.out _ _ _ _ HM.out).mono ?_
      rintro e w2 ⟨rfl, q, rfl⟩
      go_wp2
      go_ret3
      exact ⟨rfl, bdrewN hb q⟩
end Go.Proofs.Ytpiahjbpidcjpaa
