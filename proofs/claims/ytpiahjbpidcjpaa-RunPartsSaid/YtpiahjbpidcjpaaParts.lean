/- The contracts of parts (package tree) and of Valid, Head, Tail, Pairs (the reference). By an AI agent. -/
import Derived.Test.YtpiahjbpidcjpaaScan
import Derived.Deep.QuietTactic
import Derived.BigQuiet
namespace Go.Proofs.Ytpiahjbpidcjpaa
open Go.RowKit Pl

/-- a list of bytes as a string -/
abbrev S (l : List UInt8) : ByteArray := ⟨l.toArray⟩
theorem S_eq (s : ByteArray) : s = S s.data.toList := by apply ByteArray.ext; simp
theorem S_inj {s : ByteArray} {l : List UInt8} (h : s.data.toList = l) : s = S l := by rw [← h]
theorem ex_list (s : ByteArray) (a b : Nat) : (s.extract a b).data.toList = (s.data.toList.take b).drop a := by
  rw [ByteArray.data_extract, Array.toList_extract, List.extract_eq_take_drop, List.drop_take]
theorem ex_end (s : ByteArray) (a : Nat) : (s.extract a s.size).data.toList = s.data.toList.drop a := by
  rw [ex_list, List.take_of_length_le (by rw [len_eq]; exact Nat.le_refl _)]
theorem ne_str {s : ByteArray} {l : List UInt8} (h : s.data.toList ≠ l) : (s.toList == l) = false := by
  rw [ByteArray.toList_eq, beq_eq_false_iff_ne]; exact h

theorem bdrewN {B : Nat} {a w : World} (h : Below B a w) (n : Nat) : Below B a (w.drewN n) := h.trans ⟨rfl, rfl, rfl, Nat.le_refl _, fun _ _ => rfl⟩
theorem ret_ss {a b c d : ByteArray} (h1 : a = c) (h2 : b = d) : Ending.returned (.tuple #[.string a, .string b]) = .returned (.tuple #[.string c, .string d]) := by rw [h1, h2]
theorem firstSize_at (s : ByteArray) (e : Nat) (w : World) (hs : s.size ≤ 281474976710656) (h : fs s.data.toList 1 = some e) :
    Calls Try.prog 109 #[.string s] w fun x w' => x = .returned (.int .i64 e) ∧ Below w.heap.size w w' :=
  (firstSize_any s w hs).mono fun x w' ⟨h1, h2⟩ => ⟨by rw [h1, sz_some h], h2⟩

set_option maxHeartbeats 400000 in
set_option maxRecDepth 100000 in
theorem rValid_any (s : ByteArray) (w : World) (hs : s.size ≤ 281474976710656) :
    Calls Try.prog 22 #[.string s] w fun e w' => e = .returned (.bool (vld s.data.toList)) ∧ w = w' := by
  by_cases hl : s.size ≤ 2000000
  · have hv : vld s.data.toList = (endAt s.data.toList 0 == (s.size : Int)) := by
      have h1 := sz_eq_len s.data.toList
      have h2 : endAt s.data.toList 0 = sz s.data.toList := by unfold endAt sz; rw [List.drop_zero]; cases fs s.data.toList 1 <;> simp
      rw [h2]
      unfold vld
      rw [← h1, len_eq, decide_eq_true hl, Bool.true_and]; rfl
    have HV := Lib.hid hv; clear hv
    have hE := End_any s 0 w hs (Nat.zero_le _)
    have HE := Lib.hid hE; clear hE
    go_enter Try.func22, Try.ntmps22
    go_wp2_with (go_at_call 78; refine HE.out.mono ?_; rintro e w1 ⟨rfl, rfl⟩)
    go_ret
    exact ⟨ret_bool HV.out.symm, rfl⟩
  · have hv : vld s.data.toList = false := by
      unfold vld
      rw [len_eq, decide_eq_false hl, Bool.false_and]
    have HV := Lib.hid hv; clear hv
    go_enter Try.func22, Try.ntmps22
    go_wp2_with fail
    go_ret
    exact ⟨ret_bool HV.out.symm, rfl⟩
end Go.Proofs.Ytpiahjbpidcjpaa
