/- The contracts of firstSize, Valid, parts (package tree), End and Valid (the reference). By an AI agent. -/
import Derived.Test.YtpiahjbpidcjpaaRows
import Derived.Test.YtpiahjbpidcjpaaMath
import Derived.WalkKit
import Derived.WalkSpells
import Derived.WalkLawsBesides
import Derived.Lib.Hide
namespace Go.Proofs.Ytpiahjbpidcjpaa
open Go.RowKit Pl

theorem ret_int {k : IntKind} {a b : Int} (h : a = b) : Ending.returned (.int k a) = .returned (.int k b) := by rw [h]
theorem ret_bool {a b : Bool} (h : a = b) : Ending.returned (.bool a) = .returned (.bool b) := by rw [h]
theorem ret_str {a b : ByteArray} (h : a = b) : Ending.returned (.string a) = .returned (.string b) := by rw [h]
theorem at_list (s : ByteArray) (pos : Nat) (h : pos < s.size) : ∃ h' : pos < s.data.toList.length, s.data.toList[pos] = s[pos] := ⟨by simpa using h, rfl⟩

theorem next_ascii_lit (w : World) (s : ByteArray) (pos : Nat) (ty : TypeId) (h : pos < s.size) (n : Nat) (hn : n < 128) (c : UInt8) (hc : s[pos] = c) (hcn : c.toNat = n) :
    (Instr.next (.pointer (some ⟨w.heap.size, 0, none⟩)) true ty).run Try.prog (w.iter s pos) =
      .ok (.tuple #[.bool true, .int .i64 pos, .int .i32 n]) (w.iter s (pos + 1)) := by
  have := run_next_ascii (P := Try.prog) w s pos ty h (by rw [hc]; omega)
  rw [this, hc, hcn]
theorem next_other (w : World) (s : ByteArray) (pos : Nat) (h : pos < s.size) (h0 : s[pos] ≠ 48) (h1 : s[pos] ≠ 49) :
    ∃ r q : Nat, r ≤ 2147483647 ∧ r ≠ 48 ∧ r ≠ 49 ∧ ∀ ty, (Instr.next (.pointer (some ⟨w.heap.size, 0, none⟩)) true ty).run Try.prog (w.iter s pos) =
      .ok (.tuple #[.bool true, .int .i64 pos, .int .i32 r]) (w.iter s q) := by
  refine ⟨(Utf8.decode s pos).1, pos + (Utf8.decode s pos).2, decode_le s pos, ?_, ?_, fun ty => run_next_any w s pos ty h⟩
  · by_cases ha : (s[pos]'h).toNat < 128
    · rw [decode_ascii s pos h ha]; intro e; exact h0 (UInt8.toNat_inj.1 e)
    · have := (decode_high s pos h (by omega)).1; omega
  · by_cases ha : (s[pos]'h).toNat < 128
    · rw [decode_ascii s pos h ha]; intro e; exact h1 (UInt8.toNat_inj.1 e)
    · have := (decode_high s pos h (by omega)).1; omega

set_option maxHeartbeats 400000 in
set_option maxRecDepth 100000 in
theorem firstSize_any (s : ByteArray) (w : World) (hs : s.size ≤ 281474976710656) :
    Calls Try.prog 109 #[.string s] w fun e w' => e = .returned (.int .i64 (sz s.data.toList)) ∧ Below w.heap.size w w' := by
  have hbl : ∀ pos, Below w.heap.size w (w.iter s pos) := fun pos => (Below.refl _ w).alloc (Nat.le_refl _) _
  have HB := Lib.hid hbl; clear hbl
  go_enter Try.func109, Try.ntmps109
  go_wp2
  go_loopw [3] (fun n w' => ∃ (pos m : Nat), w' = w.iter s pos ∧ n = .int .i64 m ∧ 1 ≤ m ∧ m ≤ pos + 1 ∧ pos ≤ s.size ∧ Rel s.data.toList pos m) (fun _ w' => s.size - w'.iterPos w.heap.size)
  case atStart => exact ⟨0, 1, rfl, rfl, by omega, by omega, by omega, Rel.start _⟩
  case round =>
    obtain ⟨pos, m, rfl, rfl, h1, hm, hps, hc⟩ := hrel
    by_cases hp : pos < s.size
    · obtain ⟨hl, hg⟩ := at_list s pos hp
      have HG := Lib.hid hg; clear hg
      by_cases c0 : s[pos] = 48
      · have C0 := Lib.hid c0
        have hnx : ∀ ty, (Instr.next (.pointer (some ⟨w.heap.size, 0, none⟩)) true ty).run Try.prog (w.iter s pos) = _ := fun ty => next_ascii_lit w s pos ty hp 48 (by omega) 48 c0 rfl
        clear c0
        by_cases hm1 : m = 1
        · subst hm1
          go_wp2
          go_ret
          exact ⟨ret_int (by rw [(hc.zero hl (by rw [HG.out, C0.out])).done]; simp), HB.out _⟩
        · have hz : ((m : Int) - 1 == 0) = false := beq_eq_false_iff_ne.2 (by omega)
          go_wp2
          go_roundw
          case rel => exact ⟨pos + 1, m - 1, rfl, by rw [Int.ofNat_sub h1]; rfl, by omega, by omega, by omega, Rel.zero (by rwa [Nat.sub_add_cancel h1]) hl (by rw [HG.out, C0.out])⟩
          case measure => simp; omega
      · by_cases c1 : s[pos] = 49
        · have C1 := Lib.hid c1
          have hnx : ∀ ty, (Instr.next (.pointer (some ⟨w.heap.size, 0, none⟩)) true ty).run Try.prog (w.iter s pos) = _ := fun ty => next_ascii_lit w s pos ty hp 49 (by omega) 49 c1 rfl
          clear c0 c1
          have hz : ((m : Int) + 1 == 0) = false := beq_eq_false_iff_ne.2 (by omega)
          go_wp2
          go_roundw
          case rel =>
            obtain ⟨m', rfl⟩ : ∃ m', m = m' + 1 := ⟨m - 1, by omega⟩
            exact ⟨pos + 1, m' + 1 + 1, rfl, by go_num, by omega, by omega, by omega, hc.one hl (by rw [HG.out, C1.out])⟩
          case measure => simp; omega
        · obtain ⟨r, q, hr, r0, r1, hnx⟩ := next_other w s pos hp c0 c1
          have e0 : ((r : Int) == 48) = false := beq_eq_false_iff_ne.2 (by omega)
          have e1 : ((r : Int) == 49) = false := beq_eq_false_iff_ne.2 (by omega)
          have C : Hid (sz s.data.toList = -1) := by
            obtain ⟨m', rfl⟩ : ∃ m', m = m' + 1 := ⟨m - 1, by omega⟩
            exact Lib.hid (hc.bad hl (by rw [HG.out]; exact c0) (by rw [HG.out]; exact c1))
          clear c0 c1
          go_wp2
          go_ret
          exact ⟨ret_int C.out.symm, HB.out _⟩
    · have hnx : ∀ ty, (Instr.next (.pointer (some ⟨w.heap.size, 0, none⟩)) true ty).run Try.prog (w.iter s pos) = _ := fun ty => run_next_end w s pos ty hp
      have C : Hid (sz s.data.toList = -1) := by
        obtain ⟨m', rfl⟩ : ∃ m', m = m' + 1 := ⟨m - 1, by omega⟩
        exact Lib.hid (hc.out (by have : s.data.toList.length = s.size := by simp
                                  omega))
      go_wp2
      go_ret
      exact ⟨ret_int C.out.symm, HB.out _⟩

theorem len_eq (s : ByteArray) : s.data.toList.length = s.size := by simp

set_option maxHeartbeats 400000 in
set_option maxRecDepth 100000 in
theorem Valid_any (s : ByteArray) (w : World) (hs : s.size ≤ 281474976710656) :
    Calls Try.prog 65 #[.string s] w fun e w' => e = .returned (.bool (vld s.data.toList)) ∧ Below w.heap.size w w' := by
  by_cases hl : s.size ≤ 2000000
  · have hv : vld s.data.toList = (sz s.data.toList == (s.size : Int)) := by
      have := sz_eq_len s.data.toList
      unfold vld
      rw [← this, len_eq, decide_eq_true hl, Bool.true_and]; rfl
    have HV := Lib.hid hv; clear hv
    have := sz_ge s.data.toList
    go_enter Try.func65, Try.ntmps65
    go_wp2_with (go_at_call 109; refine (firstSize_any s _ hs).mono ?_; rintro e w1 ⟨rfl, hb⟩)
    go_ret
    exact ⟨ret_bool HV.out.symm, hb⟩
  · have hv : vld s.data.toList = false := by
      unfold vld
      rw [len_eq, decide_eq_false hl, Bool.false_and]
    have HV := Lib.hid hv; clear hv
    go_enter Try.func65, Try.ntmps65
    go_wp2_with fail
    go_ret
    exact ⟨ret_bool HV.out.symm, Below.refl _ _⟩

def endAt (L : List UInt8) (a : Nat) : Int := match fs (L.drop a) 1 with | some e => (a : Int) + e | none => -1
theorem endAt_done {L : List UInt8} {a j : Nat} (h : Rel (L.drop a) j 0) : endAt L a = ((a + j : Nat) : Int) := by
  unfold Rel at h; rw [fs_zero] at h; unfold endAt; rw [h]; simp
theorem endAt_none {L : List UInt8} {a : Nat} (h : sz (L.drop a) = -1) : endAt L a = -1 := by
  unfold endAt; unfold sz at h; cases hx : fs (L.drop a) 1 with
  | none => rfl
  | some e => rw [hx] at h; simp at h
theorem at_drop (s : ByteArray) (a j : Nat) (h : a + j < s.size) : ∃ h' : j < (s.data.toList.drop a).length, (s.data.toList.drop a)[j] = s[a + j] :=
  ⟨by rw [List.length_drop, len_eq]; omega, by rw [List.getElem_drop]; rfl⟩

set_option maxHeartbeats 400000 in
set_option maxRecDepth 100000 in
theorem End_any (s : ByteArray) (a : Nat) (w : World) (hs : s.size ≤ 281474976710656) (ha : a ≤ s.size) :
    Calls Try.prog 78 #[.string s, .int .i64 a] w fun e w' => e = .returned (.int .i64 (endAt s.data.toList a)) ∧ w = w' := by
  go_enter Try.func78, Try.ntmps78
  go_wp2
  go_loop [1, 5] (fun p n => ∃ (j m : Nat), p = .int .i64 ((a + j : Nat) : Int) ∧ n = .int .i64 m ∧ m ≤ j + 1 ∧ a + j ≤ s.size ∧ Rel (s.data.toList.drop a) j m) (fun p _ => s.size - (intOf p).toNat)
  case atStart => exact ⟨0, 1, rfl, rfl, by omega, by omega, Rel.start _⟩
  case round =>
    obtain ⟨j, m, rfl, rfl, hm, hps, hc⟩ := hrel
    by_cases m0 : m = 0
    · subst m0
      have C := Lib.hid (endAt_done hc)
      go_wp2
      go_ret
      exact ⟨ret_int C.out.symm, rfl⟩
    · obtain ⟨k, rfl⟩ : ∃ k, m = k + 1 := ⟨m - 1, by omega⟩
      by_cases hp : a + j < s.size
      · obtain ⟨hl, hg⟩ := at_drop s a j hp
        have HG := Lib.hid hg; clear hg
        by_cases c0 : s[a + j] = 48
        · have C0 := Lib.hid c0
          go_wp2
          go_round
          case rel => exact ⟨j + 1, k, by go_num, rfl, by omega, by omega, hc.zero hl (by rw [HG.out, C0.out])⟩
          case measure => simp [intOf]; omega
        · by_cases c1 : s[a + j] = 49
          · have C1 := Lib.hid c1
            clear c0
            go_wp2
            go_round
            case rel => exact ⟨j + 1, k + 1 + 1, by go_num, by go_num, by omega, by omega, hc.one hl (by rw [HG.out, C1.out])⟩
            case measure => simp [intOf]; omega
          · have C : Hid (endAt s.data.toList a = -1) := Lib.hid (endAt_none (hc.bad hl (by rw [HG.out]; exact c0) (by rw [HG.out]; exact c1)))
            have n0 : ((s[a + j].toNat : Int) != 48) = true := by rw [bne_iff_ne]; intro e; exact c0 (UInt8.toNat_inj.1 (by simpa using Int.ofNat.inj e))
            have n1 : ((s[a + j].toNat : Int) != 49) = true := by rw [bne_iff_ne]; intro e; exact c1 (UInt8.toNat_inj.1 (by simpa using Int.ofNat.inj e))
            have n2 : ((s[a + j].toNat : Int) == 48) = false := by rw [beq_eq_false_iff_ne]; intro e; exact c0 (UInt8.toNat_inj.1 (by simpa using Int.ofNat.inj e))
            clear c0 c1
            go_wp2
            go_ret
            exact ⟨ret_int C.out.symm, rfl⟩
      · have C : Hid (endAt s.data.toList a = -1) := Lib.hid (endAt_none (hc.out (by rw [List.length_drop, len_eq]; omega)))
        go_wp2
        go_ret
        exact ⟨ret_int C.out.symm, rfl⟩
end Go.Proofs.Ytpiahjbpidcjpaa
