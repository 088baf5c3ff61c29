/- The reference's integer. By an AI agent. -/
import Derived.Test.YtlfoigkpfooopaaGreatDoorSplit
namespace Go.Proofs.YtlfoigkpfooopaaGreatDoor
open Go.RowKit Pl

def allD (l : List UInt8) : Bool := l.all fun c => decide (48 ≤ c.toNat) && decide (c.toNat ≤ 57)
def numv (l : List UInt8) : Int := l.foldl (fun n c => 10 * n + ((c.toNat : Int) - 48)) 0
/-- the integer that a word of digits is, with a sign -/
def intd (sg : Int) (t : List UInt8) : Int × Bool := if allD t && decide (t.length ≤ 5) then (sg * numv t, !t.isEmpty) else (0, false)
def intw (l : List UInt8) : Int × Bool := if l.head? = some 45 then intd (-1) l.tail else intd 1 l
theorem allD_app (a b : List UInt8) : allD (a ++ b) = (allD a && allD b) := by simp [allD]
theorem numv_snoc (a : List UInt8) (c : UInt8) : numv (a ++ [c]) = 10 * numv a + ((c.toNat : Int) - 48) := by simp [numv]
theorem numv_succ {s : ByteArray} {k : Nat} {r : Int} (h : k < s.size) (hr : r = numv (s.data.toList.take k)) : 10 * r + ((s[k].toNat : Int) - 48) = numv (s.data.toList.take (k + 1)) := by
  rw [take_snoc s k h, numv_snoc, hr]
theorem allD_succ {s : ByteArray} {k : Nat} (h : k < s.size) (hr : allD (s.data.toList.take k) = true) (h1 : 48 ≤ s[k].toNat) (h2 : s[k].toNat ≤ 57) : allD (s.data.toList.take (k + 1)) = true := by
  rw [take_snoc s k h, allD_app, hr]; simp [allD, h1, h2]
theorem notD_at {s : ByteArray} {k : Nat} (h : k < s.size) (hc : s[k].toNat < 48 ∨ 57 < s[k].toNat) : (allD s.data.toList && decide (s.data.toList.length ≤ 5)) = false := by
  have h1 : s.data.toList = s.data.toList.take (k + 1) ++ s.data.toList.drop (k + 1) := (List.take_append_drop _ _).symm
  rw [h1, allD_app, take_snoc s k h, allD_app]
  have : allD [s[k]] = false := by simp [allD]; omega
  rw [this]; simp
theorem numv_lt : ∀ (n : Nat) (l : List UInt8), l.length = n → allD l = true → 0 ≤ numv l ∧ numv l < 10 ^ n := by
  intro n
  induction n with
  | zero => intro l h _; rw [List.eq_nil_of_length_eq_zero h]; simp [numv]
  | succ n ih =>
    intro l h hd
    have hne : l ≠ [] := by intro e; rw [e] at h; simp at h
    have hl := List.dropLast_concat_getLast hne
    rw [← hl, allD_app, Bool.and_eq_true] at hd
    have h1 := ih l.dropLast (by rw [List.length_dropLast]; omega) hd.1
    have h2 : 48 ≤ (l.getLast hne).toNat ∧ (l.getLast hne).toNat ≤ 57 := by simpa [allD] using hd.2
    rw [← hl, numv_snoc, Int.pow_succ]
    omega
theorem numv_bound {l : List UInt8} (h : l.length ≤ 5) (hd : allD l = true) : numv l ≤ 99999 := by
  have h1 := (numv_lt l.length l rfl hd).2
  have h : l.length = 0 ∨ l.length = 1 ∨ l.length = 2 ∨ l.length = 3 ∨ l.length = 4 ∨ l.length = 5 := by omega
  rcases h with h | h | h | h | h | h <;> rw [h] at h1 <;> simp only [Int.reducePow] at h1 <;> omega

set_option maxHeartbeats 1600000 in
set_option maxRecDepth 100000 in
theorem integer_plain (s : ByteArray) (w : World) (hs : s.size ≤ 100000000) (hp : s.data.toList.head? ≠ some 45) :
    Calls Tryz.prog 76 #[.string s] w fun e w' => e = .returned (.tuple #[.int .i64 (intd 1 s.data.toList).1, .bool (intd 1 s.data.toList).2]) ∧ Below w.heap.size w w' := by
  have HI : Hid (((allD s.data.toList && decide (s.data.toList.length ≤ 5)) = true → intd 1 s.data.toList = (1 * numv s.data.toList, !s.data.toList.isEmpty)) ∧ ((allD s.data.toList && decide (s.data.toList.length ≤ 5)) = false → intd 1 s.data.toList = (0, false))) :=
    Lib.hid ⟨fun h => by unfold intd; rw [if_pos h], fun h => by unfold intd; rw [if_neg (by rw [h]; simp)]⟩
  by_cases h0 : s.size = 0
  · have hs0 : s = S [] := S_inj (List.eq_nil_of_length_eq_zero (by rw [len_eq]; exact h0))
    subst hs0
    have HF : Hid (intd 1 (S []).data.toList = (0, false)) := Lib.hid rfl
    clear HI h0 hp hs
    go_enter Tryz.func76, Tryz.ntmps76
    go_wp2_with fail
    go_loop [5, 6] (fun n i => n = .int .i64 0 ∧ i = .int .i64 0) (fun _ _ => 0)
    case atStart => exact ⟨rfl, rfl⟩
    case round =>
      obtain ⟨rfl, rfl⟩ := hrel
      go_wp2_with fail
      go_ret2
      exact ⟨by rw [HF.out]; rfl, Below.refl _ _⟩
  · have hc : s[0]'(by omega) ≠ 45 := by
      intro e
      refine hp ?_
      rw [List.head?_eq_getElem?, List.getElem?_eq_getElem (by rw [len_eq]; omega), Array.getElem_toList]
      exact congrArg some e
    have n1 : (((s[0]'(by omega)).toNat : Int) == 45) = false := by rw [beq_eq_false_iff_ne]; intro e; exact hc (UInt8.toNat_inj.1 (by simpa using Int.ofNat.inj e))
    have n2 : (s.toList == []) = false := ne_str (by intro e; have := len_eq s; rw [e] at this; simp at this; omega)
    have n3 : (0 : Int) < (s.size : Int) := by omega
    clear hp hc
    go_enter Tryz.func76, Tryz.ntmps76
    go_wp2_with fail
    go_loopw [5, 6] (fun v i wr => ∃ (k : Nat) (r : Int), k ≤ s.size ∧ k ≤ 5 ∧ i = .int .i64 k ∧ v = .int .i64 r ∧ 0 ≤ r ∧ r ≤ 99999 ∧ Hid (r = numv (s.data.toList.take k)) ∧ Hid (allD (s.data.toList.take k) = true) ∧ ∃ q, wr = w.drewN q) (fun _ i _ => s.size - (intOf i).toNat)
    case atStart => exact ⟨0, 0, Nat.zero_le _, by omega, rfl, rfl, by omega, by omega, Lib.hid (by simp [numv]), Lib.hid (by simp [allD]), ⟨0, rfl⟩⟩
    case round =>
      obtain ⟨k, r, hk, hk5, rfl, rfl, r0, r1, hr, hd, q, rfl⟩ := hrel
      by_cases hlt : k < s.size
      · have h0 : (0 : Int) ≤ (k : Int) := by omega
        have h1 : (k : Int) < (s.size : Int) := by omega
        have hcl := s[k].toNat_lt
        by_cases hlo : s[k].toNat < 48
        · have n1 : (s[k].toNat : Int) < 48 := by omega
          have HF := Lib.hid (HI.out.2 (by exact notD_at hlt (Or.inl hlo)))
          go_wp2_with fail
          go_ret2
          exact ⟨by rw [HF.out]; rfl, bdrewN (Below.refl _ _) _⟩
        · by_cases hhi : 57 < s[k].toNat
          · have n1 : ¬ (s[k].toNat : Int) < 48 := by omega
            have n2 : (57 : Int) < (s[k].toNat : Int) := by omega
            have HF := Lib.hid (HI.out.2 (by exact notD_at hlt (Or.inr hhi)))
            go_wp2_with fail
            go_ret2
            exact ⟨by rw [HF.out]; rfl, bdrewN (Below.refl _ _) _⟩
          · have n1 : ¬ (s[k].toNat : Int) < 48 := by omega
            have n2 : ¬ (57 : Int) < (s[k].toNat : Int) := by omega
            have HV := Lib.hid (numv_succ (s := s) hlt hr.out)
            have HDD := Lib.hid (allD_succ (s := s) hlt hd.out (by omega) (by omega))
            by_cases h5 : k = 5
            · have HF := Lib.hid (HI.out.2 (by rw [show decide (s.data.toList.length ≤ 5) = false from decide_eq_false (by rw [len_eq]; omega), Bool.and_false]))
              subst h5
              go_wp2_with fail
              go_ret2
              exact ⟨by rw [HF.out]; rfl, bdrewN (Below.refl _ _) _⟩
            · have n4 : ¬ (4 : Int) < (k : Int) := by omega
              have HB := Lib.hid (numv_bound (by rw [List.length_take]; omega : (s.data.toList.take (k + 1)).length ≤ 5) HDD.out)
              go_wp2_with fail
              go_roundw
              case rel => exact ⟨k + 1, 10 * r + ((s[k].toNat : Int) - 48), by omega, by omega, by go_num, by go_num, by omega, by rw [HV.out]; exact HB.out, HV, HDD, _, rfl⟩
              case measure => simp [intOf]; omega
      · have hT : s.data.toList.take k = s.data.toList := List.take_of_length_le (by rw [len_eq]; omega)
        have hne : s.data.toList.isEmpty = false := by
          rw [List.isEmpty_eq_false_iff]; intro e; have := len_eq s; rw [e] at this; simp at this; omega
        have hF : intd 1 s.data.toList = (r, true) := by
          rw [HI.out.1 (by rw [← hT, hd.out, hT, Bool.true_and]; exact decide_eq_true (by rw [len_eq]; omega)), hne, hr.out, hT]; simp
        have HF := Lib.hid hF
        clear hT hne hF
        go_wp2_with fail
        go_ret2
        exact ⟨by rw [HF.out]; rfl, bdrewN (Below.refl _ _) _⟩
set_option maxHeartbeats 1600000 in
set_option maxRecDepth 100000 in
theorem integer_minus (s : ByteArray) (w : World) (hs : s.size ≤ 100000000) (h0 : 0 < s.size) (hc : s[0] = 45) :
    Calls Tryz.prog 76 #[.string s] w fun e w' => e = .returned (.tuple #[.int .i64 (intd (-1) (s.data.toList.drop 1)).1, .bool (intd (-1) (s.data.toList.drop 1)).2]) ∧ Below w.heap.size w w' := by
  have ht : (s.extract 1 s.size).data.toList = s.data.toList.drop 1 := ex_end s 1
  have hts : (s.extract 1 s.size).size ≤ 100000000 := by
    rw [← len_eq, ht, List.length_drop, len_eq]; omega
  rw [← ht]
  clear ht
  have n2 : (s.toList == []) = false := ne_str (by intro e; have := len_eq s; rw [e] at this; simp at this; omega)
  have n3 : (0 : Int) < (s.size : Int) := by omega
  have n4 : (1 : Int) ≤ (s.size : Int) := by omega
  have n5 : ((s.size : Int)).toNat = s.size := by omega
  have HI : Hid (((allD (s.extract 1 s.size).data.toList && decide ((s.extract 1 s.size).data.toList.length ≤ 5)) = true → intd (-1) (s.extract 1 s.size).data.toList = ((-1) * numv (s.extract 1 s.size).data.toList, !(s.extract 1 s.size).data.toList.isEmpty)) ∧ ((allD (s.extract 1 s.size).data.toList && decide ((s.extract 1 s.size).data.toList.length ≤ 5)) = false → intd (-1) (s.extract 1 s.size).data.toList = (0, false))) :=
    Lib.hid ⟨fun h => by unfold intd; rw [if_pos h], fun h => by unfold intd; rw [if_neg (by rw [h]; simp)]⟩
  generalize intd (-1) (s.extract 1 s.size).data.toList = res at *
  go_enter Tryz.func76, Tryz.ntmps76
  go_wp2_with fail
  go_quiet (fail)
  generalize s.extract 1 s.size = t at *
  go_wp2_with fail
  go_loopw [5, 6] (fun v i wr => ∃ (k : Nat) (r : Int), k ≤ t.size ∧ k ≤ 5 ∧ i = .int .i64 k ∧ v = .int .i64 r ∧ 0 ≤ r ∧ r ≤ 99999 ∧ Hid (r = numv (t.data.toList.take k)) ∧ Hid (allD (t.data.toList.take k) = true) ∧ ∃ q, wr = w.drewN q) (fun _ i _ => t.size - (intOf i).toNat)
  case atStart => exact ⟨0, 0, Nat.zero_le _, by omega, rfl, rfl, by omega, by omega, Lib.hid (by simp [numv]), Lib.hid (by simp [allD]), ⟨_, rfl⟩⟩
  case round =>
    obtain ⟨k, r, hk, hk5, rfl, rfl, r0, r1, hr, hd, q, rfl⟩ := hrel
    by_cases hlt : k < t.size
    · have h0 : (0 : Int) ≤ (k : Int) := by omega
      have h1 : (k : Int) < (t.size : Int) := by omega
      have hcl := t[k].toNat_lt
      by_cases hlo : t[k].toNat < 48
      · have n1 : (t[k].toNat : Int) < 48 := by omega
        have HF := Lib.hid (HI.out.2 (by exact notD_at hlt (Or.inl hlo)))
        go_wp2_with fail
        go_ret2
        exact ⟨by rw [HF.out]; rfl, bdrewN (Below.refl _ _) _⟩
      · by_cases hhi : 57 < t[k].toNat
        · have n1 : ¬ (t[k].toNat : Int) < 48 := by omega
          have n2 : (57 : Int) < (t[k].toNat : Int) := by omega
          have HF := Lib.hid (HI.out.2 (by exact notD_at hlt (Or.inr hhi)))
          go_wp2_with fail
          go_ret2
          exact ⟨by rw [HF.out]; rfl, bdrewN (Below.refl _ _) _⟩
        · have n1 : ¬ (t[k].toNat : Int) < 48 := by omega
          have n2 : ¬ (57 : Int) < (t[k].toNat : Int) := by omega
          have HV := Lib.hid (numv_succ (s := t) hlt hr.out)
          have HDD := Lib.hid (allD_succ (s := t) hlt hd.out (by omega) (by omega))
          by_cases h5 : k = 5
          · have HF := Lib.hid (HI.out.2 (by rw [show decide (t.data.toList.length ≤ 5) = false from decide_eq_false (by rw [len_eq]; omega), Bool.and_false]))
            subst h5
            go_wp2_with fail
            go_ret2
            exact ⟨by rw [HF.out]; rfl, bdrewN (Below.refl _ _) _⟩
          · have n4 : ¬ (4 : Int) < (k : Int) := by omega
            have HB := Lib.hid (numv_bound (by rw [List.length_take]; omega : (t.data.toList.take (k + 1)).length ≤ 5) HDD.out)
            go_wp2_with fail
            go_roundw
            case rel => exact ⟨k + 1, 10 * r + ((t[k].toNat : Int) - 48), by omega, by omega, by go_num, by go_num, by omega, by rw [HV.out]; exact HB.out, HV, HDD, _, rfl⟩
            case measure => simp [intOf]; omega
    · have hT : t.data.toList.take k = t.data.toList := List.take_of_length_le (by rw [len_eq]; omega)
      have hall : (allD t.data.toList && decide (t.data.toList.length ≤ 5)) = true := by
        rw [← hT, hd.out, hT, Bool.true_and]; exact decide_eq_true (by rw [len_eq]; omega)
      have hrr := hr.out
      rw [hT] at hrr
      by_cases ht0 : t.size = 0
      · have htn : t = S [] := S_inj (List.eq_nil_of_length_eq_zero (by rw [len_eq]; exact ht0))
        have hF : res = (0, false) := by rw [HI.out.1 hall, htn]; rfl
        have hr0 : r = 0 := by rw [hrr, htn]; rfl
        have hk0 : k = 0 := by omega
        have HF := Lib.hid hF
        clear hT hall hrr hF hr HI hd
        subst htn hr0 hk0
        go_wp2_with fail
        go_ret2
        exact ⟨by rw [HF.out]; rfl, bdrewN (Below.refl _ _) _⟩
      · have hne : t.data.toList.isEmpty = false := by
          rw [List.isEmpty_eq_false_iff]; intro e; have := len_eq t; rw [e] at this; simp at this; omega
        have n6 : (t.toList == []) = false := ne_str (by intro e; have := len_eq t; rw [e] at this; simp at this; omega)
        have hF : res = (-r, true) := by
          rw [HI.out.1 hall, hne, hrr]; simp
        have HF := Lib.hid hF
        clear hT hne hF hall hrr
        go_wp2_with fail
        go_ret2
        exact ⟨by rw [HF.out]; rfl, bdrewN (Below.refl _ _) _⟩
theorem integer_any (s : ByteArray) (w : World) (hs : s.size ≤ 100000000) :
    Calls Tryz.prog 76 #[.string s] w fun e w' => e = .returned (.tuple #[.int .i64 (intw s.data.toList).1, .bool (intw s.data.toList).2]) ∧ Below w.heap.size w w' := by
  by_cases h : s.data.toList.head? = some 45
  · have h0 : 0 < s.size := by
      rcases Nat.eq_zero_or_pos s.size with h0 | h0
      · rw [List.eq_nil_of_length_eq_zero (by rw [len_eq]; exact h0 : s.data.toList.length = 0)] at h; cases h
      · exact h0
    have hc : s[0] = 45 := by
      rw [List.head?_eq_getElem?, List.getElem?_eq_getElem (by rw [len_eq]; omega), Array.getElem_toList] at h
      exact Option.some.inj h
    have := integer_minus s w hs h0 hc
    unfold intw
    rw [if_pos h, ← List.drop_one]
    exact this
  · have := integer_plain s w hs h
    unfold intw
    rw [if_neg h]
    exact this
end Go.Proofs.YtlfoigkpfooopaaGreatDoor
