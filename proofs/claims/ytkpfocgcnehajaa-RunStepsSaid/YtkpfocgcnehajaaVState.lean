/- Package run: the test of a state. By an AI agent. -/
import Derived.Test.YtkpfocgcnehajaaSameS
import Derived.Test.YtkpfocgcnehajaaRunB
namespace Go.Proofs.Ytkpfocgcnehajaa
open Go.RowKit Pl

/-- a state's registers as an argument: n strings -/
def RegsP (w : World) (v : Value) (ls : List (List UInt8)) : Prop := (ls = [] ∧ (v = .slice none 0 0 ∨ ∃ ad cap, v = .slice (some ad) 0 cap)) ∨ (0 < ls.length ∧ ∃ b off cap, v = .slice (some ⟨b, off, none⟩) ls.length cap ∧ StrAt w b off ls)
/-- whether a state is one of a program of n instructions -/
def SFits (a : Int) (ls : List (List UInt8)) (n : Nat) : Prop := 0 ≤ a ∧ a ≤ n ∧ ls.length = 32 ∧ ∀ l ∈ ls, vld l = true
set_option maxHeartbeats 1600000 in
set_option maxRecDepth 100000 in
theorem vstate_short (w : World) (a : Int) (A : Option Addr) (len cap n : Nat) (h : a < 0 ∨ (n : Int) < a ∨ len ≠ 32) :
    Calls Try.prog 102 #[.agg #[.int .i64 a, .slice A len cap], .int .i64 (n : Int)] w fun e w' => e = .returned (.bool false) ∧ Below w.heap.size w w' := by
  have hb : Below w.heap.size w (w.alloc (.cells #[.int .i64 a, .slice A len cap] 78)) := (Below.refl _ _).alloc (Nat.le_refl _) _
  have HB := Lib.hid hb
  clear hb
  by_cases h1 : a < 0
  · clear h
    go_enter Try.func102, Try.ntmps102
    go_wp2
    go_ret
    exact ⟨rfl, HB.out⟩
  · by_cases h2 : (n : Int) < a
    · clear h
      go_enter Try.func102, Try.ntmps102
      go_wp2
      go_ret
      exact ⟨rfl, HB.out⟩
    · have h3 : ((len : Int) == 32) = false := beq_eq_false_iff_ne.2 (by omega)
      have h4 : ¬ (len : Int) = 32 := by omega
      clear h
      go_enter Try.func102, Try.ntmps102
      go_wp2
      go_ret
      exact ⟨rfl, HB.out⟩
set_option maxHeartbeats 1600000 in
set_option maxRecDepth 100000 in
theorem vstate_full (w : World) (a : Int) (b off cap n : Nat) (ls : List (List UInt8)) (r : Bool) (h1 : 0 ≤ a) (h2 : a ≤ (n : Int)) (hl : ls.length = 32) (hc : StrAt w b off ls) (hz : ∀ l ∈ ls, l.length ≤ 281474976710656) (hr : r = true ↔ ∀ l ∈ ls, vld l = true) :
    Calls Try.prog 102 #[.agg #[.int .i64 a, .slice (some ⟨b, off, none⟩) 32 cap], .int .i64 (n : Int)] w fun e w' => e = .returned (.bool r) ∧ Below w.heap.size w w' := by
  have hb0 : Below w.heap.size w (w.alloc (.cells #[.int .i64 a, .slice (some ⟨b, off, none⟩) 32 cap] 78)) := (Below.refl _ _).alloc (Nat.le_refl _) _
  have HB0 := Lib.hid hb0
  have HC := Lib.hid hc; have HZ := Lib.hid hz; have HR := Lib.hid hr; have HN := Lib.hid hl
  have g1 : ¬ a < 0 := by omega
  have g2 : ¬ (n : Int) < a := by omega
  clear hb0 hc hz hr hl h1 h2
  go_enter Try.func102, Try.ntmps102
  go_wp2_with fail
  generalize w.alloc (.cells #[.int .i64 a, .slice (some ⟨b, off, none⟩) 32 cap] 78) = w0 at *
  go_loopw [25] (fun i wr => ∃ k : Nat, k ≤ 32 ∧ i = .int .i64 k ∧ Below w.heap.size w wr ∧ Hid (∀ j, j < k → vld (ls.getD j []) = true)) (fun i _ => 32 - (intOf i).toNat)
  case atStart => exact ⟨0, Nat.zero_le _, rfl, HB0.out, Lib.hid (fun j hj => by omega)⟩
  case round =>
    obtain ⟨k, hk, rfl, hb, hK⟩ := hrel
    by_cases hlt : k < 32
    · have hcell := (HC.out.below hb).2 k (by rw [HN.out]; exact hlt)
      have hxl : (ls.getD k []).length ≤ 281474976710656 := HZ.out _ (by simp [List.getD, HN.out, hlt])
      have hmem : ls.getD k [] ∈ ls := by simp [List.getD, HN.out, hlt]
      have HME := Lib.hid hmem; clear hmem
      generalize hX : ls.getD k [] = x at *
      have HX := Lib.hid hX; clear hX
      have i0 : (0 : Int) ≤ (k : Int) := by omega
      have i1 : (k : Int) < 32 := by omega
      by_cases hv : vld x = true
      · have hV := fun W : World => Valid_is true (S x) W (by rw [S_size]; exact hxl) hv
        have HVX := Lib.hid hv; have HW := Lib.hid hV; clear hv hV
        go_wp2_with (go_at_call 67; refine (HW.out _).mono ?_; rintro e w1 ⟨rfl, hb1⟩)
        go_roundw
        case rel => exact ⟨k + 1, by omega, by go_num, hb.trans (hb1.mono hb.size), Lib.hid (fun j hj => by
          rcases Nat.lt_or_ge j k with h | h
          · exact hK.out j h
          · obtain rfl : j = k := by omega
            rw [HX.out]; exact HVX.out)⟩
        case measure => simp [intOf]; omega
      · have hv : vld x = false := by simpa using hv
        have hV := fun W : World => Valid_is false (S x) W (by rw [S_size]; exact hxl) hv
        have HVX := Lib.hid hv
        have HW := Lib.hid hV; clear hv hV
        go_wp2_with (go_at_call 67; refine (HW.out _).mono ?_; rintro e w1 ⟨rfl, hb1⟩)
        go_ret
        refine ⟨?_, hb.trans (hb1.mono hb.size)⟩
        cases r with
        | false => rfl
        | true => have := HR.out.1 rfl x HME.out; rw [HVX.out] at this; cases this
    · obtain rfl : k = 32 := by omega
      have hr : r = true := HR.out.2 fun l hl => by
        obtain ⟨j, hj, rfl⟩ := List.getElem_of_mem hl
        have := hK.out j (by have := HN.out; omega)
        simpa [List.getD, hj] using this
      go_wp2
      go_ret
      subst hr
      exact ⟨rfl, hb⟩
theorem vstate_any (w : World) (a : Int) (S0 : Value) (ls : List (List UInt8)) (n : Nat) (r : Bool) (h : RegsP w S0 ls) (hz : ∀ l ∈ ls, l.length ≤ 281474976710656) (hr : r = true ↔ SFits a ls n) :
    Calls Try.prog 102 #[.agg #[.int .i64 a, S0], .int .i64 (n : Int)] w fun e w' => e = .returned (.bool r) ∧ Below w.heap.size w w' := by
  have short : ∀ (A : Option Addr) (cap : Nat), S0 = .slice A ls.length cap → (a < 0 ∨ (n : Int) < a ∨ ls.length ≠ 32) → Calls Try.prog 102 #[.agg #[.int .i64 a, S0], .int .i64 (n : Int)] w fun e w' => e = .returned (.bool r) ∧ Below w.heap.size w w' := fun A cap e hx => by
    subst e
    have hrf : r = false := by
      cases r with
      | false => rfl
      | true => obtain ⟨h1, h2, h3, _⟩ := hr.1 rfl; omega
    rw [hrf]
    exact vstate_short w a A ls.length cap n hx
  rcases h with ⟨rfl, h⟩ | ⟨h0, b, off, cap, rfl, hc⟩
  · obtain ⟨A, cap, rfl⟩ : ∃ A cap, S0 = .slice A 0 cap := by
      rcases h with rfl | ⟨ad, cap, rfl⟩
      · exact ⟨_, _, rfl⟩
      · exact ⟨_, _, rfl⟩
    exact short A cap rfl (.inr (.inr (by decide)))
  · by_cases h1 : 0 ≤ a
    · by_cases h2 : a ≤ (n : Int)
      · by_cases h3 : ls.length = 32
        · rw [h3]
          exact vstate_full w a b off cap n ls r h1 h2 h3 hc hz (hr.trans ⟨fun h => h.2.2.2, fun h => ⟨h1, h2, h3, h⟩⟩)
        · exact short _ cap rfl (.inr (.inr h3))
      · exact short _ cap rfl (.inr (.inl (by omega)))
    · exact short _ cap rfl (.inl (by omega))
theorem RegsP.below {w w' : World} {v : Value} {ls : List (List UInt8)} (h : RegsP w v ls) (hb : Below w.heap.size w w') : RegsP w' v ls := by
  rcases h with h | ⟨h0, b, off, cap, rfl, hc⟩
  · exact .inl h
  · exact .inr ⟨h0, b, off, cap, rfl, hc.below hb⟩
theorem RegsP.slice {w : World} {v : Value} {ls : List (List UInt8)} (h : RegsP w v ls) : ∃ A cap, v = .slice A ls.length cap := by
  rcases h with ⟨rfl, rfl | ⟨ad, cap, rfl⟩⟩ | ⟨h0, b, off, cap, rfl, hc⟩
  · exact ⟨_, _, rfl⟩
  · exact ⟨_, _, rfl⟩
  · exact ⟨_, _, rfl⟩
theorem fits_bool (a : Int) (ls : List (List UInt8)) (n : Nat) : ∃ r : Bool, r = true ↔ SFits a ls n := by
  by_cases h : SFits a ls n
  · exact ⟨true, by simp [h]⟩
  · exact ⟨false, by simp [h]⟩
end Go.Proofs.Ytkpfocgcnehajaa
