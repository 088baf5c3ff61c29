/- The contracts of Number and List (package tree). By an AI agent. -/
import Derived.Test.YtlfoigkpfooopaaGreatDoorReads
import Derived.Test.YtlfoigkpfooopaaGreatDoorMathB
namespace Go.Proofs.YtlfoigkpfooopaaGreatDoor
open Go.RowKit Pl

theorem rep_num (n : Nat) : Lib.repeatL [49, 48] n ++ [48] = num n := by
  induction n with
  | zero => rfl
  | succ n ih => rw [num_succ, ← ih]; rfl
set_option maxHeartbeats 400000 in
set_option maxRecDepth 100000 in
theorem Number_arg (n : Int) (w : World) (h : n < 0) :
    Calls Tryz.prog 97 #[.int .i64 n] w fun e w' => e = .returned (.tuple #[.string (S []), .int .i64 2]) ∧ Below w.heap.size w w' := by
  go_enter Tryz.func97, Tryz.ntmps97
  go_wp2_with fail
  go_ret2
  exact ⟨rfl, Below.refl _ _⟩
set_option maxHeartbeats 400000 in
set_option maxRecDepth 100000 in
theorem Number_size (n : Int) (w : World) (h : 999999 < n) :
    Calls Tryz.prog 97 #[.int .i64 n] w fun e w' => e = .returned (.tuple #[.string (S []), .int .i64 3]) ∧ Below w.heap.size w w' := by
  go_enter Tryz.func97, Tryz.ntmps97
  go_wp2_with fail
  go_ret2
  exact ⟨rfl, Below.refl _ _⟩
set_option maxHeartbeats 400000 in
set_option maxRecDepth 100000 in
theorem Number_yes (n : Nat) (w : World) (h : n ≤ 999999) :
    Calls Tryz.prog 97 #[.int .i64 n] w fun e w' => e = .returned (.tuple #[.string (S (num n)), .int .i64 0]) ∧ Below w.heap.size w w' := by
  have H := Lib.hid (rep_num n)
  have hr := fun W : World => Tryz.strings_Repeat (S [49, 48]) n W (by omega) (by rw [S_size]; simp; omega)
  have hl : (Lib.repeatL [49, 48] n).length ≤ 2000000 := by rw [Lib.repeatL_length]; simp; omega
  generalize hR : Lib.repeatL [49, 48] n = R at *
  have hr2 : ∀ W : World, Calls Tryz.prog 111 #[.string (S [49, 48]), .int .i64 n] W fun e w' => e = .returned (.string (S R)) ∧ Below W.heap.size W w' := hr
  have HR := Lib.hid hr2; clear hr hr2 hR
  go_enter Tryz.func97, Tryz.ntmps97
  go_wp2_with (go_at_call 111; refine (HR.out _).mono ?_; rintro e w1 ⟨rfl, hb1⟩)
  go_ret2
  exact ⟨by rw [← H.out]; rfl, hb1⟩

/-- the list holds what is valid -/
def AllV (ls : List (List UInt8)) : Prop := ∀ l ∈ ls, vld l = true
theorem AllV.at {ls : List (List UInt8)} (h : AllV ls) {k : Nat} (hk : k < ls.length) : vld (ls.getD k []) = true := h _ (by simp [List.getD, hk])

/-- cells of a slice of strings -/
def StrAt (w : World) (b off : Nat) (ls : List (List UInt8)) : Prop := b < w.heap.size ∧ ∀ k, k < ls.length → w.cell? ⟨b, off + k, none⟩ = some (.string (S (ls.getD k [])))
theorem StrAt.below {w w1 : World} {b off : Nat} {ls : List (List UInt8)} (h : StrAt w b off ls) (hb : Below w.heap.size w w1) : StrAt w1 b off ls :=
  ⟨Nat.lt_of_lt_of_le h.1 hb.size, fun k hk => by rw [hb.cell (p := ⟨b, off + k, none⟩) h.1]; exact h.2 k hk⟩

set_option maxHeartbeats 400000 in
set_option maxRecDepth 100000 in
theorem List_form (w : World) (b off cap : Nat) (ls : List (List UInt8)) (hc : StrAt w b off ls) (hm : ls.length ≤ 281474976710656) (hz : ∀ l ∈ ls, l.length ≤ 281474976710656) (hn : ¬ AllV ls) :
    Calls Tryz.prog 30 #[.slice (some ⟨b, off, none⟩) ls.length cap] w fun e w' => e = .returned (.tuple #[.string (S []), .int .i64 1]) ∧ Below w.heap.size w w' := by
  generalize hnn : ls.length = n at *
  have HN := Lib.hid hnn; clear hnn
  have HC := Lib.hid hc; have HZ := Lib.hid hz; have HV := Lib.hid hn; clear hc hz hn
  go_enter Tryz.func30, Tryz.ntmps30
  go_wp2
  go_loopw [14] (fun i wr => ∃ k : Nat, k ≤ n ∧ i = .int .i64 k ∧ Below w.heap.size w wr ∧ Hid (∀ j, j < k → vld (ls.getD j []) = true)) (fun i _ => n - (intOf i).toNat)
  case atStart => exact ⟨0, Nat.zero_le _, rfl, Below.refl _ _, Lib.hid (fun j hj => by omega)⟩
  case round =>
    obtain ⟨k, hk, rfl, hb, hK⟩ := hrel
    by_cases hlt : k < n
    · have hcell := (HC.out.below hb).2 k (by rw [HN.out]; exact hlt)
      have hxl : (ls.getD k []).length ≤ 281474976710656 := HZ.out _ (by simp [List.getD, HN.out, hlt])
      generalize hX : ls.getD k [] = x at *
      have HX := Lib.hid hX; clear hX
      by_cases hv : vld x = true
      · have hV := fun W : World => Valid_is true (S x) W (by rw [S_size]; exact hxl) hv
        have HVX := Lib.hid hv; have HW := Lib.hid hV; clear hv hV
        go_wp2_with (go_at_call 48; refine (HW.out _).mono ?_; rintro e w1 ⟨rfl, hb1⟩)
        go_roundw
        case rel => exact ⟨k + 1, by omega, by go_num, hb.trans (hb1.mono hb.size), Lib.hid (fun j hj => by
          rcases Nat.lt_or_ge j k with h | h
          · exact hK.out j h
          · obtain rfl : j = k := by omega
            rw [HX.out]; exact HVX.out)⟩
        case measure => simp [intOf]; omega
      · have hv : vld x = false := by simpa using hv
        have hV := fun W : World => Valid_is false (S x) W (by rw [S_size]; exact hxl) hv
        have HW := Lib.hid hV; clear hv hV
        go_wp2_with (go_at_call 48; refine (HW.out _).mono ?_; rintro e w1 ⟨rfl, hb1⟩)
        go_ret2
        exact ⟨rfl, hb.trans (hb1.mono hb.size)⟩
    · exfalso
      refine HV.out (fun l hl => ?_)
      obtain ⟨j, hj, rfl⟩ := List.getElem_of_mem hl
      have := hK.out j (by have := HN.out; omega)
      simpa [List.getD, hj] using this

theorem encTo_len (ls : List (List UInt8)) (k : Nat) (h : k < ls.length) : (encTo ls (k + 1)).length = (encTo ls k).length + (1 + (ls.getD k []).length) := by
  rw [encTo_succ ls k h]; simp; omega

set_option maxHeartbeats 800000 in
set_option maxRecDepth 100000 in
theorem List_size (w : World) (b off cap : Nat) (ls : List (List UInt8)) (hc : StrAt w b off ls) (hm : ls.length ≤ 281474976710656) (hn : AllV ls) (hz : 2000000 < (enc ls).length) :
    Calls Tryz.prog 30 #[.slice (some ⟨b, off, none⟩) ls.length cap] w fun e w' => e = .returned (.tuple #[.string (S []), .int .i64 3]) ∧ Below w.heap.size w w' := by
  generalize hnn : ls.length = n at *
  have HN := Lib.hid hnn; clear hnn
  have HC := Lib.hid hc; have HZ := Lib.hid hz; have HV := Lib.hid hn; clear hc hz hn
  go_enter Tryz.func30, Tryz.ntmps30
  go_wp2
  go_loopw [14] (fun i wr => ∃ k : Nat, k ≤ n ∧ i = .int .i64 k ∧ Below w.heap.size w wr) (fun i _ => n - (intOf i).toNat)
  case atStart => exact ⟨0, Nat.zero_le _, rfl, Below.refl _ _⟩
  case round =>
    obtain ⟨k, hk, rfl, hb⟩ := hrel
    by_cases hlt : k < n
    · have hcell := (HC.out.below hb).2 k (by rw [HN.out]; exact hlt)
      have hv := HV.out.at (k := k) (by rw [HN.out]; exact hlt)
      generalize ls.getD k [] = x at *
      have hV := fun W : World => Valid_is true (S x) W (by rw [S_size]; have := (vld_iff.1 hv).1; omega) hv
      have HW := Lib.hid hV; clear hv hV
      go_wp2_with (go_at_call 48; refine (HW.out _).mono ?_; rintro e w1 ⟨rfl, hb1⟩)
      go_roundw
      case rel => exact ⟨k + 1, by omega, by go_num, hb.trans (hb1.mono hb.size)⟩
      case measure => simp [intOf]; omega
    · go_wp2
      go_loop [6, 24] (fun z i => ∃ k : Nat, k ≤ n ∧ i = .int .i64 k ∧ z = .int .i64 (((encTo ls k).length + 1 : Nat) : Int) ∧ (encTo ls k).length + 1 ≤ 2000000) (fun _ i => n - (intOf i).toNat)
      case atStart => exact ⟨0, Nat.zero_le _, rfl, rfl, by rw [encTo_zero]; simp⟩
      case round =>
        obtain ⟨j, hj, rfl, rfl, hle⟩ := hrel
        by_cases hjt : j < n
        · have hcell := (HC.out.below hb).2 j (by rw [HN.out]; exact hjt)
          have hxl : (ls.getD j []).length ≤ 2000000 := (vld_iff.1 (HV.out.at (k := j) (by rw [HN.out]; exact hjt))).1
          have hst := encTo_len ls j (by rw [HN.out]; exact hjt)
          generalize ls.getD j [] = x at *
          generalize hE1 : (encTo ls (j + 1)).length = p at *
          generalize (encTo ls j).length = q at *
          have HE1 := Lib.hid hE1; clear hE1
          subst hst
          by_cases hbig : 2000000 < q + 1 + (1 + x.length)
          · go_wp2
            go_ret2
            exact ⟨rfl, hb⟩
          · go_wp2
            go_round
            case rel => exact ⟨j + 1, by omega, by go_num, by rw [HE1.out]; go_num, by rw [HE1.out]; omega⟩
            case measure => simp [intOf]; omega
        · exfalso
          have h1 := HZ.out
          rw [enc_all, ← encTo_out ls (k := j) (by rw [HN.out]; omega)] at h1
          simp at h1; omega

theorem WS (B b : Nat) (l x : List UInt8) (w : World) (h : Lib.IsBuilder 84 5 B b (Lib.byteCells l) w) (hlen : l.length + x.length ≤ 140737488355328) (hBw : B ≤ w.heap.size) :
    Calls Tryz.prog 63 #[.pointer (some ⟨b, 0, none⟩), .string (S x)] w fun e w' => e = .returned (.tuple #[.int .i64 x.length, .nilIface]) ∧ Lib.IsBuilder 84 5 B b (Lib.byteCells (l ++ x)) w' ∧ Below B w w' := by
  refine (Tryz.Builder_WriteString B b _ (S x) w h (by rw [Lib.byteCells_length, S_size]; exact hlen) hBw).mono fun e w' ⟨h1, h2, h3⟩ => ⟨by rw [h1, S_size], ?_, h3⟩
  rw [Lib.byteCells_append]
  exact Or.inr h2

set_option maxHeartbeats 1600000 in
set_option maxRecDepth 100000 in
theorem List_yes (w : World) (b off cap : Nat) (ls : List (List UInt8)) (hc : StrAt w b off ls) (hm : ls.length ≤ 281474976710656) (hn : AllV ls) (hz : (enc ls).length ≤ 2000000) :
    Calls Tryz.prog 30 #[.slice (some ⟨b, off, none⟩) ls.length cap] w fun e w' => e = .returned (.tuple #[.string (S (enc ls)), .int .i64 0]) ∧ Below w.heap.size w w' := by
  generalize hnn : ls.length = n at *
  have HN := Lib.hid hnn; clear hnn
  have HC := Lib.hid hc; have HZ := Lib.hid hz; have HV := Lib.hid hn; clear hc hz hn
  go_enter Tryz.func30, Tryz.ntmps30
  go_wp2
  go_loopw [14] (fun i wr => ∃ k : Nat, k ≤ n ∧ i = .int .i64 k ∧ Below w.heap.size w wr) (fun i _ => n - (intOf i).toNat)
  case atStart => exact ⟨0, Nat.zero_le _, rfl, Below.refl _ _⟩
  case round =>
    obtain ⟨k, hk, rfl, hb⟩ := hrel
    by_cases hlt : k < n
    · have hcell := (HC.out.below hb).2 k (by rw [HN.out]; exact hlt)
      have hv := HV.out.at (k := k) (by rw [HN.out]; exact hlt)
      generalize ls.getD k [] = x at *
      have hV := fun W : World => Valid_is true (S x) W (by rw [S_size]; have := (vld_iff.1 hv).1; omega) hv
      have HW := Lib.hid hV; clear hv hV
      go_wp2_with (go_at_call 48; refine (HW.out _).mono ?_; rintro e w1 ⟨rfl, hb1⟩)
      go_roundw
      case rel => exact ⟨k + 1, by omega, by go_num, hb.trans (hb1.mono hb.size)⟩
      case measure => simp [intOf]; omega
    · go_wp2
      go_loop [6, 24] (fun z i => ∃ k : Nat, k ≤ n ∧ i = .int .i64 k ∧ z = .int .i64 (((encTo ls k).length + 1 : Nat) : Int) ∧ (encTo ls k).length + 1 ≤ 2000000) (fun _ i => n - (intOf i).toNat)
      case atStart => exact ⟨0, Nat.zero_le _, rfl, rfl, by rw [encTo_zero]; simp⟩
      case round =>
        obtain ⟨j, hj, rfl, rfl, hle⟩ := hrel
        by_cases hjt : j < n
        · have hcell := (HC.out.below hb).2 j (by rw [HN.out]; exact hjt)
          have hxl : (ls.getD j []).length ≤ 2000000 := (vld_iff.1 (HV.out.at (k := j) (by rw [HN.out]; exact hjt))).1
          have hst := encTo_len ls j (by rw [HN.out]; exact hjt)
          have htop := Nat.le_trans (encTo_le ls (j + 1)) HZ.out
          generalize ls.getD j [] = x at *
          generalize hE1 : (encTo ls (j + 1)).length = p at *
          generalize (encTo ls j).length = q at *
          have HE1 := Lib.hid hE1; clear hE1
          subst hst
          go_wp2
          go_round
          case rel => exact ⟨j + 1, by omega, by go_num, by rw [HE1.out]; go_num, by rw [HE1.out]; omega⟩
          case measure => simp [intOf]; omega
        · obtain ⟨wo, rfl⟩ : ∃ wo : World, wo = wr := ⟨_, rfl⟩
          have hzz : (encTo ls j).length + 1 ≤ 2000000 := hle
          generalize (encTo ls j).length = q at *
          have HBK := Lib.hid (heap_alloc_new wo (.cells #[.pointer none, .slice none 0 0] 84))
          go_wp2_with (go_at_call 62; refine (Tryz.Builder_Grow_fresh wo.heap.size wo.heap.size (q + 1) _ (Nat.le_refl _) HBK.out (by simp) (by omega)).mono ?_; rintro e w1 ⟨rfl, hB1, hb1⟩)
          have hb2 : Below wo.heap.size wo w1 := ((Below.refl _ wo).alloc (Nat.le_refl _) _).trans hb1
          clear hb1
          go_loopw [40] (fun i W => ∃ k : Nat, k ≤ n ∧ i = .int .i64 k ∧ Lib.IsBuilder 84 5 wo.heap.size wo.heap.size (Lib.byteCells (encTo ls k)) W ∧ Below wo.heap.size wo W) (fun i _ => n - (intOf i).toNat)
          case atStart => exact ⟨0, Nat.zero_le _, rfl, Or.inr hB1, hb2⟩
          case round =>
            obtain ⟨i, hi, rfl, hI, hbw⟩ := hrel
            have hsz := hbw.size
            have hEi := encTo_le ls i
            have hZ := HZ.out
            by_cases hit : i < n
            · have hcell := (HC.out.below (hb.trans (hbw.mono hb.size))).2 i (by rw [HN.out]; exact hit)
              have hst := Lib.hid (encTo_succ ls i (by rw [HN.out]; exact hit))
              have hst2 := encTo_len ls i (by rw [HN.out]; exact hit)
              have htop := encTo_le ls (i + 1)
              generalize ls.getD i [] = x at *
              generalize encTo ls i = l at *
              have hw1 := fun (W : World) h hs => WS wo.heap.size wo.heap.size l [49] W h (by simp; omega) hs
              have hw2 := fun (W : World) h hs => WS wo.heap.size wo.heap.size (l ++ [49]) x W h (by simp; omega) hs
              have HW1 := Lib.hid hw1; have HW2 := Lib.hid hw2
              clear hw1 hw2 hst2 htop hEi hZ
              go_wp2_with fail
              refine (HW1.out _ hI hsz).mono ?_
              rintro e w2 ⟨rfl, hI2, hb3⟩
              have hsz2 := hb3.size
              go_wp2_with fail
              refine (HW2.out _ hI2 (Nat.le_trans hsz hsz2)).mono ?_
              rintro e w3 ⟨rfl, hI3, hb4⟩
              go_wp2_with fail
              go_roundw
              case rel => exact ⟨i + 1, by omega, by go_num, by rw [hst.out]; exact hI3, (hbw.trans hb3).trans hb4⟩
              case measure => simp [intOf]; omega
            · have hE := encTo_out ls (k := i) (by rw [HN.out]; omega)
              have hF := enc_all ls
              rw [← hE] at hF
              generalize encTo ls i = l at *
              have HF := Lib.hid hF
              clear hE hF
              have hw1 := fun (W : World) h hs => WS wo.heap.size wo.heap.size l [48] W h (by simp; omega) hs
              have HW1 := Lib.hid hw1; clear hw1 hEi hZ
              go_wp2_with fail
              refine (HW1.out _ hI hsz).mono ?_
              rintro e w2 ⟨rfl, hI2, hb3⟩
              have hsz2 := hb3.size
              go_wp2_with fail
              refine (Tryz.Builder_String_any wo.heap.size wo.heap.size (l ++ [48]) _ hI2 (Nat.le_trans hsz hsz2)).mono ?_
              rintro e w3 ⟨rfl, hb4⟩
              go_wp2_with fail
              go_ret2
              exact ⟨by rw [HF.out]; rfl, hb.trans (((hbw.trans hb3).trans hb4).mono hb.size)⟩

set_option maxHeartbeats 800000 in
set_option maxRecDepth 100000 in
/-- no element: nil or not -/
theorem List_none (w : World) (a : Option Addr) (cap : Nat) :
    Calls Tryz.prog 30 #[.slice a 0 cap] w fun e w' => e = .returned (.tuple #[.string (S (enc [])), .int .i64 0]) ∧ Below w.heap.size w w' := by
  go_enter Tryz.func30, Tryz.ntmps30
  go_wp2
  go_loop [14] (fun i => i = .int .i64 0) (fun _ => 0)
  case atStart => rfl
  case round =>
    subst hrel
    go_wp2
    go_loop [6, 24] (fun z i => i = .int .i64 0 ∧ z = .int .i64 1) (fun _ _ => 0)
    case atStart => exact ⟨rfl, rfl⟩
    case round =>
      obtain ⟨rfl, rfl⟩ := hrel
      have HBK := Lib.hid (heap_alloc_new w (.cells #[.pointer none, .slice none 0 0] 84))
      go_wp2_with (go_at_call 62; refine (Tryz.Builder_Grow_fresh w.heap.size w.heap.size 1 _ (Nat.le_refl _) HBK.out (by simp) (by omega)).mono ?_; rintro e w1 ⟨rfl, hB1, hb1⟩)
      have hb2 : Below w.heap.size w w1 := ((Below.refl _ w).alloc (Nat.le_refl _) _).trans hb1
      clear hb1
      go_loop [40] (fun i => i = .int .i64 0) (fun _ => 0)
      case atStart => rfl
      case round =>
        subst hrel
        have hw1 := fun (W : World) h hs => WS w.heap.size w.heap.size [] [48] W h (by simp) hs
        have HW1 := Lib.hid hw1; clear hw1
        go_wp2_with fail
        refine (HW1.out _ (Or.inr hB1) hb2.size).mono ?_
        rintro e w2 ⟨rfl, hI2, hb3⟩
        have hsz2 := hb3.size
        go_wp2_with fail
        refine (Tryz.Builder_String_any w.heap.size w.heap.size [48] _ hI2 (Nat.le_trans hb2.size hsz2)).mono ?_
        rintro e w3 ⟨rfl, hb4⟩
        go_wp2_with fail
        go_ret2
        exact ⟨rfl, (hb2.trans hb3).trans hb4⟩
end Go.Proofs.YtlfoigkpfooopaaGreatDoor
